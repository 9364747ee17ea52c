/- normal.Degrees: for each node the arcs that leave it and that enter it, in new memory; beside an error nothing. -/
import Derived.Test.YtbfopkhdngfanaaDegI
import Derived.Deep.DeepCutAuto
import Derived.Deep.RegionHeld
namespace Go.Proofs.Ytbfopkhdngfanaa
open Go.RowKit Go.Extern Go.Sort Go.Shelf

attribute [local go_sem] Oper.semAt_some

theorem info3i : (Try.prog.info? 3).map (fun i => (i.zero, i.size, i.bytes)) = some (some (.int .i64 0), 1, 8) := by kernel_rfl

/-- the two rows are made, in either order. -/
theorem deg_two (W : World) (n : Nat) (xs : List (Int × Int × Int)) : DegI W W.heap.size (W.heap.size + 1) n xs 0 ((W.alloc (.cells (madeCells #[.int .i64 0] n) 3)).alloc (.cells (madeCells #[.int .i64 0] n) 3)).drew ∧ DegI W (W.heap.size + 1) W.heap.size n xs 0 ((W.alloc (.cells (madeCells #[.int .i64 0] n) 3)).alloc (.cells (madeCells #[.int .i64 0] n) 3)).drew := by
  have hb : Below W.heap.size W ((W.alloc (.cells (madeCells #[.int .i64 0] n) 3)).alloc (.cells (madeCells #[.int .i64 0] n) 3)).drew := (((Below.refl _ W).alloc (Nat.le_refl _) _).alloc (by simp) _).drew
  have k0 : (((W.alloc (.cells (madeCells #[.int .i64 0] n) 3)).alloc (.cells (madeCells #[.int .i64 0] n) 3)).drew).heap[W.heap.size]? = some (.cells (madeCells #[.int .i64 0] n) 3) := by
    show ((W.alloc (.cells (madeCells #[.int .i64 0] n) 3)).alloc (.cells (madeCells #[.int .i64 0] n) 3)).heap[W.heap.size]? = _
    rw [Below.heap_alloc _ _ _ (by simp)]; exact heap_new _ _
  have k1 : (((W.alloc (.cells (madeCells #[.int .i64 0] n) 3)).alloc (.cells (madeCells #[.int .i64 0] n) 3)).drew).heap[W.heap.size + 1]? = some (.cells (madeCells #[.int .i64 0] n) 3) := by
    show ((W.alloc (.cells (madeCells #[.int .i64 0] n) 3)).alloc (.cells (madeCells #[.int .i64 0] n) 3)).heap[W.heap.size + 1]? = _
    have h := heap_new (W.alloc (.cells (madeCells #[.int .i64 0] n) 3)) (.cells (madeCells #[.int .i64 0] n) 3)
    simpa using h
  exact ⟨DegI.start W _ _ _ n xs k0 k1 (by omega) (by omega) (by omega) hb, DegI.start W _ _ _ n xs k1 k0 (by omega) (by omega) (by omega) hb⟩

set_option maxRecDepth 100000 in
set_option maxHeartbeats 4000000 in
theorem degrees_calls (N : Int) (ao : Option Addr) (cap : Nat) (xs : List (Int × Int × Int)) (w : World) (hl : HasArcs w (.slice ao xs.length cap) xs) (hm : xs.length ≤ maxLen) :
    Calls Try.prog 11 #[.agg #[.int .i64 N, .slice ao xs.length cap]] w fun e w' => ∃ v fv tv fl tl, e = .returned (.tuple #[fv, tv, v]) ∧ HasInts w' fv fl ∧ HasInts w' tv tl ∧ (NewV w fv ∧ NewV w tv) ∧ IsTold w' (graphErr N xs) v ∧ ((graphErr N xs = (0, []) ∧ fl = outL N.toNat xs ∧ tl = inL N.toNat xs) ∨ (graphErr N xs ≠ (0, []) ∧ fl = [] ∧ tl = [])) ∧ Below w.heap.size w w' := by
  obtain ⟨W0, hW0⟩ : ∃ W0, w.alloc (.cells #[.int .i64 N, .slice ao xs.length cap] 24) = W0 := ⟨_, rfl⟩
  have hB0 : Below w.heap.size w W0 := by rw [← hW0]; exact (Below.refl _ w).alloc (Nat.le_refl _) _
  have k0 : W0.heap[w.heap.size]? = some (.cells #[.int .i64 N, .slice ao xs.length cap] 24) := by rw [← hW0]; exact heap_new _ _
  have HW0 : Hid (w.alloc (.cells #[.int .i64 N, .slice ao xs.length cap] 24) = W0) := hW0
  have HB0 : Hid (Below w.heap.size w W0) := hB0
  have HCK : Hid (Calls Try.prog 17 #[.agg #[.int .i64 N, .slice ao xs.length cap]] W0 fun e w' => ∃ v, e = .returned v ∧ IsTold w' (graphErr N xs) v ∧ Below W0.heap.size W0 w') := check_calls N ao cap xs W0 (hl.keep hB0) hm
  unfold maxLen at hm
  have HL : Hid (HasArcs w (.slice ao xs.length cap) xs) := hl
  have HK0 : Hid (W0.heap[w.heap.size]? = some (.cells #[.int .i64 N, .slice ao xs.length cap] 24)) := k0
  clear hl k0 hB0 hW0
  go_enter Try.func11, Try.ntmps11
  go_wp2_with fail
  rw [HW0.out]
  refine HCK.out.mono ?_
  rintro e w1 ⟨v, rfl, ht1, hb1⟩
  have HT1 : Hid (IsTold w1 (graphErr N xs) v) := ht1
  have HB1 : Hid (Below w.heap.size w w1) := HB0.out.trans (hb1.mono HB0.out.size)
  have HK1 : Hid (w1.heap[w.heap.size]? = some (.cells #[.int .i64 N, .slice ao xs.length cap] 24)) := (hb1.block _ (lt_of_get HK0.out)).trans HK0.out
  have hs2 : w.heap.size < w1.heap.size := lt_of_get HK1.out
  obtain ⟨c0, c1⟩ : w1.cell? ⟨w.heap.size, 0, none⟩ = some (.int .i64 N) ∧ w1.cell? ⟨w.heap.size, 1, none⟩ = some (.slice ao xs.length cap) := by simp [World.cell?, HK1.out]
  clear hb1
  rcases ht1 with ⟨hg, hv⟩ | ⟨hg, hv⟩
  · subst hv
    have HG : Hid (graphErr N xs = (0, [])) := hg
    have hgood := graph_good hg
    obtain ⟨hN0, hN1, hlen, hends⟩ := hgood
    obtain ⟨n, rfl⟩ : ∃ n : Nat, N = (n : Int) := ⟨N.toNat, by omega⟩
    have HE : Hid (∀ (k : Nat) (a : Int × Int × Int), xs[k]? = some a → 0 ≤ a.1 ∧ a.1 < n ∧ 0 ≤ a.2.1 ∧ a.2.1 < n) := hends
    have hmk := run_make_row' (P := Try.prog) 37 3 (.int .i64 0) 8 Try.underlying37 info3i rfl .i64 .i64 n (by omega) (by omega)
    have HD : Hid (_ ∧ _) := deg_two w1 n xs
    clear hg hends
    go_upto_region 4 with fail
    go_cut [6, 7] (fun f t wx => ∃ F T, f = .slice (some ⟨F, 0, none⟩) n n ∧ t = .slice (some ⟨T, 0, none⟩) n n ∧ DegI w1 F T n xs 0 wx)
    case first =>
      go_region_held (fun w' => w'.cell? ⟨w.heap.size, 0, none⟩ = some (.int .i64 n)) (go_keep) (first | fail)
      all_goals (go_wp2_with fail; go_meet; refine ⟨_, _, rfl, rfl, ?_⟩)
      · exact HD.out.1
      · exact HD.out.2
    case rest =>
      obtain ⟨F, T, hf, ht, hd⟩ := hcut
      subst hf
      subst ht
      have HD2 : Hid (DegI w1 F T n xs 0 wc) := hd
      have d1 := (hd.below.cell (p := ⟨w.heap.size, 1, none⟩) hs2).trans c1
      clear hd c0 c1 hmk HD
      generalize wc = w2 at *
      go_wp2_with fail
      go_loopw [24] (fun iv wr => ∃ k : Nat, k ≤ xs.length ∧ iv = .int .i64 k ∧ DegI w1 F T n xs k wr) (fun iv _ => xs.length - (intOf iv).toNat)
      case atStart => exact ⟨0, Nat.zero_le _, rfl, HD2.out⟩
      case round =>
        obtain ⟨k, hk, rfl, hinv⟩ := hrel
        have HI : Hid (DegI w1 F T n xs k wr) := hinv
        clear hinv d1
        by_cases hlt : k < xs.length
        · obtain ⟨a, ha⟩ : ∃ a, xs[k]? = some a := ⟨xs[k], List.getElem?_eq_getElem hlt⟩
          obtain ⟨i, j, c, hi, hj, rfl⟩ : ∃ (i j : Nat) (c : Int), i < n ∧ j < n ∧ a = ((i : Int), (j : Int), c) := by
            obtain ⟨a0, a1, a2⟩ := a
            obtain ⟨p0, p1, p2, p3⟩ := HE.out k _ ha
            simp only at p0 p1 p2 p3
            exact ⟨a0.toNat, a1.toNat, a2, by omega, by omega, by rw [Int.toNat_of_nonneg p0, Int.toNat_of_nonneg p2]⟩
          obtain ⟨b, off, hao, hbl, q0, q1, q2⟩ := HL.out.at ha
          subst hao
          have hbw := HB1.out.trans (HI.out.below.mono HB1.out.size)
          have e0 := (hbw.cell (p := ⟨b, off + k * 3, none⟩) hbl).trans q0
          have e1 := (hbw.cell (p := ⟨b, off + k * 3 + 1, none⟩) hbl).trans q1
          have e2 := (hbw.cell (p := ⟨b, off + k * 3 + 2, none⟩) hbl).trans q2
          simp only at e0 e1 e2
          obtain ⟨of, hof⟩ : ∃ x, cnt (outs xs k) i = x := ⟨_, rfl⟩
          obtain ⟨ot, hot⟩ : ∃ x, cnt (ins xs k) j = x := ⟨_, rfl⟩
          have f0 := HI.out.cf i hi
          have f1 := HI.out.ct j hj
          have HIN : Hid (DegI w1 F T n xs (k + 1) (((wr.setCell ⟨F, i, none⟩ (.int .i64 (of + 1))).setCell ⟨T, j, none⟩ (.int .i64 (ot + 1))).alloc (.cells #[.int .i64 i, .int .i64 j, .int .i64 c] 42))) := by
            have h := (HI.out.next ha hi hj).keep ((Below.refl _ _).alloc (Nat.le_refl _) (.cells #[.int .i64 i, .int .i64 j, .int .i64 c] 42))
            rw [hof, hot] at h
            exact h
          have bo := outs_bound xs k i
          have bi := ins_bound xs k j
          rw [hof] at f0 bo
          rw [hot] at f1 bi
          have z0 := HI.out.ff i
          have z1 := HI.out.ft j
          have hFl := HI.out.lf
          have hTl := HI.out.lt
          have n1 : ¬ F = T := HI.out.ne
          have n2 : ¬ T = F := fun e => HI.out.ne e.symm
          clear q0 q1 q2 ha hof hot hbw
          go_wp2
          go_roundw
          case rel => exact ⟨k + 1, by omega, by go_num, HIN.out⟩
          case measure => simp [intOf]; omega
        · obtain rfl : k = xs.length := by omega
          go_wp2
          refine bodyPost_ret (v := .tuple #[.slice (some ⟨F, 0, none⟩) n n, .slice (some ⟨T, 0, none⟩) n n, .nilIface]) (by kernel_rfl) rfl ?_
          exact ⟨.nilIface, _, _, _, _, rfl, HI.out.outs n, HI.out.ins n, ⟨newV_at (Nat.le_trans HB1.out.size HI.out.hf), newV_at (Nat.le_trans HB1.out.size HI.out.ht)⟩, Or.inl ⟨HG.out, rfl⟩, Or.inl ⟨HG.out, rfl, rfl⟩, HB1.out.trans (HI.out.below.mono HB1.out.size)⟩
  · obtain ⟨T, x, hsh⟩ : ∃ T x, v = .iface T x := by
      cases hps : (graphErr N xs).2 with
      | nil => rw [hps] at hv; exact ⟨_, _, hv⟩
      | cons p r => rw [hps] at hv; obtain ⟨b, u, e, _⟩ := hv; exact ⟨_, _, e⟩
    subst hsh
    have HGN : Hid (graphErr N xs ≠ (0, [])) := fun e => hg (by rw [e])
    clear hg hv
    go_wp2
    refine bodyPost_ret (v := .tuple #[.slice none 0 0, .slice none 0 0, .iface T x]) (by kernel_rfl) rfl ?_
    exact ⟨.iface T x, .slice none 0 0, .slice none 0 0, [], [], rfl, ⟨none, 0, rfl, fun j a hj => by simp at hj⟩, ⟨none, 0, rfl, fun j a hj => by simp at hj⟩, ⟨newV_nil _ _ _, newV_nil _ _ _⟩, HT1.out, Or.inr ⟨HGN.out, rfl, rfl⟩, HB1.out⟩
end Go.Proofs.Ytbfopkhdngfanaa
