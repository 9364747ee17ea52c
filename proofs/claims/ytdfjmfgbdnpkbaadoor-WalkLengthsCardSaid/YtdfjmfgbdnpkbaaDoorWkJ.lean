/- slices.Grow of no list and slices.Concat at numbers; walk.last. -/
import Derived.Test.YtdfjmfgbdnpkbaaDoorWkC
import Derived.Lib.AppendZeros
import Derived.Laws.AppendOwnNone
namespace Go.Proofs.YtdfjmfgbdnpkbaaDoor
open Go.RowKit Go.Extern Go.Sort

attribute [local go_sem] Oper.semAt_some

set_option maxRecDepth 100000 in
set_option maxHeartbeats 2000000 in
theorem growI_calls (n : Nat) (w : World) (hn : n * 8 ≤ 140737488351232) :
    Calls Tryd.prog 52 #[.slice none 0 0, .int .i64 (n : Int)] w fun e w' => ∃ v, e = .returned v ∧ w'.ownsRow w.heap.size 3 1 v 0 [] ∧ Below w.heap.size w w' := by
  obtain ⟨i0, hi, hz0, hz1, hz2⟩ : ∃ i, Tryd.prog.info? 3 = some i ∧ i.zero = some (.int .i64 0) ∧ i.size = 1 ∧ i.bytes = 8 := by
    have h := infoJ
    cases hi : Tryd.prog.info? 3 with
    | none => rw [hi] at h; cases h
    | some i => rw [hi] at h; simp at h; exact ⟨i, rfl, h.1, h.2.1, h.2.2⟩
  have hw : IntKind.i64.wrap ((n : Int) - (0 - 0)) = n := by rw [IntKind.wrap_i64] <;> omega
  have hw2 : IntKind.i64.wrap (n : Int) = n := by rw [IntKind.wrap_i64] <;> omega
  by_cases h0 : n = 0
  · subst h0
    go_enter Tryd.func52, Tryd.ntmps52
    go_wp2
    go_ret
    exact ⟨_, rfl, World.ownsRow_nil _ _ _ _, Below.refl _ _⟩
  · have hrun := Lib.run_append_nil_zeros (P := Tryd.prog) w 22 3 22 3 i0 (.int .i64 0) .i64 .i64 Tryd.underlying22 Tryd.underlying3 hi hz0 n (by omega) (by omega) (by omega) (by rw [hz2]; omega)
    have hcap := grownCap_ge w n 0 3
    have hcm := grownCap_le_maxLen w n 0 3 (by unfold maxLen; omega)
    have HN : Hid ((w.drew.alloc (.cells (Builtin.zeroCells (Value.int .i64 0).cells n ++ Builtin.zeroCells (Value.int .i64 0).cells (grownCap w n 0 3 - n)) 3)).heap[w.heap.size]? = some (.cells (Builtin.zeroCells (Value.int .i64 0).cells n ++ Builtin.zeroCells (Value.int .i64 0).cells (grownCap w n 0 3 - n)) 3)) := heap_new w.drew _
    have HZ : Hid ((Builtin.zeroCells (Value.int .i64 0).cells n ++ Builtin.zeroCells (Value.int .i64 0).cells (grownCap w n 0 3 - n)).size = grownCap w n 0 3 * 1) := by
      show _ = _
      rw [Array.size_append, size_zeroCells, size_zeroCells]
      show n * 1 + (grownCap w n 0 3 - n) * 1 = _
      omega
    have HB : Hid (Below w.heap.size w (w.drew.alloc (.cells (Builtin.zeroCells (Value.int .i64 0).cells n ++ Builtin.zeroCells (Value.int .i64 0).cells (grownCap w n 0 3 - n)) 3))) := (Below.refl _ w).drew.alloc (Nat.le_refl _) _
    generalize Builtin.zeroCells (Value.int .i64 0).cells n ++ Builtin.zeroCells (Value.int .i64 0).cells (grownCap w n 0 3 - n) = Z at *
    generalize grownCap w n 0 3 = C at *
    have HR : Hid ((Builtin.append_ #[22, 3] 22 #[.slice none 0 0, .int .i64 (n : Int)]).run Tryd.prog w = .ok (.slice (some ⟨w.heap.size, 0, none⟩) n C) (w.drew.alloc (.cells Z 3))) := hrun
    clear hrun
    have hpos : (0 : Int) < n := by omega
    go_enter Tryd.func52, Tryd.ntmps52
    go_wp2_with (at_builtin; refine Lib.wpList_append_run _ rfl _ _ _ _ rfl _ _ rfl rfl _ _ HR.out ?_)
    go_wp2
    go_ret
    exact ⟨_, rfl, ⟨rfl, Or.inr ⟨w.heap.size, C, Z, rfl, Nat.le_refl _, HN.out, Nat.zero_le _, hcm, HZ.out, rfl⟩⟩, HB.out⟩

set_option maxRecDepth 100000 in
set_option maxHeartbeats 4000000 in
theorem concatI_calls (b : Nat) (ab af bb bf ac bc : Nat) (xs ys : List Int) (w : World) (h0 : w.cell? ⟨b, 0, none⟩ = some (.slice (some ⟨ab, af, none⟩) xs.length ac)) (h1 : w.cell? ⟨b, 1, none⟩ = some (.slice (some ⟨bb, bf, none⟩) ys.length bc))
    (hx : HasInts w (.slice (some ⟨ab, af, none⟩) xs.length ac) xs) (hy : HasInts w (.slice (some ⟨bb, bf, none⟩) ys.length bc) ys) (hm : (xs.length + ys.length) * 8 ≤ 140737488351232) :
    Calls Tryd.prog 37 #[.slice (some ⟨b, 0, none⟩) 2 2] w (LA w (xs ++ ys)) := by
  have hlb : b < w.heap.size := by
    rcases Nat.lt_or_ge b w.heap.size with h | h
    · exact h
    · simp [World.cell?, Array.getElem?_eq_none h] at h0
  have HG : Hid (Calls Tryd.prog 52 #[.slice none 0 0, .int .i64 ((xs.length + ys.length : Nat) : Int)] w fun e w' => ∃ v, e = .returned v ∧ w'.ownsRow w.heap.size 3 1 v 0 [] ∧ Below w.heap.size w w') := growI_calls _ w (by omega)
  have HX : Hid (HasInts w (.slice (some ⟨ab, af, none⟩) xs.length ac) xs) := hx
  have HY : Hid (HasInts w (.slice (some ⟨bb, bf, none⟩) ys.length bc) ys) := hy
  have e1 : ((xs.length + ys.length : Nat) : Int) = (xs.length : Int) + (ys.length : Int) := by omega
  rw [e1] at HG
  have HH : Hid (w.cell? ⟨b, 0, none⟩ = some (.slice (some ⟨ab, af, none⟩) xs.length ac) ∧ w.cell? ⟨b, 1, none⟩ = some (.slice (some ⟨bb, bf, none⟩) ys.length bc)) := ⟨h0, h1⟩
  clear hx hy
  go_enter Tryd.func37, Tryd.ntmps37
  go_wp2_with fail
  refine wp_loop_rounds 3 ?_
  rw [rounds_succ]
  go_wp2
  rw [rounds_succ]
  go_wp2
  rw [rounds_succ]
  go_wp2_with fail
  refine HG.out.mono ?_
  rintro e w1 ⟨v, rfl, hown, hb⟩
  obtain ⟨so, sc, hv⟩ := iown_slice hown
  subst hv
  have HO : Hid (w1.ownsRow w.heap.size 3 1 (.slice so 0 sc) 0 []) := hown
  have HB1 : Hid (Below w.heap.size w w1) := hb
  have g0 := (hb.cell (p := ⟨b, 0, none⟩) hlb).trans HH.out.1
  have g1 := (hb.cell (p := ⟨b, 1, none⟩) hlb).trans HH.out.2
  clear hown hb h0 h1
  go_wp2_with fail
  refine wp_loop_rounds 3 ?_
  rw [rounds_succ]
  go_wp2_with (at_builtin; refine wpList_append_ints rfl _ _ rfl w.heap.size (.slice so 0 sc) [] rfl HO.out ab af ac xs rfl (HX.out.keep HB1.out) (by simp; omega) HB1.out.size ?_; intro v' w2 hown2 hgr2; obtain ⟨so2, sc2, hv2⟩ := iown_slice hown2; subst hv2; have HO2 : Hid (w2.ownsRow w.heap.size 3 1 (.slice so2 ([] ++ xs).length sc2) ([] ++ xs).length (iv ([] ++ xs))) := hown2; have HB2 : Hid (Below w.heap.size w w2) := below_g HB1.out hgr2 (fun k e => (HO.out.lt k e.symm).1); have k0 : w2.cell? ⟨b, 0, none⟩ = some (.slice (some ⟨ab, af, none⟩) xs.length ac) := (HB2.out.cell (p := ⟨b, 0, none⟩) hlb).trans HH.out.1; have k1 : w2.cell? ⟨b, 1, none⟩ = some (.slice (some ⟨bb, bf, none⟩) ys.length bc) := (HB2.out.cell (p := ⟨b, 1, none⟩) hlb).trans HH.out.2; clear hown2 hgr2 g0 g1)
  rw [rounds_succ]
  go_wp2_with (at_builtin; refine wpList_append_ints rfl _ _ rfl w.heap.size (.slice so2 ([] ++ xs).length sc2) ([] ++ xs) rfl HO2.out bb bf bc ys rfl (HY.out.keep HB2.out) (by simp; omega) HB2.out.size ?_; intro v' w3 hown3 hgr3; obtain ⟨so3, sc3, hv3⟩ := iown_slice hown3; subst hv3; have HO3 : Hid (w3.ownsRow w.heap.size 3 1 (.slice so3 (([] ++ xs) ++ ys).length sc3) (([] ++ xs) ++ ys).length (iv (([] ++ xs) ++ ys))) := hown3; have HB3 : Hid (Below w.heap.size w w3) := below_g HB2.out hgr3 (fun k e => (HO2.out.lt k e.symm).1); have q0 : w3.cell? ⟨b, 0, none⟩ = some (.slice (some ⟨ab, af, none⟩) xs.length ac) := (HB3.out.cell (p := ⟨b, 0, none⟩) hlb).trans HH.out.1; have q1 : w3.cell? ⟨b, 1, none⟩ = some (.slice (some ⟨bb, bf, none⟩) ys.length bc) := (HB3.out.cell (p := ⟨b, 1, none⟩) hlb).trans HH.out.2; clear hown3 hgr3 k0 k1)
  rw [rounds_succ]
  go_wp2
  go_ret
  exact ⟨so3, sc3, congrArg (fun n : Nat => Ending.returned (.slice so3 n sc3)) List.length_append.symm, HO3.out, HB3.out⟩

set_option maxRecDepth 100000 in
theorem last_calls (b off m cap : Nat) (l : Int) (w : World) (h : w.cell? ⟨b, off + m, none⟩ = some (.int .i64 l)) (hm : m * 8 ≤ 140737488351232) :
    Calls Tryd.prog 35 #[.slice (some ⟨b, off, none⟩) (m + 1) cap] w fun e w' => e = .returned (.int .i64 l) ∧ w' = w := by
  have hw : IntKind.i64.wrap ((m : Int) + 1 - 1) = (m : Int) := by rw [IntKind.wrap_i64] <;> omega
  have m0 : (0 : Int) ≤ (m : Int) := by omega
  have m1 : (m : Int) < (m : Int) + 1 := by omega
  go_enter Tryd.func35, Tryd.ntmps35
  go_wp2
  go_ret
  exact ⟨rfl, rfl⟩
end Go.Proofs.YtdfjmfgbdnpkbaaDoor
