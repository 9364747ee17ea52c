/- viaductref03.DocCheck: the same error, told plainly: its number and its places. -/
import Derived.Test.YtbkclhaonbjobaaGreatPlaces
namespace Go.Proofs.YtbkclhaonbjobaaGreat
open Go.RowKit Go.Extern

attribute [local go_sem] Oper.semAt_some

theorem E_calls (n : Int) (w : World) : Calls Tryz.prog 40 #[.int .i64 n] w fun e w' => e = .returned (.agg #[.int .i64 n, .slice none 0 0]) ∧ Below w.heap.size w w' := by
  go_enter Tryz.func40, Tryz.ntmps40
  go_wp2
  refine bodyPost_ret (v := .agg #[.int .i64 n, .slice none 0 0]) (by simp [results, Tryz.results40, go_sem]) rfl ⟨rfl, (Below.refl _ _).alloc (Nat.le_refl _) _⟩

theorem refAt_calls (k a n : Int) (w : World) : Calls Tryz.prog 41 #[.int .i64 k, .int .i64 a, .agg #[.int .i64 n, .slice none 0 0]] w fun e w' => ∃ g, e = .returned (.agg #[.int .i64 n, .slice (some ⟨g, 0, none⟩) 1 1]) ∧ w'.heap[g]? = some (.cells #[.int .i64 k, .int .i64 a] 125) ∧ Below w.heap.size w w' := by
  go_enter Tryz.func41, Tryz.ntmps41
  go_wp2
  refine bodyPost_ret (v := .agg #[.int .i64 n, .slice (some ⟨w.heap.size + 1 + 1, 0, none⟩) 1 1]) (by simp [results, Tryz.results41, go_sem]) rfl ⟨_, rfl, ?_, (((Below.refl _ _).alloc (Nat.le_refl _) _).alloc (by simp) _).alloc (by simp; omega) _⟩
  have h := heap_new ((w.alloc (.cells #[.int .i64 n, .slice none 0 0] 76)).alloc (.cells #[.int .i64 n, .slice (some ⟨w.heap.size + 1 + 1, 0, none⟩) 1 1] 76)) (.cells #[.int .i64 k, .int .i64 a] 125)
  simpa using h

theorem arc_cases (N a0 a1 a2 : Int) : (a0 < 0 ∧ arcBad N (a0, a1, a2) = 7) ∨ (¬ a0 < 0 ∧ N ≤ a0 ∧ arcBad N (a0, a1, a2) = 7) ∨ (¬ a0 < 0 ∧ ¬ N ≤ a0 ∧ a1 < 0 ∧ arcBad N (a0, a1, a2) = 7) ∨ (¬ a0 < 0 ∧ ¬ N ≤ a0 ∧ ¬ a1 < 0 ∧ N ≤ a1 ∧ arcBad N (a0, a1, a2) = 7)
      ∨ (¬ a0 < 0 ∧ ¬ N ≤ a0 ∧ ¬ a1 < 0 ∧ ¬ N ≤ a1 ∧ a2 < 0 ∧ arcBad N (a0, a1, a2) = 8) ∨ (¬ a0 < 0 ∧ ¬ N ≤ a0 ∧ ¬ a1 < 0 ∧ ¬ N ≤ a1 ∧ ¬ a2 < 0 ∧ 2147483647 < a2 ∧ arcBad N (a0, a1, a2) = 8) ∨ (¬ a0 < 0 ∧ ¬ N ≤ a0 ∧ ¬ a1 < 0 ∧ ¬ N ≤ a1 ∧ ¬ a2 < 0 ∧ ¬ 2147483647 < a2 ∧ arcBad N (a0, a1, a2) = 0) := by
  unfold arcBad
  simp only
  by_cases h1 : a0 < 0 <;> by_cases h2 : N ≤ a0 <;> by_cases h3 : a1 < 0 <;> by_cases h4 : N ≤ a1 <;> by_cases h5 : a2 < 0 <;> by_cases h6 : 2147483647 < a2 <;> simp [h1, h2, h3, h4, h5, h6]
theorem cell_two {w : World} {b : Nat} {c0 c1 : Value} {T : TypeId} (h : w.heap[b]? = some (.cells #[c0, c1] T)) :
    w.cell? ⟨b, 0, none⟩ = some c0 ∧ w.cell? ⟨b, 1, none⟩ = some c1 ∧ w.frozen? ⟨b, 0, none⟩ = false ∧ w.frozen? ⟨b, 1, none⟩ = false := by
  simp [World.cell?, World.frozen?, h]
/-- the result's two cells are laid; nothing of old turns. -/
theorem Below.lay {w w2 : World} (h : Below w.heap.size w w2) (c0 c1 : Value) : Below w.heap.size w ((w2.setCell ⟨w.heap.size + 1, 0, none⟩ c0).setCell ⟨w.heap.size + 1, 1, none⟩ c1) :=
  (h.setCell (p := ⟨w.heap.size + 1, 0, none⟩) (by simp) _).setCell (p := ⟨w.heap.size + 1, 1, none⟩) (by simp) _

set_option maxRecDepth 100000 in
set_option maxHeartbeats 4000000 in
theorem docCheck_calls (N : Int) (ao : Option Addr) (cap : Nat) (xs : List (Int × Int × Int)) (w : World) (hl : HasArcs w (.slice ao xs.length cap) xs) (hm : xs.length ≤ maxLen) :
    Calls Tryz.prog 24 #[.agg #[.int .i64 N, .slice ao xs.length cap]] w fun e w' => ∃ lo lc, e = .returned (.agg #[.int .i64 (graphErr N xs).1, .slice lo (graphErr N xs).2.length lc]) ∧ HasPlaces w' (.slice lo (graphErr N xs).2.length lc) (graphErr N xs).2 ∧ Below w.heap.size w w' := by
  unfold maxLen at hm
  obtain ⟨W0, hW0⟩ : ∃ W0, (w.alloc (.cells #[.int .i64 N, .slice ao xs.length cap] 24)).alloc (.cells #[.int .i64 0, .slice none 0 0] 76) = W0 := ⟨_, rfl⟩
  have hB0 : Below w.heap.size w W0 := by rw [← hW0]; exact ((Below.refl _ w).alloc (Nat.le_refl _) _).alloc (by simp) _
  have k0 : W0.heap[w.heap.size]? = some (.cells #[.int .i64 N, .slice ao xs.length cap] 24) := by rw [← hW0, Below.heap_alloc _ _ _ (by simp)]; exact heap_new _ _
  have k1 : W0.heap[w.heap.size + 1]? = some (.cells #[.int .i64 0, .slice none 0 0] 76) := by
    have h := heap_new (w.alloc (.cells #[.int .i64 N, .slice ao xs.length cap] 24)) (.cells #[.int .i64 0, .slice none 0 0] 76)
    rw [hW0] at h
    simpa using h
  have HL : Hid (HasArcs w (.slice ao xs.length cap) xs) := hl
  have HW0 : Hid ((w.alloc (.cells #[.int .i64 N, .slice ao xs.length cap] 24)).alloc (.cells #[.int .i64 0, .slice none 0 0] 76) = W0) := hW0
  have HB0 : Hid (Below w.heap.size w W0) := hB0
  have HK0 : Hid (W0.heap[w.heap.size]? = some (.cells #[.int .i64 N, .slice ao xs.length cap] 24) ∧ W0.heap[w.heap.size + 1]? = some (.cells #[.int .i64 0, .slice none 0 0] 76)) := ⟨k0, k1⟩
  clear hl k0 k1 hB0 hW0
  have hnil : ∀ wx : World, HasPlaces wx (.slice none 0 0) [] := fun wx => ⟨none, 0, rfl, fun j p hj => by simp at hj⟩
  have HNIL : Hid (∀ wx : World, HasPlaces wx (.slice none 0 0) []) := hnil
  clear hnil
  by_cases hlim : N < 0 ∨ 65536 < N ∨ 262144 < xs.length
  · have HE : Hid (graphErr N xs = (9, [])) := by show _ = _; rw [graphErr, if_pos hlim]
    rcases (show N < 0 ∨ (¬ N < 0 ∧ 65536 < N) ∨ (¬ N < 0 ∧ ¬ 65536 < N ∧ (262144 : Int) < xs.length) by omega) with h1 | ⟨h1, h2⟩ | ⟨h1, h2, h3⟩
    all_goals
      clear hlim
      go_enter Tryz.func24, Tryz.ntmps24
      go_wp2_with fail
      rw [HW0.out]
      refine (E_calls 9 W0).mono ?_
      rintro e w1 ⟨rfl, hb1⟩
      have HB1 : Hid (Below w.heap.size w w1) := HB0.out.trans (hb1.mono HB0.out.size)
      obtain ⟨b0, b1, y0, y1⟩ := cell_two ((hb1.block (w.heap.size + 1) (lt_of_get HK0.out.2)).trans HK0.out.2)
      clear hb1
      go_wp2
      refine bodyPost_ret (v := .agg #[.int .i64 9, .slice none 0 0]) (by simp [results, Tryz.results24, go_sem, b0, b1]) rfl ?_
      rw [HE.out]
      exact ⟨_, _, rfl, HNIL.out _, Below.lay HB1.out _ _⟩
  · have h1 : ¬ N < 0 := by omega
    have h2 : ¬ 65536 < N := by omega
    have h3 : ¬ (262144 : Int) < xs.length := by omega
    have HGE : Hid (graphErr N xs = match firstBad N xs 0 with | none => (0, []) | some (i, c) => (c, [(4, (i : Int))])) := by show _ = _; rw [graphErr, if_neg hlim]; rfl
    clear hlim
    go_enter Tryz.func24, Tryz.ntmps24
    go_wp2_with fail
    rw [HW0.out]
    go_loopw [23] (fun iv wr => ∃ k : Nat, k ≤ xs.length ∧ iv = .int .i64 k ∧ (∀ j a, j < k → xs[j]? = some a → arcBad N a = 0) ∧ wr.heap[w.heap.size]? = some (.cells #[.int .i64 N, .slice ao xs.length cap] 24) ∧ wr.heap[w.heap.size + 1]? = some (.cells #[.int .i64 0, .slice none 0 0] 76) ∧ Below w.heap.size w wr) (fun iv _ => xs.length - (intOf iv).toNat)
    case atStart => exact ⟨0, Nat.zero_le _, rfl, fun j a hj => by omega, HK0.out.1, HK0.out.2, HB0.out⟩
    case round =>
      obtain ⟨k, hk, rfl, hok, hbx, hby, hbw⟩ := hrel
      have HOK : Hid (∀ j a, j < k → xs[j]? = some a → arcBad N a = 0) := hok
      have HBX : Hid (wr.heap[w.heap.size]? = some (.cells #[.int .i64 N, .slice ao xs.length cap] 24)) := hbx
      have HBY : Hid (wr.heap[w.heap.size + 1]? = some (.cells #[.int .i64 0, .slice none 0 0] 76)) := hby
      have HBW : Hid (Below w.heap.size w wr) := hbw
      clear hok hbx hby hbw
      by_cases hlt : k < xs.length
      · obtain ⟨a, ha⟩ : ∃ a, xs[k]? = some a := ⟨xs[k], List.getElem?_eq_getElem hlt⟩
        obtain ⟨b, off, hao, hbl, q0, q1, q2⟩ := HL.out.at ha
        subst hao
        have c0 := (HBW.out.cell (p := ⟨b, off + k * 3, none⟩) hbl).trans q0
        have c1 := (HBW.out.cell (p := ⟨b, off + k * 3 + 1, none⟩) hbl).trans q1
        have c2 := (HBW.out.cell (p := ⟨b, off + k * 3 + 2, none⟩) hbl).trans q2
        have HA : Hid (xs[k]? = some a) := ha
        obtain ⟨d0, d1, _, _⟩ := cell_two HBX.out
        have hlt0 : w.heap.size < wr.heap.size := lt_of_get HBX.out
        have hlt1 : w.heap.size + 1 < wr.heap.size := lt_of_get HBY.out
        clear q0 q1 q2 ha
        obtain ⟨a0, a1, a2⟩ := a
        simp only at c0 c1 c2
        have HK2 : Hid (∀ wx, Below (wr.alloc (.cells #[.int .i64 a0, .int .i64 a1, .int .i64 a2] 84)).heap.size (wr.alloc (.cells #[.int .i64 a0, .int .i64 a1, .int .i64 a2] 84)) wx → wx.heap[w.heap.size + 1]? = some (.cells #[.int .i64 0, .slice none 0 0] 76) ∧ Below w.heap.size w wx) := fun wx h => by
          refine ⟨(h.block _ (by simp; omega)).trans ((Below.heap_alloc _ _ _ hlt1).trans HBY.out), ?_⟩
          exact (HBW.out.alloc HBW.out.size _).trans (h.mono (by have := HBW.out.size; simp; omega))
        have HC : Hid (_ ∨ _) := arc_cases N a0 a1 a2
        rcases HC.out with ⟨g1, e⟩ | ⟨g1, g2, e⟩ | ⟨g1, g2, g3, e⟩ | ⟨g1, g2, g3, g4, e⟩ | ⟨g1, g2, g3, g4, g5, e⟩ | ⟨g1, g2, g3, g4, g5, g6, e⟩ | ⟨g1, g2, g3, g4, g5, g6, e⟩
        all_goals clear HC
        case inr.inr.inr.inr.inr.inr =>
          have HKK : Hid (∀ j a, j < k + 1 → xs[j]? = some a → arcBad N a = 0) := fun j a' hj ha' => by
            rcases Nat.lt_or_ge j k with h' | h'
            · exact HOK.out j a' h' ha'
            · obtain rfl : j = k := by omega
              obtain rfl := Option.some.inj (HA.out.symm.trans ha')
              exact e
          clear e
          go_wp2
          go_roundw
          case rel => exact ⟨k + 1, by omega, by go_num, HKK.out, (Below.heap_alloc _ _ _ hlt0).trans HBX.out, (Below.heap_alloc _ _ _ hlt1).trans HBY.out, HBW.out.alloc HBW.out.size _⟩
          case measure => simp [intOf]; omega
        all_goals
          have HG : Hid (graphErr N xs = (arcBad N (a0, a1, a2), [(4, (k : Int))])) := by
            show _ = _
            have hd : xs.drop k = (a0, a1, a2) :: xs.drop (k + 1) := by
              obtain ⟨hl, he⟩ := List.getElem?_eq_some_iff.1 HA.out
              rw [List.drop_eq_getElem_cons hl, he]
            rw [HGE.out, firstBad_skip N k xs 0 hk HOK.out, hd, firstBad, if_neg (by rw [e]; decide), Nat.zero_add]
          rw [e] at HG
          clear e
          go_wp2_with fail
          refine (E_calls _ _).mono ?_
          rintro e w2 ⟨rfl, hb2⟩
          have HB2 : Hid (Below (wr.alloc (.cells #[.int .i64 a0, .int .i64 a1, .int .i64 a2] 84)).heap.size (wr.alloc (.cells #[.int .i64 a0, .int .i64 a1, .int .i64 a2] 84)) w2) := hb2
          clear hb2
          go_wp2_with fail
          refine (refAt_calls _ _ _ _).mono ?_
          rintro e w3 ⟨g, rfl, hg3, hb3⟩
          have HB3 : Hid (w3.heap[w.heap.size + 1]? = some (.cells #[.int .i64 0, .slice none 0 0] 76) ∧ Below w.heap.size w w3) := HK2.out w3 (HB2.out.trans (hb3.mono HB2.out.size))
          have HG3 : Hid (w3.heap[g]? = some (.cells #[.int .i64 4, .int .i64 (k : Int)] 125)) := hg3
          obtain ⟨b0, b1, y0, y1⟩ := cell_two HB3.out.1
          have hne : g ≠ w.heap.size + 1 := fun e => by
            have h := HB3.out.1
            rw [← e, hg3] at h
            simp at h
          clear hb3 hg3
          go_wp2
          refine bodyPost_ret (v := .agg #[.int .i64 _, .slice (some ⟨g, 0, none⟩) 1 1]) (by simp [results, Tryz.results24, go_sem, b0, b1]; rfl) rfl ?_
          rw [HG.out]
          refine ⟨_, _, rfl, ⟨_, _, rfl, fun j p hj => ?_⟩, Below.lay HB3.out.2 _ _⟩
          have hgl : w3.heap[g]? = some (.cells #[.int .i64 4, .int .i64 (k : Int)] 125) := HG3.out
          obtain ⟨rfl, rfl⟩ : j = 0 ∧ p = (4, (k : Int)) := by
            rcases j with _ | j
            · simp at hj; exact ⟨rfl, hj.symm⟩
            · simp at hj
          refine ⟨g, 0, rfl, by simp; exact lt_of_get hgl, ?_, ?_⟩
          · rw [World.cell?_setCell_other _ _ _ _ (by intro e; exact hne (congrArg Addr.block e).symm), World.cell?_setCell_other _ _ _ _ (by intro e; exact hne (congrArg Addr.block e).symm)]
            simp [World.cell?, hgl]
          · rw [World.cell?_setCell_other _ _ _ _ (by intro e; exact hne (congrArg Addr.block e).symm), World.cell?_setCell_other _ _ _ _ (by intro e; exact hne (congrArg Addr.block e).symm)]
            simp [World.cell?, hgl]
      · obtain rfl : k = xs.length := by omega
        have HG : Hid (graphErr N xs = (0, [])) := by
          show _ = _
          rw [HGE.out, firstBad_skip N xs.length xs 0 (Nat.le_refl _) HOK.out, List.drop_length]
          rfl
        obtain ⟨b0, b1, y0, y1⟩ := cell_two HBY.out
        go_wp2
        refine bodyPost_ret (v := .agg #[.int .i64 0, .slice none 0 0]) (by simp [results, Tryz.results24, go_sem, b0, b1]) rfl ?_
        rw [HG.out]
        exact ⟨_, _, rfl, HNIL.out _, Below.lay HBW.out _ _⟩
end Go.Proofs.YtbkclhaonbjobaaGreat
