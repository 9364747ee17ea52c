/- viaductref04.Few. -/
import Derived.Test.YthgmhhlgjooeaaaGreatDoorDocCheck
import Derived.Test.YthgmhhlgjooeaaaGreatDoorTwiceM
namespace Go.Proofs.YthgmhhlgjooeaaaGreatDoor
open Go.RowKit Go.Extern

attribute [local go_sem] Oper.semAt_some

/-- is a graph right, and has it few nodes and arcs? -/
def fewB (N : Int) (xs : List (Int × Int × Int)) (most : Int) : Bool := decide (graphErr N xs = (0, []) ∧ N ≤ most ∧ xs.length ≤ 2000)

set_option maxRecDepth 100000 in
set_option maxHeartbeats 4000000 in
theorem few_calls (N : Int) (ao : Option Addr) (cap : Nat) (xs : List (Int × Int × Int)) (most : Int) (w : World) (hl : HasArcs w (.slice ao xs.length cap) xs) (hm : xs.length ≤ maxLen) :
    Calls Tryz.prog 35 #[.agg #[.int .i64 N, .slice ao xs.length cap], .int .i64 most] w fun e w' => e = .returned (.bool (fewB N xs most)) ∧ Below w.heap.size w w' := by
  obtain ⟨W0, hW0⟩ : ∃ W0, w.alloc (.cells #[.int .i64 N, .slice ao xs.length cap] 24) = W0 := ⟨_, rfl⟩
  have HW0 : Hid (w.alloc (.cells #[.int .i64 N, .slice ao xs.length cap] 24) = W0) := hW0
  have hB0 : Below w.heap.size w W0 := by rw [← hW0]; exact (Below.refl _ w).alloc (Nat.le_refl _) _
  have k0 : W0.heap[w.heap.size]? = some (.cells #[.int .i64 N, .slice ao xs.length cap] 24) := by rw [← hW0]; exact heap_new _ _
  have HDC : Hid (type_of% (docCheck_calls N ao cap xs W0 (hl.keep hB0) hm)) := docCheck_calls N ao cap xs W0 (hl.keep hB0) hm
  have HK : Hid (∀ wx, Below W0.heap.size W0 wx → wx.cell? ⟨w.heap.size, 0, none⟩ = some (.int .i64 N) ∧ wx.cell? ⟨w.heap.size, 1, none⟩ = some (.slice ao xs.length cap) ∧ w.heap.size < wx.heap.size ∧ Below w.heap.size w wx) := fun wx hx => by
    have g := (hx.block _ (lt_of_get k0)).trans k0
    exact ⟨(cell_two g).1, (cell_two g).2.1, lt_of_get g, hB0.trans (hx.mono hB0.size)⟩
  have HTC : Hid (graphErr N xs = (0, []) ∨ (graphErr N xs ≠ (0, []) ∧ ((graphErr N xs).1 != 0 || decide (0 < (graphErr N xs).2.length)) = true)) := by
    by_cases h : graphErr N xs = (0, [])
    · exact Or.inl h
    · refine Or.inr ⟨h, ?_⟩
      by_cases h1 : (graphErr N xs).1 = 0
      · have h2 : (graphErr N xs).2 ≠ [] := fun e => h (by rw [← h1, ← e])
        have := List.length_pos_iff.2 h2
        simp [this]
      · simp [h1]
  clear hl hW0 hB0 k0
  go_enter Tryz.func35, Tryz.ntmps35
  go_wp2_with fail
  rw [HW0.out]
  refine HDC.out.mono ?_
  rintro e w1 ⟨po, pc, rfl, _, hb1⟩
  have HB1 : Hid (Below W0.heap.size W0 w1) := hb1
  clear hb1
  obtain ⟨c0, c1, cs, _⟩ := HK.out w1 HB1.out
  generalize hE : graphErr N xs = E at *
  obtain ⟨C, ps⟩ := E
  have HE : Hid (graphErr N xs = (C, ps)) := hE
  clear hE
  have HAL : Hid (Below w1.heap.size w1 (w1.alloc (.cells #[.int .i64 C, .slice po ps.length pc] 128))) := (Below.refl _ w1).alloc (Nat.le_refl _) _
  have HBD : Hid (type_of% (bad_calls C po ps.length pc (w1.alloc (.cells #[.int .i64 C, .slice po ps.length pc] 128)))) := bad_calls C po ps.length pc _
  simp only at HTC
  have R1 : Hid (∀ wx, Below (w1.alloc (.cells #[.int .i64 C, .slice po ps.length pc] 128)).heap.size (w1.alloc (.cells #[.int .i64 C, .slice po ps.length pc] 128)) wx → Below W0.heap.size W0 wx) := fun wx h => by
    have h1 := HB1.out.trans (HAL.out.mono HB1.out.size)
    exact h1.trans (h.mono h1.size)
  rcases HTC.out with hgood | ⟨hbad, hbt⟩
  · injection hgood with hC hp
    subst hC
    subst hp
    go_wp2_with fail
    refine HBD.out.mono ?_
    rintro e w2 ⟨rfl, hb2⟩
    have R2 : Hid (Below W0.heap.size W0 w2) := R1.out w2 hb2
    clear hb2 c0 c1 cs
    obtain ⟨c0, c1, cs, hbe⟩ := HK.out w2 R2.out
    have HBE : Hid (Below w.heap.size w w2) := hbe
    rw [show ((0 : Int) != 0 || decide (0 < ([] : List (Int × Int)).length)) = false from rfl]
    clear hbe
    by_cases h1 : N ≤ most
    · by_cases h2 : (xs.length : Int) ≤ 2000
      · have hd : fewB N xs most = true := decide_eq_true ⟨HE.out, h1, by omega⟩
        have HD : Hid (type_of% hd) := hd
        clear hd
        go_wp2
        go_ret
        exact ⟨by rw [HD.out]; first | rfl | (show Ending.returned (Value.bool (decide ((xs.length : Int) ≤ 2000))) = Ending.returned (Value.bool false); rw [decide_eq_false (by omega)]), HBE.out⟩
      · have hd : fewB N xs most = false := decide_eq_false (fun h => h2 (by have := h.2.2; omega))
        have HD : Hid (type_of% hd) := hd
        clear hd
        go_wp2
        go_ret
        exact ⟨by rw [HD.out]; first | rfl | (show Ending.returned (Value.bool (decide ((xs.length : Int) ≤ 2000))) = Ending.returned (Value.bool false); rw [decide_eq_false (by omega)]), HBE.out⟩
    · have hd : fewB N xs most = false := decide_eq_false (fun h => h1 h.2.1)
      have HD : Hid (type_of% hd) := hd
      clear hd
      go_wp2
      go_ret
      exact ⟨by rw [HD.out]; first | rfl | (show Ending.returned (Value.bool (decide ((xs.length : Int) ≤ 2000))) = Ending.returned (Value.bool false); rw [decide_eq_false (by omega)]), HBE.out⟩
  · rw [hbt] at HBD
    have HBAD : Hid ((C, ps) ≠ ((0 : Int), ([] : List (Int × Int)))) := hbad
    clear hbad hbt
    go_wp2_with fail
    refine HBD.out.mono ?_
    rintro e w2 ⟨rfl, hb2⟩
    have R2 : Hid (Below W0.heap.size W0 w2) := R1.out w2 hb2
    clear hb2 c0 c1 cs
    obtain ⟨c0, c1, cs, hbe⟩ := HK.out w2 R2.out
    have HBE : Hid (Below w.heap.size w w2) := hbe
    clear hbe
    have hd : fewB N xs most = false := decide_eq_false (fun h => HBAD.out (HE.out.symm.trans h.1))
    have HD : Hid (type_of% hd) := hd
    clear hd
    go_wp2
    go_ret
    exact ⟨by rw [HD.out]; first | rfl | (show Ending.returned (Value.bool (decide ((xs.length : Int) ≤ 2000))) = Ending.returned (Value.bool false); rw [decide_eq_false (by omega)]), HBE.out⟩
end Go.Proofs.YthgmhhlgjooeaaaGreatDoor
