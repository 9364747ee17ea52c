/- viaductref04.DocIs: the document's answer at a wrong graph. -/
import Derived.Test.YtapgecmakddegaaDoorDocOf
import Derived.Deep.RegionHeld3
import Derived.Deep.RegionWith
namespace Go.Proofs.YtapgecmakddegaaDoor
open Go.RowKit Go.Extern

attribute [local go_sem] Oper.semAt_some

theorem HasPlaces.lay2 {W : World} {v : Value} {l : List (Int × Int)} (h : HasPlaces W v l) {b1 : Nat} {x0 : Value} {t1 : TypeId} (h1 : W.heap[b1]? = some (.cells #[x0, .slice none 0 0] t1)) (c0 c1 : Value) :
    HasPlaces ((W.setCell ⟨b1, 0, none⟩ c0).setCell ⟨b1, 1, none⟩ c1) v l := by
  obtain ⟨ao, cap, e, hc⟩ := h
  refine ⟨ao, cap, e, fun j a hj => ?_⟩
  obtain ⟨b, off, ea, hl, q0, q1⟩ := hc j a hj
  have n1 : b ≠ b1 := fun e => by
    subst e
    simp only [World.cell?, h1] at q1
    rw [if_neg (by simp)] at q1
    rcases (show off + j * 2 = 0 ∨ 2 ≤ off + j * 2 + 1 by omega) with h | h
    · rw [h] at q1; simp at q1
    · rw [Array.getElem?_eq_none (by simpa using h)] at q1; cases q1
  have keep : ∀ o, ((W.setCell ⟨b1, 0, none⟩ c0).setCell ⟨b1, 1, none⟩ c1).cell? ⟨b, o, none⟩ = W.cell? ⟨b, o, none⟩ := fun o => by
    rw [World.cell?_setCell_other _ _ _ _ (fun e => n1 (congrArg Addr.block e).symm), World.cell?_setCell_other _ _ _ _ (fun e => n1 (congrArg Addr.block e).symm)]
  exact ⟨b, off, ea, by simp; exact hl, (keep _).trans q0, (keep _).trans q1⟩

set_option maxRecDepth 100000 in
set_option maxHeartbeats 1000000 in
theorem docIs_bad (N : Int) (ao : Option Addr) (cap : Nat) (xs : List (Int × Int × Int)) (w : World) (hl : HasArcs w (.slice ao xs.length cap) xs) (hm : xs.length ≤ maxLen) (C : Int) (ps : List (Int × Int)) (hbad : graphErr N xs = (C, ps)) (hC : C ≠ 0) :
    Calls Tryd.prog 14 #[.agg #[.int .i64 N, .slice ao xs.length cap]] w fun e w' => ∃ po pc, e = .returned (.tuple #[.bool false, .agg #[.int .i64 C, .slice po ps.length pc]]) ∧ HasPlaces w' (.slice po ps.length pc) ps ∧ Below w.heap.size w w' := by
  obtain ⟨W0, hW0⟩ : ∃ W0, (w.alloc (.cells #[.int .i64 N, .slice ao xs.length cap] 24)).alloc (.cells #[.int .i64 0, .slice none 0 0] 33) = W0 := ⟨_, rfl⟩
  have hB0 : Below w.heap.size w W0 := by rw [← hW0]; exact ((Below.refl _ w).alloc (Nat.le_refl _) _).alloc (by simp) _
  have k0 : W0.heap[w.heap.size]? = some (.cells #[.int .i64 N, .slice ao xs.length cap] 24) := by rw [← hW0, Below.heap_alloc _ _ _ (by simp)]; exact heap_new _ _
  have k1 : W0.heap[w.heap.size + 1]? = some (.cells #[.int .i64 0, .slice none 0 0] 33) := by
    have h := heap_new (w.alloc (.cells #[.int .i64 N, .slice ao xs.length cap] 24)) (.cells #[.int .i64 0, .slice none 0 0] 33)
    rw [hW0] at h
    simpa using h
  have HW0 : Hid ((w.alloc (.cells #[.int .i64 N, .slice ao xs.length cap] 24)).alloc (.cells #[.int .i64 0, .slice none 0 0] 33) = W0) := hW0
  have HB0 : Hid (Below w.heap.size w W0) := hB0
  have HK : Hid (∀ wx, Below W0.heap.size W0 wx → (wx.cell? ⟨w.heap.size, 0, none⟩ = some (.int .i64 N) ∧ wx.cell? ⟨w.heap.size, 1, none⟩ = some (.slice ao xs.length cap) ∧ wx.frozen? ⟨w.heap.size, 0, none⟩ = false ∧ wx.frozen? ⟨w.heap.size, 1, none⟩ = false) ∧ (wx.cell? ⟨w.heap.size + 1, 0, none⟩ = some (.int .i64 0) ∧ wx.cell? ⟨w.heap.size + 1, 1, none⟩ = some (.slice none 0 0) ∧ wx.frozen? ⟨w.heap.size + 1, 0, none⟩ = false ∧ wx.frozen? ⟨w.heap.size + 1, 1, none⟩ = false) ∧ w.heap.size + 1 < wx.heap.size ∧ Below w.heap.size w wx ∧ HasArcs wx (.slice ao xs.length cap) xs) := fun wx h => by
    have g0 := (h.block _ (lt_of_get k0)).trans k0
    have g1 := (h.block _ (lt_of_get k1)).trans k1
    have hb := hB0.trans (h.mono hB0.size)
    exact ⟨cell_two g0, cell_two g1, lt_of_get g1, hb, hl.keep hb⟩
  have HK1 : Hid (∀ wx, Below W0.heap.size W0 wx → wx.heap[w.heap.size + 1]? = some (.cells #[.int .i64 0, .slice none 0 0] 33)) := fun wx h => (h.block _ (lt_of_get k1)).trans k1
  have HDO : Hid (Calls Tryd.prog 10 #[.agg #[.int .i64 N, .slice ao xs.length cap]] W0 fun e w' => ∃ lo n lc po pc, e = .returned (.tuple #[.agg #[.int .i64 0, .slice lo n lc], .agg #[.int .i64 C, .slice po ps.length pc]]) ∧ HasPlaces w' (.slice po ps.length pc) ps ∧ Below W0.heap.size W0 w') := by
    refine (docOf_calls N ao cap xs W0 (hl.keep hB0) hm).mono ?_
    rintro e w' ⟨M, lo, n, lc, ys, po, pc, rfl, h1, h2, h3, h4⟩
    rw [hbad] at h2 h3
    rcases h3 with ⟨h, _⟩ | ⟨_, rfl, rfl⟩
    · exact absurd (congrArg Prod.fst h) hC
    · exact ⟨lo, n, lc, po, pc, by rw [hbad], h2, h4⟩
  have HBD : Hid (∀ wx lo lc, Calls Tryd.prog 34 #[.agg #[.int .i64 C, .slice lo ps.length lc]] wx fun e w' => e = .returned (.bool true) ∧ Below wx.heap.size wx w') := fun wx lo lc => by
    have h := bad_calls C lo ps.length lc wx
    rw [show (C != 0 || decide (0 < ps.length)) = true by simp [hC]] at h
    exact h
  clear hl hbad k0 k1 hB0 hW0
  go_enter Tryd.func14, Tryd.ntmps14
  go_wp2_with fail
  rw [HW0.out]
  refine HDO.out.mono ?_
  rintro e w1 ⟨lo, n, lc, po, pc, rfl, hP1, hb1⟩
  obtain ⟨B, hB⟩ : ∃ B, w1.heap.size = B := ⟨_, rfl⟩
  obtain ⟨W2, hW2⟩ : ∃ W2, (w1.alloc (.cells #[.int .i64 0, .slice lo n lc] 24)).alloc (.cells #[.int .i64 C, .slice po ps.length pc] 33) = W2 := ⟨_, rfl⟩
  have hB2 : Below w1.heap.size w1 W2 := by rw [← hW2]; exact ((Below.refl _ w1).alloc (Nat.le_refl _) _).alloc (by simp) _
  have m0 : W2.heap[B]? = some (.cells #[.int .i64 0, .slice lo n lc] 24) := by rw [← hW2, ← hB, Below.heap_alloc _ _ _ (by simp)]; exact heap_new _ _
  have m1 : W2.heap[B + 1]? = some (.cells #[.int .i64 C, .slice po ps.length pc] 33) := by
    have h := heap_new (w1.alloc (.cells #[.int .i64 0, .slice lo n lc] 24)) (.cells #[.int .i64 C, .slice po ps.length pc] 33)
    rw [hW2] at h
    simpa [hB] using h
  have HB2 : Hid (Below W0.heap.size W0 W2) := hb1.trans (hB2.mono hb1.size)
  have HM : Hid (∀ wx, Below W2.heap.size W2 wx → wx.cell? ⟨B + 1, 0, none⟩ = some (.int .i64 C) ∧ wx.cell? ⟨B + 1, 1, none⟩ = some (.slice po ps.length pc) ∧ B + 1 < wx.heap.size ∧ HasPlaces wx (.slice po ps.length pc) ps) := fun wx h => by
    have g1 := (h.block _ (lt_of_get m1)).trans m1
    exact ⟨(cell_two g1).1, (cell_two g1).2.1, lt_of_get g1, hP1.keep (hB2.trans (h.mono hB2.size))⟩
  have HW2 : Hid ((w1.alloc (.cells #[.int .i64 0, .slice lo n lc] 24)).alloc (.cells #[.int .i64 C, .slice po ps.length pc] 33) = W2) := hW2
  have HBB : Hid (w1.heap.size = B) := hB
  have hwB : w.heap.size + 1 < B := by rw [← hB]; exact (HK.out w1 hb1).2.2.1
  clear hP1 hb1 hB2 m0 m1 hW2 hB
  obtain ⟨_, ⟨y0, y1, y2, y3⟩, hs2, _, _⟩ := HK.out W2 HB2.out
  obtain ⟨z2, z3, hs3, _⟩ := HM.out W2 (Below.refl _ _)
  have n1 : ¬ w.heap.size + 1 = B := by omega
  have n2 : ¬ B = w.heap.size + 1 := by omega
  have n3 : ¬ w.heap.size = B := by omega
  have n4 : ¬ B = w.heap.size := by omega
  have HR2 : Hid (Below W2.heap.size W2 W2.drew) := (Below.refl _ _).drew
  go_upto_region 2 with fail
  rw [HW2.out, HBB.out]
  go_region_with (go_at_call 34; refine (HBD.out _ _ _).mono ?_; rintro e w3 ⟨rfl, hL3⟩; have HL3 : Hid (Below W2.heap.size W2 w3) := HR2.out.trans hL3; obtain ⟨g2, g3, gs, _⟩ := HM.out w3 HL3.out; obtain ⟨_, ⟨g4, g5, g6, g7⟩, gs2, _, _⟩ := HK.out w3 (HB2.out.trans (HL3.out.mono HB2.out.size)); clear hL3)
  all_goals
    have hB3 := HB2.out.trans (HL3.out.mono HB2.out.size)
    have HF : Hid (Below w.heap.size w w3 ∧ w3.heap[w.heap.size + 1]? = some (.cells #[.int .i64 0, .slice none 0 0] 33) ∧ HasPlaces w3 (.slice po ps.length pc) ps) := ⟨(HK.out w3 hB3).2.2.2.1, HK1.out w3 hB3, (HM.out w3 HL3.out).2.2.2⟩
    clear hB3
    go_wp2
    refine bodyPost_ret (v := .tuple #[.bool false, .agg #[.int .i64 C, .slice po ps.length pc]]) (by simp [results, Tryd.results14, go_sem, g4, g5]) rfl ⟨po, pc, rfl, HF.out.2.2.lay2 HF.out.2.1 _ _, ?_⟩
    exact (HF.out.1.setCell (p := ⟨w.heap.size + 1, 0, none⟩) (by simp) _).setCell (p := ⟨w.heap.size + 1, 1, none⟩) (by simp) _
end Go.Proofs.YtapgecmakddegaaDoor
