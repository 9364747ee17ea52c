/- viaductref04.DocIs: the document's answer whether a graph is normal, or the error. -/
import Derived.Test.YtapgecmakddegaaDoorDocOf
import Derived.Test.YtapgecmakddegaaDoorSameNo
import Derived.Test.YtapgecmakddegaaDoorOfAll
import Derived.Deep.RegionHeld3
namespace Go.Proofs.YtapgecmakddegaaDoor
open Go.RowKit Go.Extern

attribute [local go_sem] Oper.semAt_some

theorem same_dec (N : Int) (ao bo : Option Addr) (al bl ac bc : Nat) (xs ys : List (Int × Int × Int)) (w : World) (ha : HasArcs w (.slice ao al ac) xs) (hb : HasArcs w (.slice bo bl bc) ys) (hm : xs.length ≤ maxLen) :
    Calls Tryd.prog 11 #[.agg #[.int .i64 N, .slice ao al ac], .agg #[.int .i64 N, .slice bo bl bc]] w fun e w' => e = .returned (.bool (decide (xs = ys))) ∧ Below w.heap.size w w' := by
  by_cases h : xs = ys
  · subst h
    rw [decide_eq_true rfl]
    exact same_yes N ao bo al bl ac bc xs w ha hb hm
  · rw [decide_eq_false h]
    exact same_no N ao bo al bl ac bc xs ys w ha hb hm h

set_option maxRecDepth 100000 in
set_option maxHeartbeats 1000000 in
theorem docIs_good (N : Int) (ao : Option Addr) (cap : Nat) (xs : List (Int × Int × Int)) (w : World) (hl : HasArcs w (.slice ao xs.length cap) xs) (hm : xs.length ≤ maxLen) (hgood : graphErr N xs = (0, [])) :
    Calls Tryd.prog 14 #[.agg #[.int .i64 N, .slice ao xs.length cap]] w fun e w' => ∃ po pc, e = .returned (.tuple #[.bool (decide (normA xs = xs)), .agg #[.int .i64 0, .slice po 0 pc]]) ∧ Below w.heap.size w w' := by
  obtain ⟨W0, hW0⟩ : ∃ W0, (w.alloc (.cells #[.int .i64 N, .slice ao xs.length cap] 24)).alloc (.cells #[.int .i64 0, .slice none 0 0] 33) = W0 := ⟨_, rfl⟩
  have hB0 : Below w.heap.size w W0 := by rw [← hW0]; exact ((Below.refl _ w).alloc (Nat.le_refl _) _).alloc (by simp) _
  have k0 : W0.heap[w.heap.size]? = some (.cells #[.int .i64 N, .slice ao xs.length cap] 24) := by rw [← hW0, Below.heap_alloc _ _ _ (by simp)]; exact heap_new _ _
  have k1 : W0.heap[w.heap.size + 1]? = some (.cells #[.int .i64 0, .slice none 0 0] 33) := by
    have h := heap_new (w.alloc (.cells #[.int .i64 N, .slice ao xs.length cap] 24)) (.cells #[.int .i64 0, .slice none 0 0] 33)
    rw [hW0] at h
    simpa using h
  have HW0 : Hid ((w.alloc (.cells #[.int .i64 N, .slice ao xs.length cap] 24)).alloc (.cells #[.int .i64 0, .slice none 0 0] 33) = W0) := hW0
  have HB0 : Hid (Below w.heap.size w W0) := hB0
  have HK : Hid (∀ wx, Below W0.heap.size W0 wx → (wx.cell? ⟨w.heap.size, 0, none⟩ = some (.int .i64 N) ∧ wx.cell? ⟨w.heap.size, 1, none⟩ = some (.slice ao xs.length cap) ∧ wx.frozen? ⟨w.heap.size, 0, none⟩ = false ∧ wx.frozen? ⟨w.heap.size, 1, none⟩ = false) ∧ (wx.cell? ⟨w.heap.size + 1, 0, none⟩ = some (.int .i64 0) ∧ wx.cell? ⟨w.heap.size + 1, 1, none⟩ = some (.slice none 0 0) ∧ wx.frozen? ⟨w.heap.size + 1, 0, none⟩ = false ∧ wx.frozen? ⟨w.heap.size + 1, 1, none⟩ = false) ∧ w.heap.size + 1 < wx.heap.size ∧ Below w.heap.size w wx ∧ HasArcs wx (.slice ao xs.length cap) xs) := fun wx h => by
    have g0 := (h.block _ (lt_of_get k0)).trans k0
    have g1 := (h.block _ (lt_of_get k1)).trans k1
    have hb := hB0.trans (h.mono hB0.size)
    exact ⟨cell_two g0, cell_two g1, lt_of_get g1, hb, hl.keep hb⟩
  have HDO : Hid (Calls Tryd.prog 10 #[.agg #[.int .i64 N, .slice ao xs.length cap]] W0 fun e w' => ∃ lo n lc po pc, e = .returned (.tuple #[.agg #[.int .i64 N, .slice lo n lc], .agg #[.int .i64 0, .slice po 0 pc]]) ∧ HasArcs w' (.slice lo n lc) (normA xs) ∧ Below W0.heap.size W0 w') := by
    refine (docOf_calls N ao cap xs W0 (hl.keep hB0) hm).mono ?_
    rintro e w' ⟨M, lo, n, lc, ys, po, pc, rfl, h1, _, h3, h4⟩
    rcases h3 with ⟨_, rfl, rfl⟩ | ⟨h, _⟩
    · exact ⟨lo, n, lc, po, pc, by rw [hgood]; rfl, h1, h4⟩
    · exact absurd hgood h
  have HML : Hid ((normA xs).length ≤ maxLen) := Nat.le_trans (normA_len xs) hm
  have HBD : Hid (∀ wx lo lc, Calls Tryd.prog 34 #[.agg #[.int .i64 0, .slice lo 0 lc]] wx fun e w' => e = .returned (.bool false) ∧ Below wx.heap.size wx w') := fun wx lo lc => bad_calls 0 lo 0 lc wx
  clear hl hgood k0 k1 hB0 hW0
  go_enter Tryd.func14, Tryd.ntmps14
  go_wp2_with fail
  rw [HW0.out]
  refine HDO.out.mono ?_
  rintro e w1 ⟨lo, n, lc, po, pc, rfl, hA1, hb1⟩
  obtain ⟨B, hB⟩ : ∃ B, w1.heap.size = B := ⟨_, rfl⟩
  obtain ⟨W2, hW2⟩ : ∃ W2, (w1.alloc (.cells #[.int .i64 N, .slice lo n lc] 24)).alloc (.cells #[.int .i64 0, .slice po 0 pc] 33) = W2 := ⟨_, rfl⟩
  have hB2 : Below w1.heap.size w1 W2 := by rw [← hW2]; exact ((Below.refl _ w1).alloc (Nat.le_refl _) _).alloc (by simp) _
  have m0 : W2.heap[B]? = some (.cells #[.int .i64 N, .slice lo n lc] 24) := by rw [← hW2, ← hB, Below.heap_alloc _ _ _ (by simp)]; exact heap_new _ _
  have m1 : W2.heap[B + 1]? = some (.cells #[.int .i64 0, .slice po 0 pc] 33) := by
    have h := heap_new (w1.alloc (.cells #[.int .i64 N, .slice lo n lc] 24)) (.cells #[.int .i64 0, .slice po 0 pc] 33)
    rw [hW2] at h
    simpa [hB] using h
  have HB2 : Hid (Below W0.heap.size W0 W2) := hb1.trans (hB2.mono hb1.size)
  have HM : Hid (∀ wx, Below W2.heap.size W2 wx → (wx.cell? ⟨B, 0, none⟩ = some (.int .i64 N) ∧ wx.cell? ⟨B, 1, none⟩ = some (.slice lo n lc) ∧ wx.cell? ⟨B + 1, 0, none⟩ = some (.int .i64 0) ∧ wx.cell? ⟨B + 1, 1, none⟩ = some (.slice po 0 pc)) ∧ B + 1 < wx.heap.size ∧ HasArcs wx (.slice lo n lc) (normA xs)) := fun wx h => by
    have g0 := (h.block _ (lt_of_get m0)).trans m0
    have g1 := (h.block _ (lt_of_get m1)).trans m1
    exact ⟨⟨(cell_two g0).1, (cell_two g0).2.1, (cell_two g1).1, (cell_two g1).2.1⟩, lt_of_get g1, hA1.keep (hB2.trans (h.mono hB2.size))⟩
  have HSA : Hid (∀ wx, Below W2.heap.size W2 wx → Calls Tryd.prog 11 #[.agg #[.int .i64 N, .slice lo n lc], .agg #[.int .i64 N, .slice ao xs.length cap]] wx fun e w' => e = .returned (.bool (decide (normA xs = xs))) ∧ Below wx.heap.size wx w') := fun wx h => same_dec N lo ao n xs.length lc cap (normA xs) xs wx (HM.out wx h).2.2 (HK.out wx (HB2.out.trans (h.mono HB2.out.size))).2.2.2.2 HML.out
  have HW2 : Hid ((w1.alloc (.cells #[.int .i64 N, .slice lo n lc] 24)).alloc (.cells #[.int .i64 0, .slice po 0 pc] 33) = W2) := hW2
  have HBB : Hid (w1.heap.size = B) := hB
  have hwB : w.heap.size + 1 < B := by rw [← hB]; exact (HK.out w1 hb1).2.2.1
  obtain ⟨ans, hans⟩ : ∃ ans, decide (normA xs = xs) = ans := ⟨_, rfl⟩
  rw [hans] at HSA
  have HAN : Hid (decide (normA xs = xs) = ans) := hans
  clear hans
  clear hA1 hb1 hB2 m0 m1 hW2 hB
  obtain ⟨⟨x0, x1, _, _⟩, ⟨y0, y1, y2, y3⟩, hs2, _, _⟩ := HK.out W2 HB2.out
  obtain ⟨⟨z0, z1, z2, z3⟩, hs3, _⟩ := HM.out W2 (Below.refl _ _)
  have n1 : ¬ w.heap.size + 1 = B := by omega
  have n2 : ¬ B = w.heap.size + 1 := by omega
  have n3 : ¬ w.heap.size = B := by omega
  have n4 : ¬ B = w.heap.size := by omega
  have HR2 : Hid (Below W2.heap.size W2 W2.drew) := (Below.refl _ _).drew
  go_upto_region 2 with fail
  rw [HW2.out, HBB.out]
  go_region_held3 (fun w' => w'.cell? ⟨B, 0, none⟩ = some (.int .i64 N) ∧ w'.cell? ⟨B, 1, none⟩ = some (.slice lo n lc) ∧ w'.cell? ⟨B + 1, 0, none⟩ = some (.int .i64 0) ∧ w'.cell? ⟨B + 1, 1, none⟩ = some (.slice po 0 pc) ∧ w'.cell? ⟨w.heap.size, 0, none⟩ = some (.int .i64 N) ∧ w'.cell? ⟨w.heap.size, 1, none⟩ = some (.slice ao xs.length cap)) (go_keep) (first
    | (go_at_call 34; refine (HBD.out _ _ _).mono ?_; rintro e w3 ⟨rfl, hL3⟩; have HL3 : Hid (Below W2.heap.size W2 w3) := HR2.out.trans hL3; obtain ⟨⟨g0, g1, g2, g3⟩, gs, _⟩ := HM.out w3 HL3.out; obtain ⟨⟨g4, g5, _, _⟩, _⟩ := HK.out w3 (HB2.out.trans (HL3.out.mono HB2.out.size)); clear hL3)
    | (go_at_call 11; refine (HSA.out _ HL3.out).mono ?_; rintro e w4 ⟨rfl, hL4⟩; have HL4 : Hid (Below W2.heap.size W2 w4) := HL3.out.trans (hL4.mono HL3.out.size); obtain ⟨⟨i0, i1, i2, i3⟩, is, _⟩ := HM.out w4 HL4.out; obtain ⟨⟨i4, i5, _, _⟩, ⟨i6, i7, i8, i9⟩, is2, _, _⟩ := HK.out w4 (HB2.out.trans (HL4.out.mono HB2.out.size)); clear hL4))
  all_goals
    have HB4 : Hid (Below w.heap.size w w4) := (HK.out w4 (HB2.out.trans (HL4.out.mono HB2.out.size))).2.2.2.1
    go_wp2
    refine bodyPost_ret (v := .tuple #[.bool ans, .agg #[.int .i64 0, .slice po 0 pc]]) (by simp [results, Tryd.results14, go_sem, i6, i7]) rfl ⟨po, pc, by rw [HAN.out], ?_⟩
    exact (HB4.out.setCell (p := ⟨w.heap.size + 1, 0, none⟩) (by simp) _).setCell (p := ⟨w.heap.size + 1, 1, none⟩) (by simp) _
end Go.Proofs.YtapgecmakddegaaDoor
