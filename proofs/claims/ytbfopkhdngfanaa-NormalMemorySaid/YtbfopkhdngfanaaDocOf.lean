/- viaductref04.DocOf: the document's answer: the normal graph, or the error. -/
import Derived.Test.YtbfopkhdngfanaaRefOf
import Derived.Test.YtbfopkhdngfanaaDocRev
namespace Go.Proofs.Ytbfopkhdngfanaa
open Go.RowKit Go.Extern Go.Sort Go.Shelf

attribute [local go_sem] Oper.semAt_some

set_option maxRecDepth 100000 in
set_option maxHeartbeats 4000000 in
theorem docOf_calls (N : Int) (ao : Option Addr) (cap : Nat) (xs : List (Int × Int × Int)) (w : World) (hl : HasArcs w (.slice ao xs.length cap) xs) (hm : xs.length ≤ maxLen) :
    Calls Try.prog 13 #[.agg #[.int .i64 N, .slice ao xs.length cap]] w fun e w' => ∃ M lo n lc ys po pc, e = .returned (.tuple #[.agg #[.int .i64 M, .slice lo n lc], .agg #[.int .i64 (graphErr N xs).1, .slice po (graphErr N xs).2.length pc]]) ∧ HasArcs w' (.slice lo n lc) ys ∧ NewA w.heap.size (.slice lo n lc) ∧ HasPlaces w' (.slice po (graphErr N xs).2.length pc) (graphErr N xs).2 ∧ ((graphErr N xs = (0, []) ∧ M = N ∧ ys = normA xs) ∨ (graphErr N xs ≠ (0, []) ∧ M = 0 ∧ ys = [])) ∧ RowKit.Below w.heap.size w w' := by
  obtain ⟨W0, hW0⟩ : ∃ W0, ((w.alloc (.cells #[.int .i64 N, .slice ao xs.length cap] 24)).alloc (.cells #[.int .i64 0, .slice none 0 0] 24)).alloc (.cells #[.int .i64 0, .slice none 0 0] 45) = W0 := ⟨_, rfl⟩
  have hB0 : RowKit.Below w.heap.size w W0 := by rw [← hW0]; exact (((RowKit.Below.refl _ w).alloc (Nat.le_refl _) _).alloc (by simp) _).alloc (by simp; omega) _
  have k0 : W0.heap[w.heap.size]? = some (.cells #[.int .i64 N, .slice ao xs.length cap] 24) := by rw [← hW0, RowKit.Below.heap_alloc _ _ _ (by simp; omega), RowKit.Below.heap_alloc _ _ _ (by simp)]; exact heap_new _ _
  have k1 : W0.heap[w.heap.size + 1]? = some (.cells #[.int .i64 0, .slice none 0 0] 24) := by
    rw [← hW0, RowKit.Below.heap_alloc _ _ _ (by simp)]
    have h := heap_new (w.alloc (.cells #[.int .i64 N, .slice ao xs.length cap] 24)) (.cells #[.int .i64 0, .slice none 0 0] 24)
    simpa using h
  have k2 : W0.heap[w.heap.size + 1 + 1]? = some (.cells #[.int .i64 0, .slice none 0 0] 45) := by
    have h := heap_new ((w.alloc (.cells #[.int .i64 N, .slice ao xs.length cap] 24)).alloc (.cells #[.int .i64 0, .slice none 0 0] 24)) (.cells #[.int .i64 0, .slice none 0 0] 45)
    rw [hW0] at h
    simpa using h
  have HW0 : Hid (((w.alloc (.cells #[.int .i64 N, .slice ao xs.length cap] 24)).alloc (.cells #[.int .i64 0, .slice none 0 0] 24)).alloc (.cells #[.int .i64 0, .slice none 0 0] 45) = W0) := hW0
  have HB0 : Hid (RowKit.Below w.heap.size w W0) := hB0
  have HK : Hid (∀ wx, RowKit.Below W0.heap.size W0 wx → wx.cell? ⟨w.heap.size, 0, none⟩ = some (.int .i64 N) ∧ wx.cell? ⟨w.heap.size, 1, none⟩ = some (.slice ao xs.length cap) ∧ (wx.cell? ⟨w.heap.size + 1, 0, none⟩ = some (.int .i64 0) ∧ wx.cell? ⟨w.heap.size + 1, 1, none⟩ = some (.slice none 0 0) ∧ wx.frozen? ⟨w.heap.size + 1, 0, none⟩ = false ∧ wx.frozen? ⟨w.heap.size + 1, 1, none⟩ = false) ∧ (wx.cell? ⟨w.heap.size + 1 + 1, 0, none⟩ = some (.int .i64 0) ∧ wx.cell? ⟨w.heap.size + 1 + 1, 1, none⟩ = some (.slice none 0 0) ∧ wx.frozen? ⟨w.heap.size + 1 + 1, 0, none⟩ = false ∧ wx.frozen? ⟨w.heap.size + 1 + 1, 1, none⟩ = false) ∧ w.heap.size + 1 + 1 < wx.heap.size ∧ RowKit.Below w.heap.size w wx ∧ wx.heap[w.heap.size + 1]? = some (.cells #[.int .i64 0, .slice none 0 0] 24) ∧ wx.heap[w.heap.size + 1 + 1]? = some (.cells #[.int .i64 0, .slice none 0 0] 45)) := fun wx h => by
    have g0 := (h.block _ (lt_of_get k0)).trans k0
    have g1 := (h.block _ (lt_of_get k1)).trans k1
    have g2 := (h.block _ (lt_of_get k2)).trans k2
    exact ⟨(cell_two g0).1, (cell_two g0).2.1, cell_two g1, cell_two g2, lt_of_get g2, hB0.trans (h.mono hB0.size), g1, g2⟩
  have HDC : Hid (Calls Try.prog 29 #[.agg #[.int .i64 N, .slice ao xs.length cap]] W0 fun e w' => ∃ lo lc, e = .returned (.agg #[.int .i64 (graphErr N xs).1, .slice lo (graphErr N xs).2.length lc]) ∧ HasPlaces w' (.slice lo (graphErr N xs).2.length lc) (graphErr N xs).2 ∧ RowKit.Below W0.heap.size W0 w') := docCheck_calls N ao cap xs W0 (hl.keep hB0) hm
  have HL : Hid (HasArcs w (.slice ao xs.length cap) xs) := hl
  have HSZ : Hid (graphErr N xs = (0, []) → xs.length ≤ 262144) := fun h => by
    unfold graphErr at h
    split at h
    · simp at h
    · omega
  have HCD : Hid (graphErr N xs = (0, []) ∨ (graphErr N xs).1 ≠ 0) := by
    show _ ∨ _
    by_cases h : (graphErr N xs).1 = 0
    · left
      unfold graphErr at *
      split at h
      · simp at h
      · rename_i hlim
        rw [if_neg hlim]
        cases hf : firstBad N xs 0 with
        | none => rfl
        | some q =>
          rw [hf] at h
          exact absurd h (firstBad_ne N xs 0 q hf)
    · exact Or.inr h
  clear hl k0 k1 k2 hB0 hW0
  have HBD : Hid (∀ wx C lo l lc, Calls Try.prog 30 #[.agg #[.int .i64 C, .slice lo l lc]] wx fun e w' => e = .returned (.bool (C != 0 || decide (0 < l))) ∧ RowKit.Below wx.heap.size wx w') := fun wx C lo l lc => bad_calls C lo l lc wx
  go_enter Try.func13, Try.ntmps13
  go_wp2_with fail
  rw [HW0.out]
  refine HDC.out.mono ?_
  rintro e w1 ⟨po, pc, rfl, hp1, hb1⟩
  have HP1 : Hid (HasPlaces w1 (.slice po (graphErr N xs).2.length pc) (graphErr N xs).2) := hp1
  have HB1 : Hid (RowKit.Below W0.heap.size W0 w1) := hb1
  clear hp1 hb1
  have HBE : Hid (RowKit.Below w1.heap.size w1 (w1.alloc (.cells #[.int .i64 (graphErr N xs).1, .slice po (graphErr N xs).2.length pc] 45))) := (RowKit.Below.refl _ w1).alloc (Nat.le_refl _) _
  have HNE : Hid ((w1.alloc (.cells #[.int .i64 (graphErr N xs).1, .slice po (graphErr N xs).2.length pc] 45)).heap[w1.heap.size]? = some (.cells #[.int .i64 (graphErr N xs).1, .slice po (graphErr N xs).2.length pc] 45)) := heap_new _ _
  rcases HCD.out with hgood | hbad
  · have HG : Hid (graphErr N xs = (0, [])) := hgood
    have hlen := HSZ.out hgood
    have hC : (graphErr N xs).1 = 0 := by rw [hgood]
    have hL : (graphErr N xs).2.length = 0 := by rw [hgood]; rfl
    rw [hC, hL] at HBE HNE ⊢
    clear hgood hC hL
    go_wp2_with fail
    refine (HBD.out _ _ _ _ _).mono ?_
    rintro e w2 ⟨rfl, hb2⟩
    have HB2 : Hid (RowKit.Below W0.heap.size W0 w2) := HB1.out.trans ((HBE.out.trans (hb2.mono HBE.out.size)).mono HB1.out.size)
    obtain ⟨c0, c1, ⟨b0, b1, y0, y1⟩, ⟨d0, d1, x0, x1⟩, hs2, hB2, _, _⟩ := HK.out w2 HB2.out
    have HRV : Hid (Calls Try.prog 31 #[.agg #[.int .i64 N, .slice ao xs.length cap]] w2 fun e w' => ∃ lo lc, e = .returned (.agg #[.int .i64 N, .slice lo (normA xs).length lc]) ∧ HasArcs w' (.slice lo (normA xs).length lc) (normA xs) ∧ NewA w2.heap.size (.slice lo (normA xs).length lc) ∧ RowKit.Below w2.heap.size w2 w') := refOf_calls N ao cap xs w2 (HL.out.keep hB2) hlen
    clear hb2 hB2 b0 b1 y0 y1 d0 d1 x0 x1
    go_wp2_with fail
    refine HRV.out.mono ?_
    rintro e w3 ⟨lo, lc, rfl, hA3, hn3, hb3⟩
    have HN3 : Hid (NewA w.heap.size (.slice lo (normA xs).length lc)) := hn3.base (HK.out w2 HB2.out).2.2.2.2.2.1.size
    clear hn3
    have HB3 : Hid (RowKit.Below W0.heap.size W0 w3) := HB2.out.trans (hb3.mono HB2.out.size)
    have HA3 : Hid (HasArcs w3 (.slice lo (normA xs).length lc) (normA xs)) := hA3
    obtain ⟨_, _, ⟨b0, b1, y0, y1⟩, ⟨d0, d1, x0, x1⟩, hs3, hB3, g1, g2⟩ := HK.out w3 HB3.out
    have H3 : Hid (RowKit.Below w.heap.size w w3 ∧ w3.heap[w.heap.size + 1]? = some (.cells #[.int .i64 0, .slice none 0 0] 24) ∧ w3.heap[w.heap.size + 1 + 1]? = some (.cells #[.int .i64 0, .slice none 0 0] 45)) := ⟨hB3, g1, g2⟩
    clear hA3 hb3 hB3 g1 g2 c0 c1
    go_wp2
    refine bodyPost_ret (v := .tuple #[.agg #[.int .i64 N, .slice lo (normA xs).length lc], .agg #[.int .i64 0, .slice none 0 0]]) (by simp [results, Try.results13, go_sem, b0, b1, d0, d1]) rfl ⟨N, lo, (normA xs).length, lc, normA xs, none, 0, by rw [HG.out]; rfl, HA3.out.lay H3.out.2.1 H3.out.2.2 _ _ _ _, HN3.out, ⟨none, 0, by rw [HG.out], fun j p hj => by rw [HG.out] at hj; simp at hj⟩, Or.inl ⟨HG.out, rfl, rfl⟩, Below.lay4 H3.out.1 _ _ _ _⟩
  · have HGN : Hid (graphErr N xs ≠ (0, [])) := fun e => hbad (by rw [e])
    have hbd : ((graphErr N xs).1 != 0 || decide (0 < (graphErr N xs).2.length)) = true := by simp [hbad]
    have HBD2 : Hid (∀ wx, Calls Try.prog 30 #[.agg #[.int .i64 (graphErr N xs).1, .slice po (graphErr N xs).2.length pc]] wx fun e w' => e = .returned (.bool true) ∧ RowKit.Below wx.heap.size wx w') := fun wx => by
      have h := HBD.out wx (graphErr N xs).1 po (graphErr N xs).2.length pc
      rw [hbd] at h
      exact h
    clear hbd hbad
    generalize hge : graphErr N xs = ge at *
    obtain ⟨C, ps⟩ := ge
    simp only at *
    go_wp2_with fail
    refine (HBD2.out _).mono ?_
    rintro e w2 ⟨rfl, hb2⟩
    have hbE2 : RowKit.Below w1.heap.size w1 w2 := HBE.out.trans (hb2.mono HBE.out.size)
    have HB2 : Hid (RowKit.Below W0.heap.size W0 w2) := HB1.out.trans (hbE2.mono HB1.out.size)
    have hN2 := (hb2.block w1.heap.size (lt_of_get HNE.out)).trans HNE.out
    obtain ⟨e0, e1, _, _⟩ := cell_two hN2
    have HP2 : Hid (HasPlaces w2 (.slice po ps.length pc) ps) := HP1.out.keep hbE2
    obtain ⟨c0, c1, ⟨b0, b1, y0, y1⟩, ⟨d0, d1, x0, x1⟩, hs2, hB2, g1, g2⟩ := HK.out w2 HB2.out
    have H2 : Hid (RowKit.Below w.heap.size w w2 ∧ w2.heap[w.heap.size + 1]? = some (.cells #[.int .i64 0, .slice none 0 0] 24) ∧ w2.heap[w.heap.size + 1 + 1]? = some (.cells #[.int .i64 0, .slice none 0 0] 45)) := ⟨hB2, g1, g2⟩
    clear hb2 hbE2 hN2 hB2 g1 g2
    have hle : w1.heap.size < w2.heap.size := by
      rcases Nat.lt_or_ge w1.heap.size w2.heap.size with h | h
      · exact h
      · simp [World.cell?, Array.getElem?_eq_none h] at e0
    have hw1 : w.heap.size + 1 + 1 < w1.heap.size := (HK.out w1 HB1.out).2.2.2.2.1
    have n1 : ¬ w.heap.size + 1 = w1.heap.size := by omega
    have n2 : ¬ w1.heap.size = w.heap.size + 1 := by omega
    have n3 : ¬ w.heap.size + 1 + 1 = w1.heap.size := by omega
    have n4 : ¬ w1.heap.size = w.heap.size + 1 + 1 := by omega
    go_wp2_with fail
    go_region_held (fun w' => w'.cell? ⟨w1.heap.size, 0, none⟩ = some (.int .i64 C) ∧ w'.cell? ⟨w1.heap.size, 1, none⟩ = some (.slice po ps.length pc)) (go_keep) (first | fail)
    all_goals
      go_wp2
      refine bodyPost_ret (v := .tuple #[.agg #[.int .i64 0, .slice none 0 0], .agg #[.int .i64 C, .slice po ps.length pc]]) (by simp [results, Try.results13, go_sem, b0, b1, d0, d1]) rfl ?_
      rw [hge]
      exact ⟨0, none, 0, 0, [], po, pc, rfl, ⟨none, 0, rfl, fun j a hj => by simp at hj⟩, newA_nil _ _ _, HP2.out.lay H2.out.2.1 H2.out.2.2 _ _ _ _, Or.inr ⟨HGN.out, rfl, rfl⟩, (Below.lay4 H2.out.1 _ _ _ _).drew⟩
end Go.Proofs.Ytbfopkhdngfanaa
