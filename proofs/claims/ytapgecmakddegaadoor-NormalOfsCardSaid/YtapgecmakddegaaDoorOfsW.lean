/- The law NormalOfs, walked: at every graph it answers true, and nothing old turns. -/
import Derived.Test.YtapgecmakddegaaDoorDocIs
import Derived.Test.YtapgecmakddegaaDoorDocIsN
import Derived.Test.YtapgecmakddegaaDoorIsAll
import Derived.Test.YtapgecmakddegaaDoorAwake
namespace Go.Proofs.YtapgecmakddegaaDoor
open Go.RowKit Go.Extern

attribute [local go_sem] Oper.semAt_some

theorem graphErr_short (N : Int) (xs : List (Int × Int × Int)) : (graphErr N xs).2.length ≤ maxLen := by
  unfold graphErr maxLen
  split
  · simp
  · split <;> simp

theorem graph_or (N : Int) (xs : List (Int × Int × Int)) : graphErr N xs = (0, []) ∨ (graphErr N xs).1 ≠ 0 := by
  by_cases h : (graphErr N xs).1 = 0
  · left
    unfold graphErr at *
    split at h
    · simp at h
    · rename_i hlim
      rw [if_neg hlim]
      cases hf : firstBad N xs 0 with
      | none => rfl
      | some q =>
        rw [hf] at h
        exact absurd h (firstBad_ne N xs 0 q hf)
  · exact Or.inr h
theorem docIs_all (N : Int) (ao : Option Addr) (cap : Nat) (xs : List (Int × Int × Int)) (w : World) (hl : HasArcs w (.slice ao xs.length cap) xs) (hm : xs.length ≤ maxLen) :
    Calls Tryd.prog 14 #[.agg #[.int .i64 N, .slice ao xs.length cap]] w fun e w' => ∃ po pc, e = .returned (.tuple #[.bool (decide (graphErr N xs = (0, []) ∧ normA xs = xs)), .agg #[.int .i64 (graphErr N xs).1, .slice po (graphErr N xs).2.length pc]]) ∧ HasPlaces w' (.slice po (graphErr N xs).2.length pc) (graphErr N xs).2 ∧ Below w.heap.size w w' := by
  rcases graph_or N xs with h | h
  · refine (docIs_good N ao cap xs w hl hm h).mono ?_
    rintro e w' ⟨po, pc, rfl, hB⟩
    refine ⟨po, pc, by rw [h]; simp, ?_, hB⟩
    rw [h]
    exact ⟨po, pc, rfl, fun j p hj => by simp at hj⟩
  · refine (docIs_bad N ao cap xs w hl hm (graphErr N xs).1 (graphErr N xs).2 rfl h).mono ?_
    rintro e w' ⟨po, pc, rfl, hP, hB⟩
    exact ⟨po, pc, by rw [decide_eq_false (fun g => h (by rw [g.1]))], hP, hB⟩
set_option maxRecDepth 100000 in
theorem great_calls (N : Int) (ao : Option Addr) (n cap : Nat) (w : World) : Calls Tryd.prog 8 #[.agg #[.int .i64 N, .slice ao n cap]] w fun e w' => e = .returned (.bool (decide (3000 < n ∧ n ≤ 262144))) ∧ Below w.heap.size w w' := by
  have HB : Hid (∀ u, Below w.heap.size w (w.alloc u)) := fun u => (Below.refl _ w).alloc (Nat.le_refl _) _
  by_cases h1 : (3000 : Int) < n
  · by_cases h2 : (n : Int) ≤ 262144
    · rw [decide_eq_true ⟨by omega, by omega⟩]
      go_enter Tryd.func8, Tryd.ntmps8
      go_wp2
      go_ret
      exact ⟨rfl, HB.out _⟩
    · rw [decide_eq_false (by omega)]
      go_enter Tryd.func8, Tryd.ntmps8
      go_wp2
      go_ret
      exact ⟨rfl, HB.out _⟩
  · rw [decide_eq_false (by omega)]
    go_enter Tryd.func8, Tryd.ntmps8
    go_wp2
    go_ret
    exact ⟨rfl, HB.out _⟩
/-- a list of places is kept where an error's block is laid anew. -/
theorem HasPlaces.over {W : World} {v : Value} {l : List (Int × Int)} (h : HasPlaces W v l) {b1 : Nat} {x0 : Value} {so : Option Addr} {n c : Nat} {t1 : TypeId} (h1 : W.heap[b1]? = some (.cells #[x0, .slice so n c] t1)) (c0 c1 : Value) :
    HasPlaces ((W.setCell ⟨b1, 0, none⟩ c0).setCell ⟨b1, 1, none⟩ c1) v l := by
  obtain ⟨ao, cap, e, hc⟩ := h
  refine ⟨ao, cap, e, fun j a hj => ?_⟩
  obtain ⟨b, off, ea, hl, q0, q1⟩ := hc j a hj
  have n1 : b ≠ b1 := fun e => by
    subst e
    simp only [World.cell?, h1] at q1
    rw [if_neg (by simp)] at q1
    rcases (show off + j * 2 = 0 ∨ 2 ≤ off + j * 2 + 1 by omega) with h | h
    · rw [h] at q1; simp at q1
    · rw [Array.getElem?_eq_none (by simpa using h)] at q1; cases q1
  have keep : ∀ o, ((W.setCell ⟨b1, 0, none⟩ c0).setCell ⟨b1, 1, none⟩ c1).cell? ⟨b, o, none⟩ = W.cell? ⟨b, o, none⟩ := fun o => by
    rw [World.cell?_setCell_other _ _ _ _ (fun e => n1 (congrArg Addr.block e).symm), World.cell?_setCell_other _ _ _ _ (fun e => n1 (congrArg Addr.block e).symm)]
  exact ⟨b, off, ea, by simp; exact hl, (keep _).trans q0, (keep _).trans q1⟩

set_option maxRecDepth 100000 in
set_option maxHeartbeats 4000000 in
theorem ofs_calls (N : Int) (ao : Option Addr) (cap : Nat) (xs : List (Int × Int × Int)) (w : World) (hl : HasArcs w (.slice ao xs.length cap) xs) (hm : xs.length ≤ maxLen) (hg : HasType w) :
    Calls Tryd.prog 3 #[.agg #[.int .i64 N, .slice ao xs.length cap]] w fun e w' => e = .returned (.bool true) ∧ Below w.heap.size w w' := by
  obtain ⟨W0, hW0⟩ : ∃ W0, w.alloc (.cells #[.int .i64 N, .slice ao xs.length cap] 24) = W0 := ⟨_, rfl⟩
  have hB0 : Below w.heap.size w W0 := by rw [← hW0]; exact (Below.refl _ w).alloc (Nat.le_refl _) _
  have k0 : W0.heap[w.heap.size]? = some (.cells #[.int .i64 N, .slice ao xs.length cap] 24) := by rw [← hW0]; exact heap_new _ _
  have HW0 : Hid (w.alloc (.cells #[.int .i64 N, .slice ao xs.length cap] 24) = W0) := hW0
  have HB0 : Hid (Below w.heap.size w W0) := hB0
  have HK : Hid (∀ wx, Below W0.heap.size W0 wx → wx.cell? ⟨w.heap.size, 0, none⟩ = some (.int .i64 N) ∧ wx.cell? ⟨w.heap.size, 1, none⟩ = some (.slice ao xs.length cap) ∧ w.heap.size < wx.heap.size ∧ Below w.heap.size w wx ∧ HasArcs wx (.slice ao xs.length cap) xs ∧ HasType wx) := fun wx h => by
    have g0 := (h.block _ (lt_of_get k0)).trans k0
    have hb := hB0.trans (h.mono hB0.size)
    exact ⟨(cell_two g0).1, (cell_two g0).2.1, lt_of_get g0, hb, hl.keep hb, hg.keep hb hg.pos⟩
  have HM : Hid (xs.length ≤ maxLen) := hm
  have HAW : Hid (Calls Tryd.prog 7 #[] W0 fun e w' => e = .returned (.bool true) ∧ Below W0.heap.size W0 w') := awake_calls W0
  obtain ⟨E, hE⟩ : ∃ E, graphErr N xs = E := ⟨_, rfl⟩
  have HRV : Hid (∀ wx, Below W0.heap.size W0 wx → Calls Tryd.prog 9 #[.agg #[.int .i64 N, .slice ao xs.length cap]] wx fun e w' => ∃ M lo n lc v ys, e = .returned (.tuple #[.agg #[.int .i64 M, .slice lo n lc], v]) ∧ HasArcs w' (.slice lo n lc) ys ∧ ys.length ≤ xs.length ∧ IsTold w' E v ∧ ((E = (0, []) ∧ M = N ∧ ys = normA xs) ∨ (E ≠ (0, []) ∧ M = 0 ∧ ys = [])) ∧ Below wx.heap.size wx w') := fun wx h => by
    have := of_all N ao cap xs wx (HK.out wx h).2.2.2.2.1 HM.out
    rw [hE] at this
    exact this
  have HDR : Hid (∀ wx, Below W0.heap.size W0 wx → Calls Tryd.prog 10 #[.agg #[.int .i64 N, .slice ao xs.length cap]] wx fun e w' => ∃ M lo n lc ys po pc, e = .returned (.tuple #[.agg #[.int .i64 M, .slice lo n lc], .agg #[.int .i64 E.1, .slice po E.2.length pc]]) ∧ HasArcs w' (.slice lo n lc) ys ∧ HasPlaces w' (.slice po E.2.length pc) E.2 ∧ ((E = (0, []) ∧ M = N ∧ ys = normA xs) ∨ (E ≠ (0, []) ∧ M = 0 ∧ ys = [])) ∧ Below wx.heap.size wx w') := fun wx h => by
    have := docOf_calls N ao cap xs wx (HK.out wx h).2.2.2.2.1 HM.out
    rw [hE] at this
    exact this
  have HIS : Hid (∀ wx, Below W0.heap.size W0 wx → Calls Tryd.prog 13 #[.agg #[.int .i64 N, .slice ao xs.length cap]] wx fun e w' => ∃ v, e = .returned (.tuple #[.bool (decide (E = (0, []) ∧ normA xs = xs)), v]) ∧ IsTold w' E v ∧ Below wx.heap.size wx w') := fun wx h => by
    have := is_all N ao cap xs wx (HK.out wx h).2.2.2.2.1 HM.out
    rw [hE] at this
    exact this
  have HDI : Hid (∀ wx, Below W0.heap.size W0 wx → Calls Tryd.prog 14 #[.agg #[.int .i64 N, .slice ao xs.length cap]] wx fun e w' => ∃ po pc, e = .returned (.tuple #[.bool (decide (E = (0, []) ∧ normA xs = xs)), .agg #[.int .i64 E.1, .slice po E.2.length pc]]) ∧ HasPlaces w' (.slice po E.2.length pc) E.2 ∧ Below wx.heap.size wx w') := fun wx h => by
    have := docIs_all N ao cap xs wx (HK.out wx h).2.2.2.2.1 HM.out
    rw [hE] at this
    exact this
  obtain ⟨ans, hans⟩ : ∃ ans, decide (E = (0, []) ∧ normA xs = xs) = ans := ⟨_, rfl⟩
  rw [hans] at HIS HDI
  clear hans
  have HGR : Hid (∀ wx, Calls Tryd.prog 8 #[.agg #[.int .i64 N, .slice ao xs.length cap]] wx fun e w' => e = .returned (.bool (decide (3000 < xs.length ∧ xs.length ≤ 262144))) ∧ Below wx.heap.size wx w') := fun wx => great_calls N ao xs.length cap wx
  obtain ⟨big, hbig⟩ : ∃ big, decide (3000 < xs.length ∧ xs.length ≤ 262144) = big := ⟨_, rfl⟩
  rw [hbig] at HGR
  clear hbig
  have HES : Hid (E.2.length ≤ maxLen) := by rw [← hE]; exact graphErr_short N xs
  have HSN : Hid (∀ wx v po pc, IsTold wx E v → HasPlaces wx (.slice po E.2.length pc) E.2 → HasType wx → Calls Tryd.prog 12 #[v, .agg #[.int .i64 E.1, .slice po E.2.length pc]] wx fun r w' => r = .returned (.bool true) ∧ Below wx.heap.size wx w') := fun wx v po pc h1 h2 h3 => seen_told E v po pc wx h1 h2 HES.out h3
  have HGT : Hid (HasType w) := hg
  clear hl k0 hB0 hW0 hE hm hg
  obtain ⟨C, ps⟩ := E
  simp only at HRV HDR HIS HDI HES HSN
  go_enter Tryd.func3, Tryd.ntmps3
  go_wp2_with fail
  rw [HW0.out]
  refine HAW.out.mono ?_
  rintro e w1 ⟨rfl, hb1⟩
  have HB1' : Hid (Below W0.heap.size W0 w1) := hb1
  obtain ⟨c0, c1, hs1, _, _, _⟩ := HK.out w1 hb1
  clear hb1
  go_wp2_with fail
  refine (HGR.out _).mono ?_
  rintro e w1' ⟨rfl, hb1'⟩
  have HB1 : Hid (Below W0.heap.size W0 w1') := HB1'.out.trans (hb1'.mono HB1'.out.size)
  clear hb1' c0 c1 hs1
  obtain ⟨c0, c1, hs1, hbw1, _, _⟩ := HK.out w1' HB1.out
  have HBW1 : Hid (Below w.heap.size w w1') := hbw1
  clear hbw1
  cases big with
  | true =>
    go_wp2
    go_ret
    exact ⟨rfl, HBW1.out⟩
  | false =>
    go_wp2_with fail
    refine (HRV.out _ HB1.out).mono ?_
    rintro e w2 ⟨M, lo, n, lc, v, ys, rfl, hA2, hy2, hT2, hc2, hb2⟩
    have HA2 : Hid (HasArcs w2 (.slice lo n lc) ys) := hA2
    have HY : Hid (ys.length ≤ xs.length) := hy2
    have HT2 : Hid (IsTold w2 (C, ps) v) := hT2
    have HC2 : Hid (((C, ps) = (0, []) ∧ M = N ∧ ys = normA xs) ∨ ((C, ps) ≠ (0, []) ∧ M = 0 ∧ ys = [])) := hc2
    have HB2 : Hid (Below W0.heap.size W0 w2) := HB1.out.trans (hb2.mono HB1.out.size)
    clear hA2 hy2 hT2 hc2 hb2 c0 c1 hs1
    obtain ⟨c0, c1, hs2, _, _, _⟩ := HK.out w2 HB2.out
    obtain ⟨V, hV⟩ : ∃ V, w2.alloc (.cells #[.int .i64 M, .slice lo n lc] 24) = V := ⟨_, rfl⟩
    have HV : Hid (w2.alloc (.cells #[.int .i64 M, .slice lo n lc] 24) = V) := hV
    have HBV : Hid (Below w2.heap.size w2 V) := by rw [← hV]; exact (Below.refl _ w2).alloc (Nat.le_refl _) _
    have HNV : Hid (V.heap[w2.heap.size]? = some (.cells #[.int .i64 M, .slice lo n lc] 24)) := by rw [← hV]; exact heap_new _ _
    have HBV0 : Hid (Below W0.heap.size W0 V) := HB2.out.trans (HBV.out.mono HB2.out.size)
    clear hV
    go_wp2_with fail
    rw [HV.out]
    refine (HDR.out _ HBV0.out).mono ?_
    rintro e w3 ⟨M', lo', n', lc', ys', po, pc, rfl, hA3, hP3, hc3, hb3⟩
    obtain ⟨rfl, rfl⟩ : M' = M ∧ ys' = ys := by
      rcases HC2.out with ⟨h1, h2, h3⟩ | ⟨h1, h2, h3⟩ <;> rcases hc3 with ⟨g1, g2, g3⟩ | ⟨g1, g2, g3⟩
      · exact ⟨g2.trans h2.symm, g3.trans h3.symm⟩
      · exact absurd h1 g1
      · exact absurd g1 h1
      · exact ⟨g2.trans h2.symm, g3.trans h3.symm⟩
    have HBV3 : Hid (Below V.heap.size V w3) := hb3
    have HB3 : Hid (Below W0.heap.size W0 w3) := HBV0.out.trans (hb3.mono HBV0.out.size)
    have HB23 : Hid (Below w2.heap.size w2 w3) := HBV.out.trans (hb3.mono HBV.out.size)
    clear hc3 hb3 c0 c1 hs2
    obtain ⟨X, hX⟩ : ∃ X, (w3.alloc (.cells #[.int .i64 M', .slice lo' n' lc'] 24)).alloc (.cells #[.int .i64 C, .slice po ps.length pc] 33) = X := ⟨_, rfl⟩
    have HX : Hid ((w3.alloc (.cells #[.int .i64 M', .slice lo' n' lc'] 24)).alloc (.cells #[.int .i64 C, .slice po ps.length pc] 33) = X) := hX
    have hBX : Below w3.heap.size w3 X := by rw [← hX]; exact ((Below.refl _ w3).alloc (Nat.le_refl _) _).alloc (by simp) _
    have x0 : X.heap[w3.heap.size]? = some (.cells #[.int .i64 M', .slice lo' n' lc'] 24) := by rw [← hX, Below.heap_alloc _ _ _ (by simp)]; exact heap_new _ _
    have x1 : X.heap[w3.heap.size + 1]? = some (.cells #[.int .i64 C, .slice po ps.length pc] 33) := by
      have h := heap_new (w3.alloc (.cells #[.int .i64 M', .slice lo' n' lc'] 24)) (.cells #[.int .i64 C, .slice po ps.length pc] 33)
      rw [hX] at h
      simpa using h
    have xa : X.heap[w2.heap.size]? = some (.cells #[.int .i64 M', .slice lo n lc] 24) := (hBX.block _ (Nat.lt_of_lt_of_le (lt_of_get HNV.out) HBV3.out.size)).trans ((HBV3.out.block _ (lt_of_get HNV.out)).trans HNV.out)
    have HBX : Hid (Below w3.heap.size w3 X) := hBX
    have HBX0 : Hid (Below W0.heap.size W0 X) := HB3.out.trans (hBX.mono HB3.out.size)
    have HR : Hid (∀ wx, Below X.heap.size X wx → wx.heap[w3.heap.size + 1]? = some (.cells #[.int .i64 C, .slice po ps.length pc] 33) ∧ Below W0.heap.size W0 wx ∧ w3.heap.size + 1 < wx.heap.size ∧ HasPlaces wx (.slice po ps.length pc) ps ∧ IsTold wx (C, ps) v) := fun wx h => by
      have hb := hBX.trans (h.mono hBX.size)
      have g := (h.block _ (lt_of_get x1)).trans x1
      exact ⟨g, HB3.out.trans (hb.mono HB3.out.size), lt_of_get g, hP3.keep hb, HT2.out.keep (Below.keeps (HB23.out.trans (hb.mono HB23.out.size)))⟩
    have HSG : Hid (Calls Tryd.prog 11 #[.agg #[.int .i64 M', .slice lo n lc], .agg #[.int .i64 M', .slice lo' n' lc']] X fun e w' => e = .returned (.bool true) ∧ Below X.heap.size X w') := same_yes M' lo lo' n n' lc lc' ys' X (HA2.out.keep (HB23.out.trans (hBX.mono HB23.out.size))) (hA3.keep hBX) (Nat.le_trans HY.out HM.out)
    obtain ⟨a0, a1, _, _⟩ := cell_two xa
    obtain ⟨b0, b1, _, _⟩ := cell_two x0
    have h2l : w2.heap.size < X.heap.size := lt_of_get xa
    have h3l : w3.heap.size < X.heap.size := lt_of_get x0
    clear hBX x0 x1 xa hX hA3 hP3
    go_upto_region 7 with fail
    rw [HX.out]
    go_wp2_with fail
    refine HSG.out.mono ?_
    rintro e w4 ⟨rfl, hb4⟩
    have HB4 : Hid (Below X.heap.size X w4) := hb4
    obtain ⟨g4, h4, hs4, hP4, hT4⟩ := HR.out w4 hb4
    have HS4 : Hid (Calls Tryd.prog 12 #[v, .agg #[.int .i64 C, .slice po ps.length pc]] w4 fun r w' => r = .returned (.bool true) ∧ Below w4.heap.size w4 w') := HSN.out w4 v po pc hT4 hP4 (HK.out w4 h4).2.2.2.2.2
    obtain ⟨d0, d1, _, _⟩ := cell_two g4
    clear hb4 g4 h4 hP4 hT4 a0 a1 b0 b1 h2l h3l
    go_wp2_with fail
    refine HS4.out.mono ?_
    rintro e w5 ⟨rfl, hb5⟩
    have HB5 : Hid (Below X.heap.size X w5) := HB4.out.trans (hb5.mono HB4.out.size)
    obtain ⟨g5, h5, hs5, _, _⟩ := HR.out w5 HB5.out
    have H5 : Hid (Below W0.heap.size W0 w5 ∧ w3.heap.size + 1 < w5.heap.size) := ⟨h5, hs5⟩
    obtain ⟨c0, c1, hw5, _, _, _⟩ := HK.out w5 h5
    clear hb5 g5 h5 hs4 d0 d1 hs5
    go_wp2_with fail
    refine (HIS.out _ H5.out.1).mono ?_
    rintro e w6 ⟨v', rfl, ht6, hb6⟩
    have HB6 : Hid (Below X.heap.size X w6) := HB5.out.trans (hb6.mono HB5.out.size)
    have HT6 : Hid (IsTold w6 (C, ps) v') := ht6
    obtain ⟨g6, h6, hs6, _, _⟩ := HR.out w6 HB6.out
    have H6 : Hid (Below W0.heap.size W0 w6) := h6
    clear ht6 hb6 g6 h6 c0 c1 hw5
    obtain ⟨c0, c1, hw6, _, _, _⟩ := HK.out w6 H6.out
    go_wp2_with fail
    refine (HDI.out _ H6.out).mono ?_
    rintro e w7 ⟨po', pc', rfl, hp7, hb7⟩
    have HB7 : Hid (Below X.heap.size X w7) := HB6.out.trans (hb7.mono HB6.out.size)
    obtain ⟨g7, h7, hs7, _, _⟩ := HR.out w7 HB7.out
    obtain ⟨d0, d1, d2, d3⟩ := cell_two g7
    obtain ⟨Y, hY⟩ : ∃ Y, (w7.setCell ⟨w3.heap.size + 1, 0, none⟩ (.int .i64 C)).setCell ⟨w3.heap.size + 1, 1, none⟩ (.slice po' ps.length pc') = Y := ⟨_, rfl⟩
    have HY7 : Hid ((w7.setCell ⟨w3.heap.size + 1, 0, none⟩ (.int .i64 C)).setCell ⟨w3.heap.size + 1, 1, none⟩ (.slice po' ps.length pc') = Y) := hY
    have hBY : Below w.heap.size w Y := by
      have h := (HK.out w7 h7).2.2.2.1
      have h3 := (HK.out w3 HB3.out).2.2.2.1.size
      rw [← hY]
      exact (h.setCell (p := ⟨w3.heap.size + 1, 0, none⟩) (by show w.heap.size ≤ w3.heap.size + 1; omega) _).setCell (p := ⟨w3.heap.size + 1, 1, none⟩) (by show w.heap.size ≤ w3.heap.size + 1; omega) _
    have HBY : Hid (Below w.heap.size w Y) := hBY
    have hKY : Keeps w7 Y := by rw [← hY]; exact keeps_two g7 (by decide) _ _
    have hPY : HasPlaces Y (.slice po' ps.length pc') ps := by rw [← hY]; exact hp7.over g7 _ _
    have HS8 : Hid (Calls Tryd.prog 12 #[v', .agg #[.int .i64 C, .slice po' ps.length pc']] Y fun r w' => r = .returned (.bool true) ∧ Below Y.heap.size Y w') := HSN.out Y v' po' pc' ((HT6.out.keep (Below.keeps hb7)).keep hKY) hPY (HGT.out.keep hBY HGT.out.pos)
    have e0 : Y.cell? ⟨w3.heap.size + 1, 0, none⟩ = some (.int .i64 C) := by
      rw [← hY, World.cell?_setCell_other _ _ _ _ (by simp), World.cell?_setCell_same _ _ _ d0]
    have e1 : Y.cell? ⟨w3.heap.size + 1, 1, none⟩ = some (.slice po' ps.length pc') := by
      rw [← hY]
      exact World.cell?_setCell_same _ _ _ ((World.cell?_setCell_other _ _ _ _ (by simp)).trans d1)
    have hsY : w3.heap.size + 1 < Y.heap.size := by rw [← hY]; simp; exact hs7
    clear hp7 hb7 hY hBY hKY hPY g7 h7 c0 c1 hw6
    go_upto_region 11 with fail
    rw [HY7.out]
    clear d0 d1 d2 d3
    go_wp2_with fail
    refine HS8.out.mono ?_
    rintro e w9 ⟨rfl, hb9⟩
    have HB9 : Hid (Below w.heap.size w w9) := HBY.out.trans (hb9.mono HBY.out.size)
    clear hb9
    go_wp2
    go_ret
    exact ⟨rfl, HB9.out⟩
end Go.Proofs.YtapgecmakddegaaDoor
