/- The law NormalMerges, walked: at every two graphs it answers true, and nothing old turns. -/
import Derived.Test.YtapgecmakddegaaDoorRefMerge
import Derived.Test.YtapgecmakddegaaDoorMerge
import Derived.Test.YtapgecmakddegaaDoorAwake
namespace Go.Proofs.YtapgecmakddegaaDoor
open Go.RowKit Go.Extern Go.Sort Go.Shelf

attribute [local go_sem] Oper.semAt_some

theorem graphErr_few (N : Int) (xs : List (Int × Int × Int)) : (graphErr N xs).2.length ≤ maxLen := by
  unfold graphErr maxLen
  split
  · simp
  · split <;> simp
theorem bothErr_few (M N : Int) (xs ys : List (Int × Int × Int)) : (bothErr M N xs ys).2.length ≤ maxLen := by
  unfold bothErr
  split
  · exact graphErr_few _ _
  · split
    · exact graphErr_few _ _
    · split
      · simp
      · split <;> simp
theorem bothErr_good {M N : Int} {xs ys : List (Int × Int × Int)} (h : bothErr M N xs ys = (0, [])) : xs.length + ys.length ≤ 262144 := by
  unfold bothErr at h
  split at h
  · rename_i h0; exact absurd h h0
  · split at h
    · rename_i h0; exact absurd h h0
    · split at h
      · simp at h
      · split at h
        · simp at h
        · omega

set_option maxRecDepth 100000 in
set_option maxHeartbeats 4000000 in
theorem merges_calls (M N : Int) (ao bo : Option Addr) (ac bc : Nat) (xs ys : List (Int × Int × Int)) (w : World) (hx : HasArcs w (.slice ao xs.length ac) xs) (hy : HasArcs w (.slice bo ys.length bc) ys) (hxn : ao = none → ac = 0) (hyn : bo = none → bc = 0) (hmx : xs.length ≤ maxLen) (hmy : ys.length ≤ maxLen) (hg : HasType w) :
    Calls Tryd.prog 5 #[.agg #[.int .i64 M, .slice ao xs.length ac], .agg #[.int .i64 N, .slice bo ys.length bc]] w fun e w' => e = .returned (.bool true) ∧ Below w.heap.size w w' := by
  obtain ⟨W0, hW0⟩ : ∃ W0, (w.alloc (.cells #[.int .i64 M, .slice ao xs.length ac] 24)).alloc (.cells #[.int .i64 N, .slice bo ys.length bc] 24) = W0 := ⟨_, rfl⟩
  have hB0 : Below w.heap.size w W0 := by rw [← hW0]; exact ((Below.refl _ w).alloc (Nat.le_refl _) _).alloc (by simp) _
  have k0 : W0.heap[w.heap.size]? = some (.cells #[.int .i64 M, .slice ao xs.length ac] 24) := by rw [← hW0, Below.heap_alloc _ _ _ (by simp)]; exact heap_new _ _
  have k1 : W0.heap[w.heap.size + 1]? = some (.cells #[.int .i64 N, .slice bo ys.length bc] 24) := by
    have h := heap_new (w.alloc (.cells #[.int .i64 M, .slice ao xs.length ac] 24)) (.cells #[.int .i64 N, .slice bo ys.length bc] 24)
    rw [hW0] at h
    simpa using h
  have HW0 : Hid ((w.alloc (.cells #[.int .i64 M, .slice ao xs.length ac] 24)).alloc (.cells #[.int .i64 N, .slice bo ys.length bc] 24) = W0) := hW0
  have HK : Hid (∀ wx, Below W0.heap.size W0 wx → (wx.cell? ⟨w.heap.size, 0, none⟩ = some (.int .i64 M) ∧ wx.cell? ⟨w.heap.size, 1, none⟩ = some (.slice ao xs.length ac) ∧ wx.cell? ⟨w.heap.size + 1, 0, none⟩ = some (.int .i64 N) ∧ wx.cell? ⟨w.heap.size + 1, 1, none⟩ = some (.slice bo ys.length bc)) ∧ w.heap.size + 1 < wx.heap.size ∧ Below w.heap.size w wx ∧ HasArcs wx (.slice ao xs.length ac) xs ∧ HasArcs wx (.slice bo ys.length bc) ys ∧ HasType wx) := fun wx h => by
    have g0 := (h.block _ (lt_of_get k0)).trans k0
    have g1 := (h.block _ (lt_of_get k1)).trans k1
    have hb := hB0.trans (h.mono hB0.size)
    exact ⟨⟨(cell_two g0).1, (cell_two g0).2.1, (cell_two g1).1, (cell_two g1).2.1⟩, lt_of_get g1, hb, hx.keep hb, hy.keep hb, hg.keep hb hg.pos⟩
  have HAW : Hid (Calls Tryd.prog 7 #[] W0 fun e w' => e = .returned (.bool true) ∧ Below W0.heap.size W0 w') := awake_calls W0
  obtain ⟨E, hE⟩ : ∃ E, bothErr M N xs ys = E := ⟨_, rfl⟩
  have HMG : Hid (∀ wx, Below W0.heap.size W0 wx → Calls Tryd.prog 20 #[.agg #[.int .i64 M, .slice ao xs.length ac], .agg #[.int .i64 N, .slice bo ys.length bc]] wx fun e w' => ∃ K lo n lc v zs, e = .returned (.tuple #[.agg #[.int .i64 K, .slice lo n lc], v]) ∧ HasArcs w' (.slice lo n lc) zs ∧ zs.length ≤ 262144 ∧ IsTold w' E v ∧ ((E = (0, []) ∧ K = M ∧ zs = xs ++ ys) ∨ (E ≠ (0, []) ∧ K = 0 ∧ zs = [])) ∧ Below wx.heap.size wx w') := fun wx h =>
    merge_of E M N ao bo ac bc xs ys wx (HK.out wx h).2.2.2.1 (HK.out wx h).2.2.2.2.1 hxn hyn (fun wy h1 h2 => by have h3 := both_calls M N ao bo ac bc xs ys wy h1 h2 hmx hmy; rw [hE] at h3; exact h3) (fun h' => by rw [← hE] at h'; exact bothErr_good h')
  have HDM : Hid (∀ wx, Below W0.heap.size W0 wx → Calls Tryd.prog 21 #[.agg #[.int .i64 M, .slice ao xs.length ac], .agg #[.int .i64 N, .slice bo ys.length bc]] wx fun e w' => ∃ K lo n lc zs po pc, e = .returned (.tuple #[.agg #[.int .i64 K, .slice lo n lc], .agg #[.int .i64 E.1, .slice po E.2.length pc]]) ∧ HasArcs w' (.slice lo n lc) zs ∧ HasPlaces w' (.slice po E.2.length pc) E.2 ∧ ((E = (0, []) ∧ K = M ∧ zs = xs ++ ys) ∨ (E ≠ (0, []) ∧ K = 0 ∧ zs = [])) ∧ Below wx.heap.size wx w') := fun wx h => by
    have h3 := docMerge_calls M N ao bo ac bc xs ys wx (HK.out wx h).2.2.2.1 (HK.out wx h).2.2.2.2.1 hmx hmy
    rw [hE] at h3
    exact h3
  have HES : Hid (E.2.length ≤ maxLen) := by rw [← hE]; exact bothErr_few M N xs ys
  have HSN : Hid (∀ wx v po pc, IsTold wx E v → HasPlaces wx (.slice po E.2.length pc) E.2 → HasType wx → Calls Tryd.prog 12 #[v, .agg #[.int .i64 E.1, .slice po E.2.length pc]] wx fun r w' => r = .returned (.bool true) ∧ Below wx.heap.size wx w') := fun wx v po pc h1 h2 h3 => seen_told E v po pc wx h1 h2 HES.out h3
  clear hx hy k0 k1 hB0 hW0 hE hmx hmy hg hxn hyn
  obtain ⟨C, ps⟩ := E
  simp only at HMG HDM HES HSN
  go_enter Tryd.func5, Tryd.ntmps5
  go_wp2_with fail
  rw [HW0.out]
  refine HAW.out.mono ?_
  rintro e w1 ⟨rfl, hb1⟩
  have HB1 : Hid (Below W0.heap.size W0 w1) := hb1
  obtain ⟨⟨c0, c1, c2, c3⟩, hs1, _, _, _, _⟩ := HK.out w1 hb1
  clear hb1
  go_wp2_with fail
  refine (HMG.out _ HB1.out).mono ?_
  rintro e w2 ⟨K, lo, n, lc, v, zs, rfl, hA2, hz2, hT2, hc2, hb2⟩
  have HA2 : Hid (HasArcs w2 (.slice lo n lc) zs) := hA2
  have HZ : Hid (zs.length ≤ maxLen) := Nat.le_trans hz2 (by unfold maxLen; omega)
  have HT2 : Hid (IsTold w2 (C, ps) v) := hT2
  have HC2 : Hid (((C, ps) = (0, []) ∧ K = M ∧ zs = xs ++ ys) ∨ ((C, ps) ≠ (0, []) ∧ K = 0 ∧ zs = [])) := hc2
  have HB2 : Hid (Below W0.heap.size W0 w2) := HB1.out.trans (hb2.mono HB1.out.size)
  clear hA2 hz2 hT2 hc2 hb2 c0 c1 c2 c3 hs1
  obtain ⟨⟨c0, c1, c2, c3⟩, hs2, _, _, _, _⟩ := HK.out w2 HB2.out
  have hs20 : w.heap.size < w2.heap.size := by omega
  obtain ⟨V, hV⟩ : ∃ V, w2.alloc (.cells #[.int .i64 K, .slice lo n lc] 24) = V := ⟨_, rfl⟩
  have HV : Hid (w2.alloc (.cells #[.int .i64 K, .slice lo n lc] 24) = V) := hV
  have HBV : Hid (Below w2.heap.size w2 V) := by rw [← hV]; exact (Below.refl _ w2).alloc (Nat.le_refl _) _
  have HNV : Hid (V.heap[w2.heap.size]? = some (.cells #[.int .i64 K, .slice lo n lc] 24)) := by rw [← hV]; exact heap_new _ _
  have HBV0 : Hid (Below W0.heap.size W0 V) := HB2.out.trans (HBV.out.mono HB2.out.size)
  clear hV
  go_wp2_with fail
  rw [HV.out]
  refine (HDM.out _ HBV0.out).mono ?_
  rintro e w3 ⟨K', lo', n', lc', zs', po, pc, rfl, hA3, hP3, hc3, hb3⟩
  obtain ⟨rfl, rfl⟩ : K' = K ∧ zs' = zs := by
    rcases HC2.out with ⟨h1, h2, h3⟩ | ⟨h1, h2, h3⟩ <;> rcases hc3 with ⟨g1, g2, g3⟩ | ⟨g1, g2, g3⟩
    · exact ⟨g2.trans h2.symm, g3.trans h3.symm⟩
    · exact absurd h1 g1
    · exact absurd g1 h1
    · exact ⟨g2.trans h2.symm, g3.trans h3.symm⟩
  have HBV3 : Hid (Below V.heap.size V w3) := hb3
  have HB3 : Hid (Below W0.heap.size W0 w3) := HBV0.out.trans (hb3.mono HBV0.out.size)
  have HB23 : Hid (Below w2.heap.size w2 w3) := HBV.out.trans (hb3.mono HBV.out.size)
  clear hc3 hb3 c0 c1 c2 c3 hs2 hs20
  obtain ⟨X, hX⟩ : ∃ X, (w3.alloc (.cells #[.int .i64 K', .slice lo' n' lc'] 24)).alloc (.cells #[.int .i64 C, .slice po ps.length pc] 33) = X := ⟨_, rfl⟩
  have HX : Hid ((w3.alloc (.cells #[.int .i64 K', .slice lo' n' lc'] 24)).alloc (.cells #[.int .i64 C, .slice po ps.length pc] 33) = X) := hX
  have hBX : Below w3.heap.size w3 X := by rw [← hX]; exact ((Below.refl _ w3).alloc (Nat.le_refl _) _).alloc (by simp) _
  have x0 : X.heap[w3.heap.size]? = some (.cells #[.int .i64 K', .slice lo' n' lc'] 24) := by rw [← hX, Below.heap_alloc _ _ _ (by simp)]; exact heap_new _ _
  have x1 : X.heap[w3.heap.size + 1]? = some (.cells #[.int .i64 C, .slice po ps.length pc] 33) := by
    have h := heap_new (w3.alloc (.cells #[.int .i64 K', .slice lo' n' lc'] 24)) (.cells #[.int .i64 C, .slice po ps.length pc] 33)
    rw [hX] at h
    simpa using h
  have xa : X.heap[w2.heap.size]? = some (.cells #[.int .i64 K', .slice lo n lc] 24) := (hBX.block _ (Nat.lt_of_lt_of_le (lt_of_get HNV.out) HBV3.out.size)).trans ((HBV3.out.block _ (lt_of_get HNV.out)).trans HNV.out)
  have HBX0 : Hid (Below W0.heap.size W0 X) := HB3.out.trans (hBX.mono HB3.out.size)
  have HR : Hid (∀ wx, Below X.heap.size X wx → wx.heap[w3.heap.size + 1]? = some (.cells #[.int .i64 C, .slice po ps.length pc] 33) ∧ Below W0.heap.size W0 wx ∧ w3.heap.size + 1 < wx.heap.size ∧ HasPlaces wx (.slice po ps.length pc) ps ∧ IsTold wx (C, ps) v) := fun wx h => by
    have hb := hBX.trans (h.mono hBX.size)
    have g := (h.block _ (lt_of_get x1)).trans x1
    exact ⟨g, HB3.out.trans (hb.mono HB3.out.size), lt_of_get g, hP3.keep hb, HT2.out.keep (Below.keeps (HB23.out.trans (hb.mono HB23.out.size)))⟩
  have HSG : Hid (Calls Tryd.prog 11 #[.agg #[.int .i64 K', .slice lo n lc], .agg #[.int .i64 K', .slice lo' n' lc']] X fun e w' => e = .returned (.bool true) ∧ Below X.heap.size X w') := same_yes K' lo lo' n n' lc lc' zs' X (HA2.out.keep (HB23.out.trans (hBX.mono HB23.out.size))) (hA3.keep hBX) HZ.out
  obtain ⟨a0, a1, _, _⟩ := cell_two xa
  obtain ⟨b0, b1, _, _⟩ := cell_two x0
  have h2l : w2.heap.size < X.heap.size := lt_of_get xa
  have h3l : w3.heap.size < X.heap.size := lt_of_get x0
  clear hBX x0 x1 xa hX hA3 hP3
  go_upto_region 5 with fail
  rw [HX.out]
  go_wp2_with fail
  refine HSG.out.mono ?_
  rintro e w4 ⟨rfl, hb4⟩
  have HB4 : Hid (Below X.heap.size X w4) := hb4
  obtain ⟨g4, h4, hs4, hP4, hT4⟩ := HR.out w4 hb4
  have HS4 : Hid (Calls Tryd.prog 12 #[v, .agg #[.int .i64 C, .slice po ps.length pc]] w4 fun r w' => r = .returned (.bool true) ∧ Below w4.heap.size w4 w') := HSN.out w4 v po pc hT4 hP4 (HK.out w4 h4).2.2.2.2.2
  obtain ⟨d0, d1, _, _⟩ := cell_two g4
  clear hb4 g4 h4 hP4 hT4 a0 a1 b0 b1 h2l h3l
  go_wp2_with fail
  refine HS4.out.mono ?_
  rintro e w5 ⟨rfl, hb5⟩
  have HB5 : Hid (Below w.heap.size w w5) := (HK.out w5 (HR.out w5 (HB4.out.trans (hb5.mono HB4.out.size))).2.1).2.2.1
  clear hb5
  go_wp2
  go_ret
  exact ⟨rfl, HB5.out⟩
end Go.Proofs.YtapgecmakddegaaDoor
