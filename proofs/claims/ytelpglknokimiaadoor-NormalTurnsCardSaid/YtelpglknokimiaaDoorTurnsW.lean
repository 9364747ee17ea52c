/- The law NormalTurns, walked: at every graph it answers true, and nothing old turns. -/
import Derived.Test.YtelpglknokimiaaDoorDocDeg
import Derived.Test.YtelpglknokimiaaDoorAwake
namespace Go.Proofs.YtelpglknokimiaaDoor
open Go.RowKit Go.Extern Go.Sort Go.Shelf

attribute [local go_sem] Oper.semAt_some

theorem graphErr_short (N : Int) (xs : List (Int × Int × Int)) : (graphErr N xs).2.length ≤ maxLen := by
  unfold graphErr maxLen
  split
  · simp
  · split <;> simp

set_option maxRecDepth 100000 in
set_option maxHeartbeats 4000000 in
theorem turns_calls (N : Int) (ao : Option Addr) (cap : Nat) (xs : List (Int × Int × Int)) (w : World) (hl : HasArcs w (.slice ao xs.length cap) xs) (hm : xs.length ≤ maxLen) (hg : HasType w) :
    Calls Tryd.prog 4 #[.agg #[.int .i64 N, .slice ao xs.length cap]] w fun e w' => e = .returned (.bool true) ∧ Below w.heap.size w w' := by
  obtain ⟨W0, hW0⟩ : ∃ W0, w.alloc (.cells #[.int .i64 N, .slice ao xs.length cap] 24) = W0 := ⟨_, rfl⟩
  have hB0 : Below w.heap.size w W0 := by rw [← hW0]; exact (Below.refl _ w).alloc (Nat.le_refl _) _
  have k0 : W0.heap[w.heap.size]? = some (.cells #[.int .i64 N, .slice ao xs.length cap] 24) := by rw [← hW0]; exact heap_new _ _
  have HW0 : Hid (w.alloc (.cells #[.int .i64 N, .slice ao xs.length cap] 24) = W0) := hW0
  have HB0 : Hid (Below w.heap.size w W0) := hB0
  have HK : Hid (∀ wx, Below W0.heap.size W0 wx → wx.cell? ⟨w.heap.size, 0, none⟩ = some (.int .i64 N) ∧ wx.cell? ⟨w.heap.size, 1, none⟩ = some (.slice ao xs.length cap) ∧ w.heap.size < wx.heap.size ∧ Below w.heap.size w wx ∧ HasArcs wx (.slice ao xs.length cap) xs ∧ HasType wx) := fun wx h => by
    have g0 := (h.block _ (lt_of_get k0)).trans k0
    have hb := hB0.trans (h.mono hB0.size)
    exact ⟨(cell_two g0).1, (cell_two g0).2.1, lt_of_get g0, hb, hl.keep hb, hg.keep hb hg.pos⟩
  have HM : Hid (xs.length ≤ maxLen) := hm
  have HAW : Hid (Calls Tryd.prog 7 #[] W0 fun e w' => e = .returned (.bool true) ∧ Below W0.heap.size W0 w') := awake_calls W0
  obtain ⟨E, hE⟩ : ∃ E, graphErr N xs = E := ⟨_, rfl⟩
  have HRV : Hid (∀ wx, Below W0.heap.size W0 wx → Calls Tryd.prog 15 #[.agg #[.int .i64 N, .slice ao xs.length cap]] wx fun e w' => ∃ M lo n lc v ys, e = .returned (.tuple #[.agg #[.int .i64 M, .slice lo n lc], v]) ∧ HasArcs w' (.slice lo n lc) ys ∧ ys.length ≤ xs.length ∧ IsTold w' E v ∧ ((E = (0, []) ∧ M = N ∧ ys = xs.map turn) ∨ (E ≠ (0, []) ∧ M = 0 ∧ ys = [])) ∧ Below wx.heap.size wx w') := fun wx h => by
    have := reverse_calls N ao cap xs wx (HK.out wx h).2.2.2.2.1 HM.out
    rw [hE] at this
    exact this
  have HDR : Hid (∀ wx, Below W0.heap.size W0 wx → Calls Tryd.prog 16 #[.agg #[.int .i64 N, .slice ao xs.length cap]] wx fun e w' => ∃ M lo n lc ys po pc, e = .returned (.tuple #[.agg #[.int .i64 M, .slice lo n lc], .agg #[.int .i64 E.1, .slice po E.2.length pc]]) ∧ HasArcs w' (.slice lo n lc) ys ∧ HasPlaces w' (.slice po E.2.length pc) E.2 ∧ ((E = (0, []) ∧ M = N ∧ ys = xs.map turn) ∨ (E ≠ (0, []) ∧ M = 0 ∧ ys = [])) ∧ Below wx.heap.size wx w') := fun wx h => by
    have := docReverse_calls N ao cap xs wx (HK.out wx h).2.2.2.2.1 HM.out
    rw [hE] at this
    exact this
  have HDG : Hid (∀ wx, Below W0.heap.size W0 wx → Calls Tryd.prog 17 #[.agg #[.int .i64 N, .slice ao xs.length cap]] wx fun e w' => ∃ v fv tv fl tl, e = .returned (.tuple #[fv, tv, v]) ∧ HasInts w' fv fl ∧ HasInts w' tv tl ∧ (NewV wx fv ∧ NewV wx tv) ∧ IsTold w' E v ∧ ((E = (0, []) ∧ fl = outL N.toNat xs ∧ tl = inL N.toNat xs) ∨ (E ≠ (0, []) ∧ fl = [] ∧ tl = [])) ∧ Below wx.heap.size wx w') := fun wx h => by
    have := degrees_calls N ao cap xs wx (HK.out wx h).2.2.2.2.1 HM.out
    rw [hE] at this
    exact this
  have HDD : Hid (∀ wx, Below W0.heap.size W0 wx → Calls Tryd.prog 18 #[.agg #[.int .i64 N, .slice ao xs.length cap]] wx fun e w' => ∃ fv tv fl tl po pc, e = .returned (.tuple #[fv, tv, .agg #[.int .i64 E.1, .slice po E.2.length pc]]) ∧ HasInts w' fv fl ∧ HasInts w' tv tl ∧ (NewV wx fv ∧ NewV wx tv) ∧ HasPlaces w' (.slice po E.2.length pc) E.2 ∧ ((E = (0, []) ∧ fl = outL N.toNat xs ∧ tl = inL N.toNat xs) ∨ (E ≠ (0, []) ∧ fl = [] ∧ tl = [])) ∧ Below wx.heap.size wx w') := fun wx h => by
    have := docDegrees_calls N ao cap xs wx (HK.out wx h).2.2.2.2.1 HM.out
    rw [hE] at this
    exact this
  have HES : Hid (E.2.length ≤ maxLen) := by rw [← hE]; exact graphErr_short N xs
  have HSN : Hid (∀ wx v po pc, IsTold wx E v → HasPlaces wx (.slice po E.2.length pc) E.2 → HasType wx → Calls Tryd.prog 12 #[v, .agg #[.int .i64 E.1, .slice po E.2.length pc]] wx fun r w' => r = .returned (.bool true) ∧ Below wx.heap.size wx w') := fun wx v po pc h1 h2 h3 => seen_told E v po pc wx h1 h2 HES.out h3
  have HGT : Hid (HasType w) := hg
  have HGL : Hid (E = (0, []) → N.toNat ≤ 65536) := fun h => by
    rw [← hE] at h
    have := graph_good h
    omega
  clear hl k0 hB0 hW0 hE hm hg
  obtain ⟨C, ps⟩ := E
  simp only at HRV HDR HDG HDD HES HSN HGL
  go_enter Tryd.func4, Tryd.ntmps4
  go_wp2_with fail
  rw [HW0.out]
  refine HAW.out.mono ?_
  rintro e w1 ⟨rfl, hb1⟩
  have HB1 : Hid (Below W0.heap.size W0 w1) := hb1
  obtain ⟨c0, c1, hs1, _, _, _⟩ := HK.out w1 hb1
  clear hb1
  go_wp2_with fail
  refine (HRV.out _ HB1.out).mono ?_
  rintro e w2 ⟨M, lo, n, lc, v, ys, rfl, hA2, hy2, hT2, hc2, hb2⟩
  have HA2 : Hid (HasArcs w2 (.slice lo n lc) ys) := hA2
  have HY : Hid (ys.length ≤ xs.length) := hy2
  have HT2 : Hid (IsTold w2 (C, ps) v) := hT2
  have HC2 : Hid (((C, ps) = (0, []) ∧ M = N ∧ ys = xs.map turn) ∨ ((C, ps) ≠ (0, []) ∧ M = 0 ∧ ys = [])) := hc2
  have HB2 : Hid (Below W0.heap.size W0 w2) := HB1.out.trans (hb2.mono HB1.out.size)
  clear hA2 hy2 hT2 hc2 hb2 c0 c1 hs1
  obtain ⟨c0, c1, hs2, _, _, _⟩ := HK.out w2 HB2.out
  obtain ⟨V, hV⟩ : ∃ V, w2.alloc (.cells #[.int .i64 M, .slice lo n lc] 24) = V := ⟨_, rfl⟩
  have HV : Hid (w2.alloc (.cells #[.int .i64 M, .slice lo n lc] 24) = V) := hV
  have HBV : Hid (Below w2.heap.size w2 V) := by rw [← hV]; exact (Below.refl _ w2).alloc (Nat.le_refl _) _
  have HNV : Hid (V.heap[w2.heap.size]? = some (.cells #[.int .i64 M, .slice lo n lc] 24)) := by rw [← hV]; exact heap_new _ _
  have HBV0 : Hid (Below W0.heap.size W0 V) := HB2.out.trans (HBV.out.mono HB2.out.size)
  clear hV
  go_wp2_with fail
  rw [HV.out]
  refine (HDR.out _ HBV0.out).mono ?_
  rintro e w3 ⟨M', lo', n', lc', ys', po, pc, rfl, hA3, hP3, hc3, hb3⟩
  obtain ⟨rfl, rfl⟩ : M' = M ∧ ys' = ys := by
    rcases HC2.out with ⟨h1, h2, h3⟩ | ⟨h1, h2, h3⟩ <;> rcases hc3 with ⟨g1, g2, g3⟩ | ⟨g1, g2, g3⟩
    · exact ⟨g2.trans h2.symm, g3.trans h3.symm⟩
    · exact absurd h1 g1
    · exact absurd g1 h1
    · exact ⟨g2.trans h2.symm, g3.trans h3.symm⟩
  have HBV3 : Hid (Below V.heap.size V w3) := hb3
  have HB3 : Hid (Below W0.heap.size W0 w3) := HBV0.out.trans (hb3.mono HBV0.out.size)
  have HB23 : Hid (Below w2.heap.size w2 w3) := HBV.out.trans (hb3.mono HBV.out.size)
  clear hc3 hb3 c0 c1 hs2
  obtain ⟨X, hX⟩ : ∃ X, (w3.alloc (.cells #[.int .i64 M', .slice lo' n' lc'] 24)).alloc (.cells #[.int .i64 C, .slice po ps.length pc] 33) = X := ⟨_, rfl⟩
  have HX : Hid ((w3.alloc (.cells #[.int .i64 M', .slice lo' n' lc'] 24)).alloc (.cells #[.int .i64 C, .slice po ps.length pc] 33) = X) := hX
  have hBX : Below w3.heap.size w3 X := by rw [← hX]; exact ((Below.refl _ w3).alloc (Nat.le_refl _) _).alloc (by simp) _
  have x0 : X.heap[w3.heap.size]? = some (.cells #[.int .i64 M', .slice lo' n' lc'] 24) := by rw [← hX, Below.heap_alloc _ _ _ (by simp)]; exact heap_new _ _
  have x1 : X.heap[w3.heap.size + 1]? = some (.cells #[.int .i64 C, .slice po ps.length pc] 33) := by
    have h := heap_new (w3.alloc (.cells #[.int .i64 M', .slice lo' n' lc'] 24)) (.cells #[.int .i64 C, .slice po ps.length pc] 33)
    rw [hX] at h
    simpa using h
  have xa : X.heap[w2.heap.size]? = some (.cells #[.int .i64 M', .slice lo n lc] 24) := (hBX.block _ (Nat.lt_of_lt_of_le (lt_of_get HNV.out) HBV3.out.size)).trans ((HBV3.out.block _ (lt_of_get HNV.out)).trans HNV.out)
  have HBX : Hid (Below w3.heap.size w3 X) := hBX
  have HBX0 : Hid (Below W0.heap.size W0 X) := HB3.out.trans (hBX.mono HB3.out.size)
  have HR : Hid (∀ wx, Below X.heap.size X wx → wx.heap[w3.heap.size + 1]? = some (.cells #[.int .i64 C, .slice po ps.length pc] 33) ∧ Below W0.heap.size W0 wx ∧ w3.heap.size + 1 < wx.heap.size ∧ HasPlaces wx (.slice po ps.length pc) ps ∧ IsTold wx (C, ps) v) := fun wx h => by
    have hb := hBX.trans (h.mono hBX.size)
    have g := (h.block _ (lt_of_get x1)).trans x1
    exact ⟨g, HB3.out.trans (hb.mono HB3.out.size), lt_of_get g, hP3.keep hb, HT2.out.keep (Below.keeps (HB23.out.trans (hb.mono HB23.out.size)))⟩
  have HSG : Hid (Calls Tryd.prog 11 #[.agg #[.int .i64 M', .slice lo n lc], .agg #[.int .i64 M', .slice lo' n' lc']] X fun e w' => e = .returned (.bool true) ∧ Below X.heap.size X w') := same_yes M' lo lo' n n' lc lc' ys' X (HA2.out.keep (HB23.out.trans (hBX.mono HB23.out.size))) (hA3.keep hBX) (Nat.le_trans HY.out HM.out)
  obtain ⟨a0, a1, _, _⟩ := cell_two xa
  obtain ⟨b0, b1, _, _⟩ := cell_two x0
  have h2l : w2.heap.size < X.heap.size := lt_of_get xa
  have h3l : w3.heap.size < X.heap.size := lt_of_get x0
  clear hBX x0 x1 xa hX hA3 hP3
  go_upto_region 5 with fail
  rw [HX.out]
  go_wp2_with fail
  refine HSG.out.mono ?_
  rintro e w4 ⟨rfl, hb4⟩
  have HB4 : Hid (Below X.heap.size X w4) := hb4
  obtain ⟨g4, h4, hs4, hP4, hT4⟩ := HR.out w4 hb4
  have HS4 : Hid (Calls Tryd.prog 12 #[v, .agg #[.int .i64 C, .slice po ps.length pc]] w4 fun r w' => r = .returned (.bool true) ∧ Below w4.heap.size w4 w') := HSN.out w4 v po pc hT4 hP4 (HK.out w4 h4).2.2.2.2.2
  obtain ⟨d0, d1, _, _⟩ := cell_two g4
  clear hb4 g4 h4 hP4 hT4 a0 a1 b0 b1 h2l h3l
  go_wp2_with fail
  refine HS4.out.mono ?_
  rintro e w5 ⟨rfl, hb5⟩
  have HB5 : Hid (Below X.heap.size X w5) := HB4.out.trans (hb5.mono HB4.out.size)
  obtain ⟨g5, h5, hs5, _, _⟩ := HR.out w5 HB5.out
  have H5 : Hid (Below W0.heap.size W0 w5 ∧ w3.heap.size + 1 < w5.heap.size) := ⟨h5, hs5⟩
  obtain ⟨c0, c1, hw5, _, _, _⟩ := HK.out w5 h5
  clear hb5 g5 h5 hs4 d0 d1 hs5
  go_wp2_with fail
  refine (HDG.out _ H5.out.1).mono ?_
  rintro e w6 ⟨v', fv, tv, fl, tl, rfl, hF6, hT6, hn6, ht6, hc6, hb6⟩
  have HB6 : Hid (Below X.heap.size X w6) := HB5.out.trans (hb6.mono HB5.out.size)
  obtain ⟨g6, h6, hs6, _, _⟩ := HR.out w6 HB6.out
  have H6 : Hid (HasInts w6 fv fl ∧ HasInts w6 tv tl ∧ (NewV w5 fv ∧ NewV w5 tv) ∧ IsTold w6 (C, ps) v' ∧ (((C, ps) = (0, []) ∧ fl = outL N.toNat xs ∧ tl = inL N.toNat xs) ∨ ((C, ps) ≠ (0, []) ∧ fl = [] ∧ tl = [])) ∧ Below W0.heap.size W0 w6 ∧ w3.heap.size + 1 < w6.heap.size) := ⟨hF6, hT6, hn6, ht6, hc6, h6, hs6⟩
  clear hF6 hT6 hn6 ht6 hc6 hb6 g6 h6 hs6 c0 c1 hw5
  obtain ⟨c0, c1, hw6, _, _, _⟩ := HK.out w6 H6.out.2.2.2.2.2.1
  go_wp2_with fail
  refine (HDD.out _ H6.out.2.2.2.2.2.1).mono ?_
  rintro e w7 ⟨fv', tv', fl', tl', po', pc', rfl, hF7, hT7, hn7, hp7, hc7, hb7⟩
  obtain ⟨rfl, rfl⟩ : fl' = fl ∧ tl' = tl := by
    rcases H6.out.2.2.2.2.1 with ⟨h1, h2, h3⟩ | ⟨h1, h2, h3⟩ <;> rcases hc7 with ⟨g1, g2, g3⟩ | ⟨g1, g2, g3⟩
    · exact ⟨g2.trans h2.symm, g3.trans h3.symm⟩
    · exact absurd h1 g1
    · exact absurd g1 h1
    · exact ⟨g2.trans h2.symm, g3.trans h3.symm⟩
  have HB7 : Hid (Below X.heap.size X w7) := HB6.out.trans (hb7.mono HB6.out.size)
  obtain ⟨g7, h7, hs7, _, _⟩ := HR.out w7 HB7.out
  obtain ⟨d0, d1, y0, y1⟩ := cell_two g7
  have hR5 := H5.out.2
  have hR6 := H6.out.2.2.2.2.2.2
  obtain ⟨Y, hY⟩ : ∃ Y, (w7.setCell ⟨w3.heap.size + 1, 0, none⟩ (.int .i64 C)).setCell ⟨w3.heap.size + 1, 1, none⟩ (.slice po' ps.length pc') = Y := ⟨_, rfl⟩
  have hYb : Below w.heap.size w Y := by
    rw [← hY]
    exact (((HK.out w7 h7).2.2.2.1.setCell (p := ⟨w3.heap.size + 1, 0, none⟩) (by have := (HK.out w3 HB3.out).2.2.1; show w.heap.size ≤ w3.heap.size + 1; omega) _).setCell (p := ⟨w3.heap.size + 1, 1, none⟩) (by have := (HK.out w3 HB3.out).2.2.1; show w.heap.size ≤ w3.heap.size + 1; omega) _)
  have i0 : HasInts Y fv fl' := by rw [← hY]; exact (H6.out.1.keep hb7).lay (fun b off c m e => by have := H6.out.2.2.1.1 b off m c e; omega) _ _
  have i1 : HasInts Y tv tl' := by rw [← hY]; exact (H6.out.2.1.keep hb7).lay (fun b off c m e => by have := H6.out.2.2.1.2 b off m c e; omega) _ _
  have j0 : HasInts Y fv' fl' := by rw [← hY]; exact hF7.lay (fun b off c m e => by have := hn7.1 b off m c e; omega) _ _
  have j1 : HasInts Y tv' tl' := by rw [← hY]; exact hT7.lay (fun b off c m e => by have := hn7.2 b off m c e; omega) _ _
  have p0 : HasPlaces Y (.slice po' ps.length pc') ps := by rw [← hY]; exact hp7.lay2 g7 _ _
  have t0 : IsTold Y (C, ps) v' := by rw [← hY]; exact (H6.out.2.2.2.1.keep (Below.keeps hb7)).keep (keeps_two g7 (by decide) _ _)
  have HY7 : Hid ((w7.setCell ⟨w3.heap.size + 1, 0, none⟩ (.int .i64 C)).setCell ⟨w3.heap.size + 1, 1, none⟩ (.slice po' ps.length pc') = Y) := hY
  have r0 : Y.cell? ⟨w3.heap.size + 1, 0, none⟩ = some (.int .i64 C) ∧ Y.cell? ⟨w3.heap.size + 1, 1, none⟩ = some (.slice po' ps.length pc') := by
    have n1 : (⟨w3.heap.size + 1, 1, none⟩ : Addr) ≠ ⟨w3.heap.size + 1, 0, none⟩ := fun e => by cases congrArg Addr.off e
    have n2 : (⟨w3.heap.size + 1, 0, none⟩ : Addr) ≠ ⟨w3.heap.size + 1, 1, none⟩ := fun e => by cases congrArg Addr.off e
    rw [← hY]
    exact ⟨by rw [World.cell?_setCell_other _ _ _ _ n1, World.cell?_setCell_same _ _ _ d0], World.cell?_setCell_same _ _ _ ((World.cell?_setCell_other _ _ _ _ n2).trans d1)⟩
  have hYs : w3.heap.size + 1 < Y.heap.size := by rw [← hY]; simp; exact hs7
  have HYY : Hid (∀ wx, Below Y.heap.size Y wx → Below w.heap.size w wx ∧ HasInts wx fv fl' ∧ HasInts wx tv tl' ∧ HasInts wx fv' fl' ∧ HasInts wx tv' tl' ∧ HasPlaces wx (.slice po' ps.length pc') ps ∧ IsTold wx (C, ps) v' ∧ HasType wx ∧ wx.cell? ⟨w3.heap.size + 1, 0, none⟩ = some (.int .i64 C) ∧ wx.cell? ⟨w3.heap.size + 1, 1, none⟩ = some (.slice po' ps.length pc') ∧ w3.heap.size + 1 < wx.heap.size) := fun wx h => ⟨hYb.trans (h.mono hYb.size), i0.keep h, i1.keep h, j0.keep h, j1.keep h, p0.keep h, t0.keep (Below.keeps h), HGT.out.keep (hYb.trans (h.mono hYb.size)) HGT.out.pos, (h.cell (p := ⟨w3.heap.size + 1, 0, none⟩) hYs).trans r0.1, (h.cell (p := ⟨w3.heap.size + 1, 1, none⟩) hYs).trans r0.2, Nat.lt_of_lt_of_le hYs h.size⟩
  have HFL : Hid (fl'.length ≤ maxLen ∧ tl'.length ≤ maxLen) := by
    rcases H6.out.2.2.2.2.1 with ⟨h1, h2, h3⟩ | ⟨h1, h2, h3⟩
    · have := HGL.out h1
      have l1 : (outL N.toNat xs).length = N.toNat := by rw [outL, List.length_map, List.length_range]
      have l2 : (inL N.toNat xs).length = N.toNat := by rw [inL, List.length_map, List.length_range]
      rw [h2, h3, l1, l2]
      unfold maxLen
      exact ⟨by omega, by omega⟩
    · rw [h2, h3]; exact ⟨Nat.zero_le _, Nat.zero_le _⟩
  clear hF7 hT7 hn7 hp7 hc7 hb7 g7 h7 hR5 hR6 hY hYb i0 i1 j0 j1 p0 t0 r0 hYs c0 c1 hw6
  go_upto_region 9 with fail
  rw [HY7.out]
  clear d0 d1 y0 y1 hs7
  have HZ1 : Hid (Calls Tryd.prog 19 #[fv, fv'] Y fun e w' => e = .returned (.bool true) ∧ Below Y.heap.size Y w') := sameInts_yes _ _ fl' Y (HYY.out Y (Below.refl _ _)).2.1 (HYY.out Y (Below.refl _ _)).2.2.2.1 HFL.out.1
  go_wp2_with fail
  refine HZ1.out.mono ?_
  rintro e w8 ⟨rfl, hb8⟩
  have HB8 : Hid (Below Y.heap.size Y w8) := hb8
  have HZ2 : Hid (Calls Tryd.prog 19 #[tv, tv'] w8 fun e w' => e = .returned (.bool true) ∧ Below w8.heap.size w8 w') := sameInts_yes _ _ tl' w8 (HYY.out w8 hb8).2.2.1 (HYY.out w8 hb8).2.2.2.2.1 HFL.out.2
  clear hb8
  go_wp2_with fail
  refine HZ2.out.mono ?_
  rintro e w9 ⟨rfl, hb9⟩
  have HB9 : Hid (Below Y.heap.size Y w9) := HB8.out.trans (hb9.mono HB8.out.size)
  obtain ⟨_, _, _, _, _, hp9, ht9, hg9, d0, d1, hs9⟩ := HYY.out w9 HB9.out
  have HS9 : Hid (Calls Tryd.prog 12 #[v', .agg #[.int .i64 C, .slice po' ps.length pc']] w9 fun r w' => r = .returned (.bool true) ∧ Below w9.heap.size w9 w') := HSN.out w9 v' po' pc' ht9 hp9 hg9
  clear hb9 hp9 ht9 hg9
  go_wp2_with fail
  refine HS9.out.mono ?_
  rintro e w10 ⟨rfl, hb10⟩
  have HB10 : Hid (Below w.heap.size w w10) := (HYY.out w10 (HB9.out.trans (hb10.mono HB9.out.size))).1
  clear hb10
  go_wp2
  go_ret
  exact ⟨rfl, HB10.out⟩
end Go.Proofs.YtelpglknokimiaaDoor
