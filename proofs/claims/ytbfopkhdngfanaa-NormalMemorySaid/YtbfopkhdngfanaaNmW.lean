/- The law NormalMemory, walked: at every graph it answers true, and nothing old turns. -/
import Derived.Test.YtbfopkhdngfanaaNmS
import Derived.Deep.RegionHeld3
import Derived.Deep.CutBlock
namespace Go.Proofs.Ytbfopkhdngfanaa
open Go.RowKit Go.Extern

attribute [local go_sem] Oper.semAt_some

theorem great_calls (N : Int) (ao : Option Addr) (n cap : Nat) (w : World) : Calls Try.prog 5 #[.agg #[.int .i64 N, .slice ao n cap]] w fun e w' => e = .returned (.bool (decide (3000 < n ∧ n ≤ 262144))) ∧ Below w.heap.size w w' := by
  have HB : Hid (∀ u, Below w.heap.size w (w.alloc u)) := fun u => (Below.refl _ w).alloc (Nat.le_refl _) _
  by_cases h1 : (3000 : Int) < n
  · by_cases h2 : (n : Int) ≤ 262144
    · rw [decide_eq_true ⟨by omega, by omega⟩]
      go_enter Try.func5, Try.ntmps5
      go_wp2
      go_ret
      exact ⟨rfl, HB.out _⟩
    · rw [decide_eq_false (by omega)]
      go_enter Try.func5, Try.ntmps5
      go_wp2
      go_ret
      exact ⟨rfl, HB.out _⟩
  · rw [decide_eq_false (by omega)]
    go_enter Try.func5, Try.ntmps5
    go_wp2
    go_ret
    exact ⟨rfl, HB.out _⟩

set_option maxRecDepth 100000 in
set_option maxHeartbeats 4000000 in
theorem memory_calls (N : Int) (ao : Option Addr) (cap : Nat) (xs : List (Int × Int × Int)) (w : World) (hl : HasArcs w (.slice ao xs.length cap) xs) (hno : ao = none → cap = 0) (hm : xs.length * 24 ≤ 140737488351232) : Calls Try.prog 3 #[.agg #[.int .i64 N, .slice ao xs.length cap]] w fun e w' => e = .returned (.bool true) ∧ Below w.heap.size w w' := by
  have hmL : xs.length ≤ maxLen := by unfold maxLen; omega
  obtain ⟨K0, Y0, hY0, hOF, hDO⟩ := of_ans N xs hmL
  obtain ⟨K1, Y1, hY1, hRV, hDR⟩ := rev_ans N xs hmL
  obtain ⟨K2, Y2, hY2, hME, hDM⟩ := merge_ans N xs hmL
  have HOF : Hid (type_of% hOF) := hOF
  have HDO : Hid (type_of% hDO) := hDO
  have HRV : Hid (type_of% hRV) := hRV
  have HDR : Hid (type_of% hDR) := hDR
  have HME : Hid (type_of% hME) := hME
  have HDM : Hid (type_of% hDM) := hDM
  have HIS : Hid (type_of% (is_any N xs hmL)) := is_any N xs hmL
  have HDG : Hid (type_of% (deg_any N xs hmL)) := deg_any N xs hmL
  have HL : Hid (HasArcs w (.slice ao xs.length cap) xs) := hl
  have HNO : Hid (ao = none → cap = 0) := hno
  obtain ⟨i0, hi, hz0, hz1, hz2⟩ := infoG
  obtain ⟨ia, hia, ha0, ha1, ha2⟩ := infoA
  clear hOF hDO hRV hDR hME hDM hl hno hmL
  go_enter Try.func3, Try.ntmps3
  go_wp2_with fail
  have HN0 : Hid ((w.alloc (.cells #[.int .i64 N, .slice ao xs.length cap] 24)).heap[w.heap.size]? = some (.cells #[.int .i64 N, .slice ao xs.length cap] 24)) := heap_new _ _
  have HB0 : Hid (Below w.heap.size w (w.alloc (.cells #[.int .i64 N, .slice ao xs.length cap] 24))) := below_new3 w _
  generalize w.alloc (.cells #[.int .i64 N, .slice ao xs.length cap] 24) = W0 at *
  have HK : Hid (∀ wx, Below W0.heap.size W0 wx → wx.heap[w.heap.size]? = some (.cells #[.int .i64 N, .slice ao xs.length cap] 24) ∧ wx.cell? ⟨w.heap.size, 0, none⟩ = some (.int .i64 N) ∧ wx.cell? ⟨w.heap.size, 1, none⟩ = some (.slice ao xs.length cap) ∧ w.heap.size < wx.heap.size ∧ HasArcs wx (.slice ao xs.length cap) xs ∧ Below w.heap.size w wx) := fun wx h => by
    have g := (h.block _ (lt_of_get HN0.out)).trans HN0.out
    have hb := HB0.out.trans (h.mono HB0.out.size)
    exact ⟨g, (cell_two g).1, (cell_two g).2.1, lt_of_get g, HL.out.keep hb, hb⟩
  clear HN0 HB0
  refine (awake_calls W0).mono ?_
  rintro e w1 ⟨rfl, h⟩
  have R1 : Hid (Below W0.heap.size W0 w1) := h
  obtain ⟨_, g0, g1, gs, _, _⟩ := HK.out w1 h
  clear h
  go_wp2_with fail
  refine (great_calls N ao xs.length cap w1).mono ?_
  rintro e w2 ⟨rfl, h⟩
  have R2 : Hid (Below W0.heap.size W0 w2) := R1.out.trans (h.mono R1.out.size)
  clear h g0 g1 gs
  obtain ⟨_, g0, g1, gs, _, _⟩ := HK.out w2 R2.out
  generalize decide (3000 < xs.length ∧ xs.length ≤ 262144) = big
  cases big with
  | true =>
    have HBE : Hid (Below w.heap.size w w2) := (HK.out w2 R2.out).2.2.2.2.2
    go_wp2
    go_ret
    exact ⟨rfl, HBE.out⟩
  | false =>
    go_wp2_with fail
    refine (spare_calls N ao cap xs w2 (HK.out w2 R2.out).2.2.2.2.1 HNO.out hm).mono ?_
    rintro e w3 ⟨so, sc, rfl, ho, h⟩
    obtain ⟨g, rfl, hsc, hgB, hgl⟩ : ∃ g, so = some ⟨g, 0, none⟩ ∧ xs.length + 2 ≤ sc ∧ w2.heap.size ≤ g ∧ g < w3.heap.size := by
      rcases ho.2 with ⟨e, h0⟩ | ⟨g, c, cur, e, hb, hh, hle, _⟩
      · omega
      · injection e with e1 _ e3
        subst e3
        exact ⟨g, e1, hle, hb, lt_of_get hh⟩
    have R3 : Hid (Below W0.heap.size W0 w3) := R2.out.trans (h.mono R2.out.size)
    have A3 : Hid (w3.ownsRow w2.heap.size 42 3 (.slice (some ⟨g, 0, none⟩) (xs.length + 2) sc) (xs.length + 2) (flatC (xs ++ marks))) := ho
    have HGB : Hid (W0.heap.size ≤ g) := Nat.le_trans R2.out.size hgB
    clear h ho g0 g1 gs
    go_upto_region 6 with fail
    have hB := below_new3 w3 (.cells #[.int .i64 N, .slice (some ⟨g, 0, none⟩) xs.length sc] 24)
    have hN := heap_new w3 (.cells #[.int .i64 N, .slice (some ⟨g, 0, none⟩) xs.length sc] 24)
    generalize w3.alloc (.cells #[.int .i64 N, .slice (some ⟨g, 0, none⟩) xs.length sc] 24) = W3 at *
    have HX : Hid (∀ wx, Below W3.heap.size W3 wx → wx.cell? ⟨w3.heap.size, 0, none⟩ = some (.int .i64 N) ∧ wx.cell? ⟨w3.heap.size, 1, none⟩ = some (.slice (some ⟨g, 0, none⟩) xs.length sc) ∧ w3.heap.size < wx.heap.size ∧ wx.ownsRow w2.heap.size 42 3 (.slice (some ⟨g, 0, none⟩) (xs.length + 2) sc) (xs.length + 2) (flatC (xs ++ marks)) ∧ HasArcs wx (.slice (some ⟨g, 0, none⟩) (xs.length + 2) sc) (xs ++ marks) ∧ HasArcs wx (.slice (some ⟨g, 0, none⟩) xs.length sc) xs ∧ Below W0.heap.size W0 wx) := fun wx h => by
      have gg := (h.block _ (lt_of_get hN)).trans hN
      have hr := rowC_keepS A3.out (btrN hB h)
      have hA : HasArcs wx (.slice (some ⟨g, 0, none⟩) (xs.length + 2) sc) (xs ++ marks) := by
        have e2 : (xs ++ marks).length = xs.length + 2 := by rw [List.length_append]; rfl
        have hr2 := hr
        rw [← e2] at hr2 ⊢
        exact arcs_of_rowC hr2
      exact ⟨(cell_two gg).1, (cell_two gg).2.1, lt_of_get gg, hr, hA, arcs_front hA, btrN R3.out (btrN hB h)⟩
    have HG3 : Hid (g < W3.heap.size) := Nat.lt_of_lt_of_le hgl hB.size
    have HWL : Hid (w.heap.size ≤ W3.heap.size) := (HK.out W3 (HX.out W3 (Below.refl _ _)).2.2.2.2.2.2).2.2.2.2.2.size
    generalize w3.heap.size = xb at *
    clear hB hN A3 hgl hgB R1 R2 R3
    have C0 : Hid (Below W3.heap.size W3 W3 ∧ Coll W3.heap.size W3 [] 0 ∧ W3.ownsRow W3.heap.size 24 2 (.slice none 0 0) 0 (gcells [])) := ⟨Below.refl _ _, Coll.nil _ _, World.ownsRow_nil _ _ _ _⟩
    go_wp2_with fail
    refine wp_loop_rounds 3 ?_
    rw [rounds_succ]
    obtain ⟨x0, x1, xl, _, _, _, _⟩ := HX.out W3 C0.out.1
    go_wp2_with fail
    clear x0 x1 xl
    refine (HOF.out W3 _ sc (HX.out W3 C0.out.1).2.2.2.2.2.1).mono ?_
    rintro e w10 ⟨l10, c10, v10, rfl, oa, h⟩
    have S10 : Hid (Below W3.heap.size W3 w10 ∧ Coll W3.heap.size w10 [⟨K0, l10, c10, Y0⟩] 0 ∧ w10.ownsRow W3.heap.size 24 2 (.slice none 0 0) 0 (gcells [])) := ⟨btrN C0.out.1 h, C0.out.2.1.add h oa C0.out.1.size, rowG_keep C0.out.2.2 h⟩
    clear oa h
    obtain ⟨x0, x1, xl, _, _, _, _⟩ := HX.out w10 S10.out.1
    go_wp2_with fail
    have hB := below_new3 w10 (.cells #[.int .i64 K0, .slice l10 Y0.length c10] 24)
    have hN := heap_new w10 (.cells #[.int .i64 K0, .slice l10 Y0.length c10] 24)
    generalize w10.alloc (.cells #[.int .i64 K0, .slice l10 Y0.length c10] 24) = V10 at *
    have H10 : Hid (Below W3.heap.size W3 V10 ∧ Coll W3.heap.size V10 [⟨K0, l10, c10, Y0⟩] 0 ∧ V10.ownsRow W3.heap.size 24 2 (.slice none 0 0) 0 (gcells []) ∧ V10.heap[w10.heap.size]? = some (.cells #[.int .i64 K0, .slice l10 Y0.length c10] 24)) := ⟨btrN S10.out.1 hB, S10.out.2.1.keep hB, rowG_keep S10.out.2.2 hB, hN⟩
    generalize w10.heap.size = b10 at *
    clear hB hN S10 x0 x1 xl
    refine (HRV.out V10 _ sc (HX.out V10 H10.out.1).2.2.2.2.2.1).mono ?_
    rintro e w11 ⟨l11, c11, v11, rfl, oa, h⟩
    have S11 : Hid (Below W3.heap.size W3 w11 ∧ Coll W3.heap.size w11 [⟨K0, l10, c10, Y0⟩, ⟨K1, l11, c11, Y1⟩] 0 ∧ w11.ownsRow W3.heap.size 24 2 (.slice none 0 0) 0 (gcells []) ∧ w11.heap[b10]? = some (.cells #[.int .i64 K0, .slice l10 Y0.length c10] 24)) := ⟨btrN H10.out.1 h, H10.out.2.1.add h oa H10.out.1.size, rowG_keep H10.out.2.2.1 h, (h.block _ (lt_of_get H10.out.2.2.2)).trans H10.out.2.2.2⟩
    clear oa h
    obtain ⟨x0, x1, xl, _, _, _, _⟩ := HX.out w11 S11.out.1
    go_wp2_with fail
    have hB := below_new3 w11 (.cells #[.int .i64 K1, .slice l11 Y1.length c11] 24)
    have hN := heap_new w11 (.cells #[.int .i64 K1, .slice l11 Y1.length c11] 24)
    generalize w11.alloc (.cells #[.int .i64 K1, .slice l11 Y1.length c11] 24) = V11 at *
    have H11 : Hid (Below W3.heap.size W3 V11 ∧ Coll W3.heap.size V11 [⟨K0, l10, c10, Y0⟩, ⟨K1, l11, c11, Y1⟩] 0 ∧ V11.ownsRow W3.heap.size 24 2 (.slice none 0 0) 0 (gcells []) ∧ V11.heap[b10]? = some (.cells #[.int .i64 K0, .slice l10 Y0.length c10] 24) ∧ V11.heap[w11.heap.size]? = some (.cells #[.int .i64 K1, .slice l11 Y1.length c11] 24)) := ⟨btrN S11.out.1 hB, S11.out.2.1.keep hB, rowG_keep S11.out.2.2.1 hB, (hB.block _ (lt_of_get S11.out.2.2.2)).trans S11.out.2.2.2, hN⟩
    generalize w11.heap.size = b11 at *
    clear hB hN S11 x0 x1 xl
    refine (HME.out V11 _ sc (HX.out V11 H11.out.1).2.2.2.2.2.1 (fun e => by cases e)).mono ?_
    rintro e w12 ⟨l12, c12, v12, rfl, oa, h⟩
    have S12 : Hid (Below W3.heap.size W3 w12 ∧ Coll W3.heap.size w12 [⟨K0, l10, c10, Y0⟩, ⟨K1, l11, c11, Y1⟩, ⟨K2, l12, c12, Y2⟩] 0 ∧ w12.ownsRow W3.heap.size 24 2 (.slice none 0 0) 0 (gcells []) ∧ w12.heap[b10]? = some (.cells #[.int .i64 K0, .slice l10 Y0.length c10] 24) ∧ w12.heap[b11]? = some (.cells #[.int .i64 K1, .slice l11 Y1.length c11] 24)) := ⟨btrN H11.out.1 h, H11.out.2.1.add h oa H11.out.1.size, rowG_keep H11.out.2.2.1 h, (h.block _ (lt_of_get H11.out.2.2.2.1)).trans H11.out.2.2.2.1, (h.block _ (lt_of_get H11.out.2.2.2.2)).trans H11.out.2.2.2.2⟩
    clear oa h
    go_upto_region 12 with fail
    have hB := below_new3 w12 (.cells #[.int .i64 K2, .slice l12 Y2.length c12] 24)
    have hN := heap_new w12 (.cells #[.int .i64 K2, .slice l12 Y2.length c12] 24)
    generalize w12.alloc (.cells #[.int .i64 K2, .slice l12 Y2.length c12] 24) = V12 at *
    have H12 : Hid (Below W3.heap.size W3 V12 ∧ Coll W3.heap.size V12 [⟨K0, l10, c10, Y0⟩, ⟨K1, l11, c11, Y1⟩, ⟨K2, l12, c12, Y2⟩] 0 ∧ V12.ownsRow W3.heap.size 24 2 (.slice none 0 0) 0 (gcells []) ∧ V12.heap[b10]? = some (.cells #[.int .i64 K0, .slice l10 Y0.length c10] 24) ∧ V12.heap[b11]? = some (.cells #[.int .i64 K1, .slice l11 Y1.length c11] 24) ∧ V12.heap[w12.heap.size]? = some (.cells #[.int .i64 K2, .slice l12 Y2.length c12] 24)) := ⟨btrN S12.out.1 hB, S12.out.2.1.keep hB, rowG_keep S12.out.2.2.1 hB, (hB.block _ (lt_of_get S12.out.2.2.2.1)).trans S12.out.2.2.2.1, (hB.block _ (lt_of_get S12.out.2.2.2.2)).trans S12.out.2.2.2.2, hN⟩
    generalize w12.heap.size = b12 at *
    clear hB hN S12
    obtain ⟨a0, a1, al⟩ := box2N H12.out.2.2.2.1
    obtain ⟨e0, e1, el⟩ := box2N H12.out.2.2.2.2.1
    obtain ⟨f0, f1, fl⟩ := box2N H12.out.2.2.2.2.2
    have HBL : Hid (W3.heap.size ≤ (V12.alloc (.cells #[.int .i64 K0, .slice l10 Y0.length c10, .int .i64 K1, .slice l11 Y1.length c11, .int .i64 K2, .slice l12 Y2.length c12] 24)).heap.size) := Nat.le_trans H12.out.1.size (below_new3 _ _).size
    have HRW : Hid ((V12.alloc (.cells #[.int .i64 K0, .slice l10 Y0.length c10, .int .i64 K1, .slice l11 Y1.length c11, .int .i64 K2, .slice l12 Y2.length c12] 24)).ownsRow W3.heap.size 24 2 (.slice none 0 0) 0 (gcells [])) := rowG_keep H12.out.2.2.1 (below_new3 _ _)
    have HNW : Hid (∀ j u, (gcells [⟨K0, l10, c10, Y0⟩, ⟨K1, l11, c11, Y1⟩, ⟨K2, l12, c12, Y2⟩])[j]? = some u → (V12.alloc (.cells #[.int .i64 K0, .slice l10 Y0.length c10, .int .i64 K1, .slice l11 Y1.length c11, .int .i64 K2, .slice l12 Y2.length c12] 24)).cell? ((⟨V12.heap.size, 0, none⟩ : Addr).add j) = some u) := lit_cells _ _ _ rfl
    go_wp2_with (at_builtin; refine wpList_append_own _ rfl _ _ 29 rfl W3.heap.size 24 i0 (.agg #[.int .i64 0, .slice none 0 0]) 2 32 Try.underlying29 hi hz0 hz1 hz2 rfl (by decide) (.slice none 0 0) 0 (gcells []) rfl HRW.out ⟨V12.heap.size, 0, none⟩ 3 3 (gcells [⟨K0, l10, c10, Y0⟩, ⟨K1, l11, c11, Y1⟩, ⟨K2, l12, c12, Y2⟩]) rfl rfl HNW.out (gcells_one _) (by unfold maxLen; omega) (by omega) HBL.out ?_; intro v' wD1 hownD hgrowD _; obtain ⟨ao1, ac1, hv⟩ := rowG_slice hownD; subst hv; have HD1 : Hid (Below W3.heap.size W3 wD1 ∧ Coll W3.heap.size wD1 [⟨K0, l10, c10, Y0⟩, ⟨K1, l11, c11, Y1⟩, ⟨K2, l12, c12, Y2⟩] 0 ∧ wD1.ownsRow W3.heap.size 24 2 (.slice ao1 3 ac1) 3 (gcells [⟨K0, l10, c10, Y0⟩, ⟨K1, l11, c11, Y1⟩, ⟨K2, l12, c12, Y2⟩])) := ⟨belowG_grown (btrN H12.out.1 (below_new3 _ _)) HRW.out hgrowD HBL.out, (H12.out.2.1.keep (below_new3 _ _)).grow HRW.out (by decide) hgrowD, hownD⟩; clear hownD hgrowD; obtain ⟨x0, x1, xl, _, _, _, _⟩ := HX.out wD1 HD1.out.1)
    clear x0 x1 xl a0 a1 al e0 e1 el f0 f1 fl HRW HNW HBL H12
    refine (HIS.out wD1 _ sc (HX.out wD1 HD1.out.1).2.2.2.2.2.1).mono ?_
    rintro e w15 ⟨bq, vq, rfl, h⟩
    have E15 : Hid (Below W3.heap.size W3 w15 ∧ Coll W3.heap.size w15 [⟨K0, l10, c10, Y0⟩, ⟨K1, l11, c11, Y1⟩, ⟨K2, l12, c12, Y2⟩] 0 ∧ w15.ownsRow W3.heap.size 24 2 (.slice ao1 3 ac1) 3 (gcells [⟨K0, l10, c10, Y0⟩, ⟨K1, l11, c11, Y1⟩, ⟨K2, l12, c12, Y2⟩])) := ⟨btrN HD1.out.1 h, HD1.out.2.1.keep h, rowG_keep HD1.out.2.2 h⟩
    clear h HD1
    obtain ⟨x0, x1, xl, _, _, _, _⟩ := HX.out w15 E15.out.1
    go_wp2_with fail
    clear x0 x1 xl
    refine (HDG.out w15 _ sc (HX.out w15 E15.out.1).2.2.2.2.2.1).mono ?_
    rintro e w16 ⟨aq, bq, vq, rfl, h⟩
    have E16 : Hid (Below W3.heap.size W3 w16 ∧ Coll W3.heap.size w16 [⟨K0, l10, c10, Y0⟩, ⟨K1, l11, c11, Y1⟩, ⟨K2, l12, c12, Y2⟩] 0 ∧ w16.ownsRow W3.heap.size 24 2 (.slice ao1 3 ac1) 3 (gcells [⟨K0, l10, c10, Y0⟩, ⟨K1, l11, c11, Y1⟩, ⟨K2, l12, c12, Y2⟩])) := ⟨btrN E15.out.1 h, E15.out.2.1.keep h, rowG_keep E15.out.2.2 h⟩
    clear h E15
    go_wp2
    rw [rounds_succ]
    obtain ⟨x0, x1, xl, _, _, _, _⟩ := HX.out w16 E16.out.1
    go_wp2_with fail
    clear x0 x1 xl
    refine (HOF.out w16 _ sc (HX.out w16 E16.out.1).2.2.2.2.2.1).mono ?_
    rintro e w20 ⟨l20, c20, v20, rfl, oa, h⟩
    have S20 : Hid (Below W3.heap.size W3 w20 ∧ Coll W3.heap.size w20 [⟨K0, l10, c10, Y0⟩, ⟨K1, l11, c11, Y1⟩, ⟨K2, l12, c12, Y2⟩, ⟨K0, l20, c20, Y0⟩] 0 ∧ w20.ownsRow W3.heap.size 24 2 (.slice ao1 3 ac1) 3 (gcells [⟨K0, l10, c10, Y0⟩, ⟨K1, l11, c11, Y1⟩, ⟨K2, l12, c12, Y2⟩])) := ⟨btrN E16.out.1 h, E16.out.2.1.add h oa E16.out.1.size, rowG_keep E16.out.2.2 h⟩
    clear oa h
    obtain ⟨x0, x1, xl, _, _, _, _⟩ := HX.out w20 S20.out.1
    go_wp2_with fail
    have hB := below_new3 w20 (.cells #[.int .i64 K0, .slice l20 Y0.length c20] 24)
    have hN := heap_new w20 (.cells #[.int .i64 K0, .slice l20 Y0.length c20] 24)
    generalize w20.alloc (.cells #[.int .i64 K0, .slice l20 Y0.length c20] 24) = V20 at *
    have H20 : Hid (Below W3.heap.size W3 V20 ∧ Coll W3.heap.size V20 [⟨K0, l10, c10, Y0⟩, ⟨K1, l11, c11, Y1⟩, ⟨K2, l12, c12, Y2⟩, ⟨K0, l20, c20, Y0⟩] 0 ∧ V20.ownsRow W3.heap.size 24 2 (.slice ao1 3 ac1) 3 (gcells [⟨K0, l10, c10, Y0⟩, ⟨K1, l11, c11, Y1⟩, ⟨K2, l12, c12, Y2⟩]) ∧ V20.heap[w20.heap.size]? = some (.cells #[.int .i64 K0, .slice l20 Y0.length c20] 24)) := ⟨btrN S20.out.1 hB, S20.out.2.1.keep hB, rowG_keep S20.out.2.2 hB, hN⟩
    generalize w20.heap.size = b20 at *
    clear hB hN S20 x0 x1 xl
    refine (HRV.out V20 _ sc (HX.out V20 H20.out.1).2.2.2.2.2.1).mono ?_
    rintro e w21 ⟨l21, c21, v21, rfl, oa, h⟩
    have S21 : Hid (Below W3.heap.size W3 w21 ∧ Coll W3.heap.size w21 [⟨K0, l10, c10, Y0⟩, ⟨K1, l11, c11, Y1⟩, ⟨K2, l12, c12, Y2⟩, ⟨K0, l20, c20, Y0⟩, ⟨K1, l21, c21, Y1⟩] 0 ∧ w21.ownsRow W3.heap.size 24 2 (.slice ao1 3 ac1) 3 (gcells [⟨K0, l10, c10, Y0⟩, ⟨K1, l11, c11, Y1⟩, ⟨K2, l12, c12, Y2⟩]) ∧ w21.heap[b20]? = some (.cells #[.int .i64 K0, .slice l20 Y0.length c20] 24)) := ⟨btrN H20.out.1 h, H20.out.2.1.add h oa H20.out.1.size, rowG_keep H20.out.2.2.1 h, (h.block _ (lt_of_get H20.out.2.2.2)).trans H20.out.2.2.2⟩
    clear oa h
    obtain ⟨x0, x1, xl, _, _, _, _⟩ := HX.out w21 S21.out.1
    go_wp2_with fail
    have hB := below_new3 w21 (.cells #[.int .i64 K1, .slice l21 Y1.length c21] 24)
    have hN := heap_new w21 (.cells #[.int .i64 K1, .slice l21 Y1.length c21] 24)
    generalize w21.alloc (.cells #[.int .i64 K1, .slice l21 Y1.length c21] 24) = V21 at *
    have H21 : Hid (Below W3.heap.size W3 V21 ∧ Coll W3.heap.size V21 [⟨K0, l10, c10, Y0⟩, ⟨K1, l11, c11, Y1⟩, ⟨K2, l12, c12, Y2⟩, ⟨K0, l20, c20, Y0⟩, ⟨K1, l21, c21, Y1⟩] 0 ∧ V21.ownsRow W3.heap.size 24 2 (.slice ao1 3 ac1) 3 (gcells [⟨K0, l10, c10, Y0⟩, ⟨K1, l11, c11, Y1⟩, ⟨K2, l12, c12, Y2⟩]) ∧ V21.heap[b20]? = some (.cells #[.int .i64 K0, .slice l20 Y0.length c20] 24) ∧ V21.heap[w21.heap.size]? = some (.cells #[.int .i64 K1, .slice l21 Y1.length c21] 24)) := ⟨btrN S21.out.1 hB, S21.out.2.1.keep hB, rowG_keep S21.out.2.2.1 hB, (hB.block _ (lt_of_get S21.out.2.2.2)).trans S21.out.2.2.2, hN⟩
    generalize w21.heap.size = b21 at *
    clear hB hN S21 x0 x1 xl
    refine (HME.out V21 _ sc (HX.out V21 H21.out.1).2.2.2.2.2.1 (fun e => by cases e)).mono ?_
    rintro e w22 ⟨l22, c22, v22, rfl, oa, h⟩
    have S22 : Hid (Below W3.heap.size W3 w22 ∧ Coll W3.heap.size w22 [⟨K0, l10, c10, Y0⟩, ⟨K1, l11, c11, Y1⟩, ⟨K2, l12, c12, Y2⟩, ⟨K0, l20, c20, Y0⟩, ⟨K1, l21, c21, Y1⟩, ⟨K2, l22, c22, Y2⟩] 0 ∧ w22.ownsRow W3.heap.size 24 2 (.slice ao1 3 ac1) 3 (gcells [⟨K0, l10, c10, Y0⟩, ⟨K1, l11, c11, Y1⟩, ⟨K2, l12, c12, Y2⟩]) ∧ w22.heap[b20]? = some (.cells #[.int .i64 K0, .slice l20 Y0.length c20] 24) ∧ w22.heap[b21]? = some (.cells #[.int .i64 K1, .slice l21 Y1.length c21] 24)) := ⟨btrN H21.out.1 h, H21.out.2.1.add h oa H21.out.1.size, rowG_keep H21.out.2.2.1 h, (h.block _ (lt_of_get H21.out.2.2.2.1)).trans H21.out.2.2.2.1, (h.block _ (lt_of_get H21.out.2.2.2.2)).trans H21.out.2.2.2.2⟩
    clear oa h
    go_upto_region 12 with fail
    have hB := below_new3 w22 (.cells #[.int .i64 K2, .slice l22 Y2.length c22] 24)
    have hN := heap_new w22 (.cells #[.int .i64 K2, .slice l22 Y2.length c22] 24)
    generalize w22.alloc (.cells #[.int .i64 K2, .slice l22 Y2.length c22] 24) = V22 at *
    have H22 : Hid (Below W3.heap.size W3 V22 ∧ Coll W3.heap.size V22 [⟨K0, l10, c10, Y0⟩, ⟨K1, l11, c11, Y1⟩, ⟨K2, l12, c12, Y2⟩, ⟨K0, l20, c20, Y0⟩, ⟨K1, l21, c21, Y1⟩, ⟨K2, l22, c22, Y2⟩] 0 ∧ V22.ownsRow W3.heap.size 24 2 (.slice ao1 3 ac1) 3 (gcells [⟨K0, l10, c10, Y0⟩, ⟨K1, l11, c11, Y1⟩, ⟨K2, l12, c12, Y2⟩]) ∧ V22.heap[b20]? = some (.cells #[.int .i64 K0, .slice l20 Y0.length c20] 24) ∧ V22.heap[b21]? = some (.cells #[.int .i64 K1, .slice l21 Y1.length c21] 24) ∧ V22.heap[w22.heap.size]? = some (.cells #[.int .i64 K2, .slice l22 Y2.length c22] 24)) := ⟨btrN S22.out.1 hB, S22.out.2.1.keep hB, rowG_keep S22.out.2.2.1 hB, (hB.block _ (lt_of_get S22.out.2.2.2.1)).trans S22.out.2.2.2.1, (hB.block _ (lt_of_get S22.out.2.2.2.2)).trans S22.out.2.2.2.2, hN⟩
    generalize w22.heap.size = b22 at *
    clear hB hN S22
    obtain ⟨a0, a1, al⟩ := box2N H22.out.2.2.2.1
    obtain ⟨e0, e1, el⟩ := box2N H22.out.2.2.2.2.1
    obtain ⟨f0, f1, fl⟩ := box2N H22.out.2.2.2.2.2
    have HBL : Hid (W3.heap.size ≤ (V22.alloc (.cells #[.int .i64 K0, .slice l20 Y0.length c20, .int .i64 K1, .slice l21 Y1.length c21, .int .i64 K2, .slice l22 Y2.length c22] 24)).heap.size) := Nat.le_trans H22.out.1.size (below_new3 _ _).size
    have HRW : Hid ((V22.alloc (.cells #[.int .i64 K0, .slice l20 Y0.length c20, .int .i64 K1, .slice l21 Y1.length c21, .int .i64 K2, .slice l22 Y2.length c22] 24)).ownsRow W3.heap.size 24 2 (.slice ao1 3 ac1) 3 (gcells [⟨K0, l10, c10, Y0⟩, ⟨K1, l11, c11, Y1⟩, ⟨K2, l12, c12, Y2⟩])) := rowG_keep H22.out.2.2.1 (below_new3 _ _)
    have HNW : Hid (∀ j u, (gcells [⟨K0, l20, c20, Y0⟩, ⟨K1, l21, c21, Y1⟩, ⟨K2, l22, c22, Y2⟩])[j]? = some u → (V22.alloc (.cells #[.int .i64 K0, .slice l20 Y0.length c20, .int .i64 K1, .slice l21 Y1.length c21, .int .i64 K2, .slice l22 Y2.length c22] 24)).cell? ((⟨V22.heap.size, 0, none⟩ : Addr).add j) = some u) := lit_cells _ _ _ rfl
    go_wp2_with (at_builtin; refine wpList_append_own _ rfl _ _ 29 rfl W3.heap.size 24 i0 (.agg #[.int .i64 0, .slice none 0 0]) 2 32 Try.underlying29 hi hz0 hz1 hz2 rfl (by decide) (.slice ao1 3 ac1) 3 (gcells [⟨K0, l10, c10, Y0⟩, ⟨K1, l11, c11, Y1⟩, ⟨K2, l12, c12, Y2⟩]) rfl HRW.out ⟨V22.heap.size, 0, none⟩ 3 3 (gcells [⟨K0, l20, c20, Y0⟩, ⟨K1, l21, c21, Y1⟩, ⟨K2, l22, c22, Y2⟩]) rfl rfl HNW.out (gcells_one _) (by unfold maxLen; omega) (by omega) HBL.out ?_; intro v' wD2 hownD hgrowD _; obtain ⟨ao2, ac2, hv⟩ := rowG_slice hownD; subst hv; have HD2 : Hid (Below W3.heap.size W3 wD2 ∧ Coll W3.heap.size wD2 [⟨K0, l10, c10, Y0⟩, ⟨K1, l11, c11, Y1⟩, ⟨K2, l12, c12, Y2⟩, ⟨K0, l20, c20, Y0⟩, ⟨K1, l21, c21, Y1⟩, ⟨K2, l22, c22, Y2⟩] 0 ∧ wD2.ownsRow W3.heap.size 24 2 (.slice ao2 6 ac2) 6 (gcells [⟨K0, l10, c10, Y0⟩, ⟨K1, l11, c11, Y1⟩, ⟨K2, l12, c12, Y2⟩, ⟨K0, l20, c20, Y0⟩, ⟨K1, l21, c21, Y1⟩, ⟨K2, l22, c22, Y2⟩])) := ⟨belowG_grown (btrN H22.out.1 (below_new3 _ _)) HRW.out hgrowD HBL.out, (H22.out.2.1.keep (below_new3 _ _)).grow HRW.out (by decide) hgrowD, hownD⟩; clear hownD hgrowD; obtain ⟨x0, x1, xl, _, _, _, _⟩ := HX.out wD2 HD2.out.1)
    clear x0 x1 xl a0 a1 al e0 e1 el f0 f1 fl HRW HNW HBL H22
    refine (HIS.out wD2 _ sc (HX.out wD2 HD2.out.1).2.2.2.2.2.1).mono ?_
    rintro e w25 ⟨bq, vq, rfl, h⟩
    have E25 : Hid (Below W3.heap.size W3 w25 ∧ Coll W3.heap.size w25 [⟨K0, l10, c10, Y0⟩, ⟨K1, l11, c11, Y1⟩, ⟨K2, l12, c12, Y2⟩, ⟨K0, l20, c20, Y0⟩, ⟨K1, l21, c21, Y1⟩, ⟨K2, l22, c22, Y2⟩] 0 ∧ w25.ownsRow W3.heap.size 24 2 (.slice ao2 6 ac2) 6 (gcells [⟨K0, l10, c10, Y0⟩, ⟨K1, l11, c11, Y1⟩, ⟨K2, l12, c12, Y2⟩, ⟨K0, l20, c20, Y0⟩, ⟨K1, l21, c21, Y1⟩, ⟨K2, l22, c22, Y2⟩])) := ⟨btrN HD2.out.1 h, HD2.out.2.1.keep h, rowG_keep HD2.out.2.2 h⟩
    clear h HD2
    obtain ⟨x0, x1, xl, _, _, _, _⟩ := HX.out w25 E25.out.1
    go_wp2_with fail
    clear x0 x1 xl
    refine (HDG.out w25 _ sc (HX.out w25 E25.out.1).2.2.2.2.2.1).mono ?_
    rintro e w26 ⟨aq, bq, vq, rfl, h⟩
    have E26 : Hid (Below W3.heap.size W3 w26 ∧ Coll W3.heap.size w26 [⟨K0, l10, c10, Y0⟩, ⟨K1, l11, c11, Y1⟩, ⟨K2, l12, c12, Y2⟩, ⟨K0, l20, c20, Y0⟩, ⟨K1, l21, c21, Y1⟩, ⟨K2, l22, c22, Y2⟩] 0 ∧ w26.ownsRow W3.heap.size 24 2 (.slice ao2 6 ac2) 6 (gcells [⟨K0, l10, c10, Y0⟩, ⟨K1, l11, c11, Y1⟩, ⟨K2, l12, c12, Y2⟩, ⟨K0, l20, c20, Y0⟩, ⟨K1, l21, c21, Y1⟩, ⟨K2, l22, c22, Y2⟩])) := ⟨btrN E25.out.1 h, E25.out.2.1.keep h, rowG_keep E25.out.2.2 h⟩
    clear h E25
    go_wp2
    rw [rounds_succ]
    obtain ⟨_, g0, g1, gs, _, _⟩ := HK.out w26 (HX.out w26 E26.out.1).2.2.2.2.2.2
    go_wp2_with fail
    refine (kept_calls N ao cap g sc xs w26 (HK.out w26 (HX.out w26 E26.out.1).2.2.2.2.2.2).2.2.2.2.1 (HX.out w26 E26.out.1).2.2.2.2.1 hsc hm).mono ?_
    rintro e w16 ⟨rfl, h⟩
    obtain ⟨L, hL⟩ : ∃ L : List GR, L = [⟨K0, l10, c10, Y0⟩, ⟨K1, l11, c11, Y1⟩, ⟨K2, l12, c12, Y2⟩, ⟨K0, l20, c20, Y0⟩, ⟨K1, l21, c21, Y1⟩, ⟨K2, l22, c22, Y2⟩] := ⟨_, rfl⟩
    have HLL : Hid (L = [⟨K0, l10, c10, Y0⟩, ⟨K1, l11, c11, Y1⟩, ⟨K2, l12, c12, Y2⟩, ⟨K0, l20, c20, Y0⟩, ⟨K1, l21, c21, Y1⟩, ⟨K2, l22, c22, Y2⟩]) := hL
    have E7 : Hid (Below W3.heap.size W3 w16 ∧ Coll W3.heap.size w16 L 0 ∧ w16.ownsRow W3.heap.size 24 2 (.slice ao2 6 ac2) 6 (gcells L)) := by
      rw [hL]
      exact ⟨btrN E26.out.1 h, E26.out.2.1.keep h, rowG_keep E26.out.2.2 h⟩
    clear h g0 g1 gs E26 hL
    have hfl : xs.length + 2 ≤ 5864062014807 := by omega
    obtain ⟨fl, hfe⟩ : ∃ fl, xs.length + 2 = fl := ⟨_, rfl⟩
    have F16 : Hid (∃ zs, w16.ownsRow w2.heap.size 42 3 (.slice (some ⟨g, 0, none⟩) fl sc) fl zs) := by
      rw [← hfe]
      exact ⟨_, (HX.out w16 E7.out.1).2.2.2.1⟩
    rw [hfe] at hfl ⊢
    clear hfe hsc
    go_wp2_with fail
    go_loopw [68] (fun iv wx => ∃ (i : Nat) (zs : List Value), i ≤ fl ∧ iv = .int .i64 i ∧ wx.ownsRow w2.heap.size 42 3 (.slice (some ⟨g, 0, none⟩) fl sc) fl zs ∧ w16.grownBy wx (some g)) (fun iv _ => fl - (intOf iv).toNat)
    case atStart =>
      obtain ⟨zs, hz⟩ := F16.out
      exact ⟨0, zs, Nat.zero_le _, rfl, hz, ⟨rfl, rfl, rfl, Nat.le_refl _, fun _ _ _ => rfl⟩⟩
    case round =>
      obtain ⟨i, zs, hi1, rfl, ho1, hg1⟩ := hrel
      by_cases hil : i < fl
      · have hzl : zs.length = fl * 3 := ho1.1
        obtain ⟨y0, hy0⟩ : ∃ y, zs[i * 3]? = some y := ⟨zs[i * 3], List.getElem?_eq_getElem (by omega)⟩
        obtain ⟨y1, hy1⟩ : ∃ y, zs[i * 3 + 1]? = some y := ⟨zs[i * 3 + 1], List.getElem?_eq_getElem (by omega)⟩
        obtain ⟨y2, hy2⟩ : ∃ y, zs[i * 3 + 2]? = some y := ⟨zs[i * 3 + 2], List.getElem?_eq_getElem (by omega)⟩
        have c0 : wr.cell? ⟨g, i * 3, none⟩ = some y0 := (ho1.cellAt (i * 3) (by omega)).trans hy0
        have d0 : wr.frozen? ⟨g, i * 3, none⟩ = false := ho1.frozenAt (i * 3)
        have c1 : wr.cell? ⟨g, i * 3 + 1, none⟩ = some y1 := (ho1.cellAt (i * 3 + 1) (by omega)).trans hy1
        have d1 : wr.frozen? ⟨g, i * 3 + 1, none⟩ = false := ho1.frozenAt (i * 3 + 1)
        have c2 : wr.cell? ⟨g, i * 3 + 2, none⟩ = some y2 := (ho1.cellAt (i * 3 + 2) (by omega)).trans hy2
        have d2 : wr.frozen? ⟨g, i * 3 + 2, none⟩ = false := ho1.frozenAt (i * 3 + 2)
        have HS : Hid (∃ zs', (((wr.setCell ⟨g, i * 3, none⟩ (.int .i64 9)).setCell ⟨g, i * 3 + 1, none⟩ (.int .i64 9)).setCell ⟨g, i * 3 + 2, none⟩ (.int .i64 9)).ownsRow w2.heap.size 42 3 (.slice (some ⟨g, 0, none⟩) fl sc) fl zs' ∧ w16.grownBy (((wr.setCell ⟨g, i * 3, none⟩ (.int .i64 9)).setCell ⟨g, i * 3 + 1, none⟩ (.int .i64 9)).setCell ⟨g, i * 3 + 2, none⟩ (.int .i64 9)) (some g)) := by
          have s1 := ho1.stored (i * 3) (.int .i64 9)
          have s2 := s1.1.stored (i * 3 + 1) (.int .i64 9)
          have s3 := s2.1.stored (i * 3 + 2) (.int .i64 9)
          exact ⟨_, s3.1, grown_trans hg1 (grown_trans s1.2 (grown_trans s2.2 s3.2))⟩
        have e0 : (0 : Int) ≤ (i : Int) := by omega
        have e1 : (i : Int) < (fl : Int) := by omega
        have gl : g < wr.heap.size := (ho1.lt g rfl).2
        clear ho1 hg1 hy0 hy1 hy2 hzl
        go_wp2
        go_roundw
        case rel =>
          obtain ⟨zs', h1, h2⟩ := HS.out
          exact ⟨i + 1, zs', by omega, by go_num, h1, h2⟩
        case measure => simp [intOf]; omega
      · obtain rfl : i = fl := by omega
        have D17 : Below W0.heap.size W0 wr := btrG (HX.out w16 E7.out.1).2.2.2.2.2.2 hg1 HGB.out
        have E8 : Hid (Below W0.heap.size W0 wr ∧ Coll W3.heap.size wr L 0 ∧ wr.ownsRow W3.heap.size 24 2 (.slice ao2 6 ac2) 6 (gcells L) ∧ W3.heap.size ≤ wr.heap.size) := ⟨D17, E7.out.2.1.old hg1 HG3.out, rowG_old E7.out.2.2 hg1 HG3.out, Nat.le_trans E7.out.1.size hg1.size⟩
        clear ho1 hg1 D17 F16 E7 HX HIS HOF HRV HME
        generalize hW17 : wr = W17 at *
        clear hW17
        obtain ⟨_, g0, g1, gs, _, _⟩ := HK.out W17 E8.out.1
        go_wp2_with fail
        refine (HDO.out W17 ao cap (HK.out W17 E8.out.1).2.2.2.2.1).mono ?_
        rintro e u0 ⟨po, pc, pC, ppo, ppl, ppc, rfl, hA, hNw, h⟩
        have U0 : Hid (Below W0.heap.size W0 u0 ∧ Below W17.heap.size W17 u0 ∧ (HasArcs u0 (.slice po Y0.length pc) Y0 ∧ NewA W17.heap.size (.slice po Y0.length pc))) := ⟨btrN E8.out.1 h, h, hA, hNw.base (Nat.le_refl _)⟩
        clear hA hNw h
        obtain ⟨_, g0, g1, gs, _, _⟩ := HK.out u0 U0.out.1
        go_wp2_with fail
        have hB := Below.alloc (below_new3 u0 (.cells #[.int .i64 K0, .slice po Y0.length pc] 24)) (by simp) (.cells #[.int .i64 pC, .slice ppo ppl ppc] 45)
        have hN : ((u0.alloc (.cells #[.int .i64 K0, .slice po Y0.length pc] 24)).alloc (.cells #[.int .i64 pC, .slice ppo ppl ppc] 45)).heap[u0.heap.size]? = some (.cells #[.int .i64 K0, .slice po Y0.length pc] 24) := by
          rw [Below.heap_alloc _ _ _ (by simp)]; exact heap_new _ _
        generalize (u0.alloc (.cells #[.int .i64 K0, .slice po Y0.length pc] 24)).alloc (.cells #[.int .i64 pC, .slice ppo ppl ppc] 45) = X0 at *
        have T0 : Hid (Below W0.heap.size W0 X0 ∧ Below W17.heap.size W17 X0 ∧ (X0.heap[u0.heap.size]? = some (.cells #[.int .i64 K0, .slice po Y0.length pc] 24) ∧ HasArcs X0 (.slice po Y0.length pc) Y0 ∧ NewA W17.heap.size (.slice po Y0.length pc))) := ⟨btrN U0.out.1 hB, btrN U0.out.2.1 hB, hN, U0.out.2.2.1.keep hB, U0.out.2.2.2⟩
        generalize u0.heap.size = bx0 at *
        clear hB hN U0 g0 g1 gs
        obtain ⟨_, g0, g1, gs, _, _⟩ := HK.out X0 T0.out.1
        clear g0 g1 gs
        refine (HDR.out X0 ao cap (HK.out X0 T0.out.1).2.2.2.2.1).mono ?_
        rintro e u1 ⟨qo, qc, qC, qpo, qpl, qpc, rfl, hA, hNw, h⟩
        have U1 : Hid (Below W0.heap.size W0 u1 ∧ Below W17.heap.size W17 u1 ∧ (u1.heap[bx0]? = some (.cells #[.int .i64 K0, .slice po Y0.length pc] 24) ∧ HasArcs u1 (.slice po Y0.length pc) Y0 ∧ NewA W17.heap.size (.slice po Y0.length pc)) ∧ (HasArcs u1 (.slice qo Y1.length qc) Y1 ∧ NewA W17.heap.size (.slice qo Y1.length qc))) := ⟨btrN T0.out.1 h, btrN T0.out.2.1 h, ⟨(h.block _ (lt_of_get T0.out.2.2.1)).trans T0.out.2.2.1, T0.out.2.2.2.1.keep h, T0.out.2.2.2.2⟩, hA, hNw.base (T0.out.2.1.size)⟩
        clear hA hNw h
        obtain ⟨_, g0, g1, gs, _, _⟩ := HK.out u1 U1.out.1
        go_wp2_with fail
        have hB := Below.alloc (below_new3 u1 (.cells #[.int .i64 K1, .slice qo Y1.length qc] 24)) (by simp) (.cells #[.int .i64 qC, .slice qpo qpl qpc] 45)
        have hN : ((u1.alloc (.cells #[.int .i64 K1, .slice qo Y1.length qc] 24)).alloc (.cells #[.int .i64 qC, .slice qpo qpl qpc] 45)).heap[u1.heap.size]? = some (.cells #[.int .i64 K1, .slice qo Y1.length qc] 24) := by
          rw [Below.heap_alloc _ _ _ (by simp)]; exact heap_new _ _
        generalize (u1.alloc (.cells #[.int .i64 K1, .slice qo Y1.length qc] 24)).alloc (.cells #[.int .i64 qC, .slice qpo qpl qpc] 45) = X1 at *
        have T1 : Hid (Below W0.heap.size W0 X1 ∧ Below W17.heap.size W17 X1 ∧ (X1.heap[bx0]? = some (.cells #[.int .i64 K0, .slice po Y0.length pc] 24) ∧ HasArcs X1 (.slice po Y0.length pc) Y0 ∧ NewA W17.heap.size (.slice po Y0.length pc)) ∧ (X1.heap[u1.heap.size]? = some (.cells #[.int .i64 K1, .slice qo Y1.length qc] 24) ∧ HasArcs X1 (.slice qo Y1.length qc) Y1 ∧ NewA W17.heap.size (.slice qo Y1.length qc))) := ⟨btrN U1.out.1 hB, btrN U1.out.2.1 hB, ⟨(hB.block _ (lt_of_get U1.out.2.2.1.1)).trans U1.out.2.2.1.1, U1.out.2.2.1.2.1.keep hB, U1.out.2.2.1.2.2⟩, hN, U1.out.2.2.2.1.keep hB, U1.out.2.2.2.2⟩
        generalize u1.heap.size = bx1 at *
        clear hB hN U1 g0 g1 gs T0
        obtain ⟨_, g0, g1, gs, _, _⟩ := HK.out X1 T1.out.1
        clear g0 g1 gs
        refine (HDM.out X1 ao cap (HK.out X1 T1.out.1).2.2.2.2.1).mono ?_
        rintro e u2 ⟨so, sc, sC, spo, spl, spc, rfl, hA, hNw, h⟩
        have U2 : Hid (Below W0.heap.size W0 u2 ∧ Below W17.heap.size W17 u2 ∧ (u2.heap[bx0]? = some (.cells #[.int .i64 K0, .slice po Y0.length pc] 24) ∧ HasArcs u2 (.slice po Y0.length pc) Y0 ∧ NewA W17.heap.size (.slice po Y0.length pc)) ∧ (u2.heap[bx1]? = some (.cells #[.int .i64 K1, .slice qo Y1.length qc] 24) ∧ HasArcs u2 (.slice qo Y1.length qc) Y1 ∧ NewA W17.heap.size (.slice qo Y1.length qc)) ∧ (HasArcs u2 (.slice so Y2.length sc) Y2 ∧ NewA W17.heap.size (.slice so Y2.length sc))) := ⟨btrN T1.out.1 h, btrN T1.out.2.1 h, ⟨(h.block _ (lt_of_get T1.out.2.2.1.1)).trans T1.out.2.2.1.1, T1.out.2.2.1.2.1.keep h, T1.out.2.2.1.2.2⟩, ⟨(h.block _ (lt_of_get T1.out.2.2.2.1)).trans T1.out.2.2.2.1, T1.out.2.2.2.2.1.keep h, T1.out.2.2.2.2.2⟩, hA, hNw.base (T1.out.2.1.size)⟩
        clear hA hNw h
        obtain ⟨_, g0, g1, gs, _, _⟩ := HK.out u2 U2.out.1
        go_upto_region 26 with fail
        have hB := Below.alloc (below_new3 u2 (.cells #[.int .i64 K2, .slice so Y2.length sc] 24)) (by simp) (.cells #[.int .i64 sC, .slice spo spl spc] 45)
        have hN : ((u2.alloc (.cells #[.int .i64 K2, .slice so Y2.length sc] 24)).alloc (.cells #[.int .i64 sC, .slice spo spl spc] 45)).heap[u2.heap.size]? = some (.cells #[.int .i64 K2, .slice so Y2.length sc] 24) := by
          rw [Below.heap_alloc _ _ _ (by simp)]; exact heap_new _ _
        generalize (u2.alloc (.cells #[.int .i64 K2, .slice so Y2.length sc] 24)).alloc (.cells #[.int .i64 sC, .slice spo spl spc] 45) = X2 at *
        have T2 : Hid (Below W0.heap.size W0 X2 ∧ Below W17.heap.size W17 X2 ∧ (X2.heap[bx0]? = some (.cells #[.int .i64 K0, .slice po Y0.length pc] 24) ∧ HasArcs X2 (.slice po Y0.length pc) Y0 ∧ NewA W17.heap.size (.slice po Y0.length pc)) ∧ (X2.heap[bx1]? = some (.cells #[.int .i64 K1, .slice qo Y1.length qc] 24) ∧ HasArcs X2 (.slice qo Y1.length qc) Y1 ∧ NewA W17.heap.size (.slice qo Y1.length qc)) ∧ (X2.heap[u2.heap.size]? = some (.cells #[.int .i64 K2, .slice so Y2.length sc] 24) ∧ HasArcs X2 (.slice so Y2.length sc) Y2 ∧ NewA W17.heap.size (.slice so Y2.length sc))) := ⟨btrN U2.out.1 hB, btrN U2.out.2.1 hB, ⟨(hB.block _ (lt_of_get U2.out.2.2.1.1)).trans U2.out.2.2.1.1, U2.out.2.2.1.2.1.keep hB, U2.out.2.2.1.2.2⟩, ⟨(hB.block _ (lt_of_get U2.out.2.2.2.1.1)).trans U2.out.2.2.2.1.1, U2.out.2.2.2.1.2.1.keep hB, U2.out.2.2.2.1.2.2⟩, hN, U2.out.2.2.2.2.1.keep hB, U2.out.2.2.2.2.2⟩
        generalize u2.heap.size = bx2 at *
        clear hB hN U2 g0 g1 gs T1
        obtain ⟨a0, a1, al⟩ := box2N T2.out.2.2.1.1
        obtain ⟨e0, e1, el⟩ := box2N T2.out.2.2.2.1.1
        obtain ⟨f0, f1, fl'⟩ := box2N T2.out.2.2.2.2.1
        go_upto_region 28 with fail
        have hB := below_new3 X2 (.cells #[.int .i64 K0, .slice po Y0.length pc, .int .i64 K1, .slice qo Y1.length qc, .int .i64 K2, .slice so Y2.length sc] 24)
        have hN := heap_new X2 (.cells #[.int .i64 K0, .slice po Y0.length pc, .int .i64 K1, .slice qo Y1.length qc, .int .i64 K2, .slice so Y2.length sc] 24)
        generalize X2.alloc (.cells #[.int .i64 K0, .slice po Y0.length pc, .int .i64 K1, .slice qo Y1.length qc, .int .i64 K2, .slice so Y2.length sc] 24) = W18 at *
        obtain ⟨Lw, hLw⟩ : ∃ Lw : List GR, Lw = [⟨K0, po, pc, Y0⟩, ⟨K1, qo, qc, Y1⟩, ⟨K2, so, sc, Y2⟩] := ⟨_, rfl⟩
        have hWt : W18.heap[X2.heap.size]? = some (.cells (gcells Lw).toArray 24) := by rw [hLw]; exact hN
        have hAr : ∀ (j : Nat) (s : GR), Lw[j]? = some s → HasArcs W18 (.slice s.lo s.Y.length s.lc) s.Y ∧ NewA W17.heap.size (.slice s.lo s.Y.length s.lc) := fun j s hj => by
          rw [hLw] at hj
          rcases j with _ | _ | _ | j <;> simp at hj <;> subst hj
          · exact ⟨T2.out.2.2.1.2.1.keep hB, T2.out.2.2.1.2.2⟩
          · exact ⟨T2.out.2.2.2.1.2.1.keep hB, T2.out.2.2.2.1.2.2⟩
          · exact ⟨T2.out.2.2.2.2.2.1.keep hB, T2.out.2.2.2.2.2.2⟩
        have D18 : Below W17.heap.size W17 W18 := btrN T2.out.2.1 hB
        have DW : Below w.heap.size w W18 := (HK.out W18 (btrN T2.out.1 hB)).2.2.2.2.2
        have C18 : Coll W3.heap.size W18 L 0 := E8.out.2.1.keep D18
        have hAll := rowG_keep E8.out.2.2.1 D18
        have HCP : Hid (∀ (j : Nat) (r : GR), L[j]? = some r → r.Y.length ≤ 262144 ∧ ∃ s, Lw[j % 3]? = some s ∧ s.K = r.K ∧ s.Y = r.Y) := fun j r hj => by
          rw [HLL.out] at hj
          rw [hLw]
          rcases j with _ | _ | _ | _ | _ | _ | j <;> simp at hj <;> subst hj
          · exact ⟨hY0, _, rfl, rfl, rfl⟩
          · exact ⟨hY1, _, rfl, rfl, rfl⟩
          · exact ⟨hY2, _, rfl, rfl, rfl⟩
          · exact ⟨hY0, _, rfl, rfl, rfl⟩
          · exact ⟨hY1, _, rfl, rfl, rfl⟩
          · exact ⟨hY2, _, rfl, rfl, rfl⟩
        have HLN : Hid (∀ j : Nat, j < 6 → ∃ r, L[j]? = some r) := fun j hj => by
          rw [HLL.out]
          rcases j with _ | _ | _ | _ | _ | _ | j
          · exact ⟨_, rfl⟩
          · exact ⟨_, rfl⟩
          · exact ⟨_, rfl⟩
          · exact ⟨_, rfl⟩
          · exact ⟨_, rfl⟩
          · exact ⟨_, rfl⟩
          · omega
        obtain ⟨A, cA, eA, hAB, hAl⟩ := hAll.form (by omega)
        injection eA with eA1 _ eA3
        subst eA1
        subst eA3
        have HW3 : Hid (w.heap.size ≤ W3.heap.size ∧ W3.heap.size ≤ W18.heap.size) := ⟨HWL.out, Nat.le_trans E8.out.2.2.2 D18.size⟩
        have HK18 : Hid (∀ wx, Stay (RL L) W18 wx → (∀ (j : Nat) (r : GR), L[j]? = some r → wx.cell? ⟨A, j * 2, none⟩ = some (.int .i64 r.K) ∧ wx.cell? ⟨A, j * 2 + 1, none⟩ = some (.slice r.lo r.Y.length r.lc)) ∧ (∀ (j : Nat) (s : GR), Lw[j]? = some s → wx.cell? ⟨X2.heap.size, j * 2, none⟩ = some (.int .i64 s.K) ∧ wx.cell? ⟨X2.heap.size, j * 2 + 1, none⟩ = some (.slice s.lo s.Y.length s.lc) ∧ HasArcs wx (.slice s.lo s.Y.length s.lc) s.Y) ∧ A < wx.heap.size ∧ X2.heap.size < wx.heap.size ∧ Below w.heap.size w wx) := fun wx hx => by
          obtain ⟨curA, hcA⟩ : ∃ cur, W18.heap[A]? = some (.cells cur 24) := by
            rcases hAll.2 with ⟨e, _⟩ | ⟨g', cap', cur, e, _, hh, _⟩
            · cases e
            · cases e; exact ⟨cur, hh⟩
          have bA : wx.heap[A]? = W18.heap[A]? := hx.block A (lt_of_get hcA) (C18.box hcA (by decide))
          have bW : wx.heap[X2.heap.size]? = W18.heap[X2.heap.size]? := hx.block _ (lt_of_get hWt) (C18.box hWt (by decide))
          refine ⟨fun j r hj => ?_, fun j s hj => ?_, Nat.lt_of_lt_of_le (lt_of_get hcA) hx.size, Nat.lt_of_lt_of_le (lt_of_get hWt) hx.size, Stay.below DW hx (fun k hk => Nat.le_trans HW3.out.1 (C18.new hk).1)⟩
          · have hj6 : j < 6 := by
              have := (List.getElem?_eq_some_iff.1 hj).1
              rw [HLL.out] at this
              exact this
            have hg := gcells_at L j r hj
            exact ⟨(World.cell?_of_block (w := W18) (a := ⟨A, _, none⟩) bA).trans ((hAll.cellAt (j * 2) (by omega)).trans hg.1), (World.cell?_of_block (w := W18) (a := ⟨A, _, none⟩) bA).trans ((hAll.cellAt (j * 2 + 1) (by omega)).trans hg.2)⟩
          · have hg := gcells_at Lw j s hj
            have hc : ∀ o u, (gcells Lw)[o]? = some u → wx.cell? ⟨X2.heap.size, o, none⟩ = some u := fun o u ho => by
              refine (World.cell?_of_block (w := W18) (a := ⟨X2.heap.size, o, none⟩) bW).trans ?_
              simp only [World.cell?, hWt]
              rw [if_neg (by simp)]
              simpa using ho
            refine ⟨hc _ _ hg.1, hc _ _ hg.2, arcs_stayN (hAr j s hj).1 (hAr j s hj).2 (fun b h1 h2 => hx.block b h2 fun hk => ?_) hx.size⟩
            obtain ⟨_, c, hc'⟩ := E8.out.2.1.new hk
            have := lt_of_get hc'
            omega
        have HC18 : Hid (Coll W3.heap.size W18 L 0) := C18
        generalize X2.heap.size = wb at *
        clear hB hN hWt hAr D18 DW C18 hAll hLw T2 E8 HLL hAB hAl a0 a1 al e0 e1 el f0 f1 fl' HK HDO HDR HDM hY0 hY1 hY2
        go_loopw [98] (fun iv wr => ∃ i : Nat, i ≤ 6 ∧ iv = .int .i64 i ∧ Coll W3.heap.size wr L i ∧ Stay (RL L) W18 wr) (fun iv _ => 6 - (intOf iv).toNat)
        case atStart => exact ⟨0, by omega, rfl, HC18.out, Stay.refl _ _⟩
        case round =>
          obtain ⟨i, hi6, rfl, hC, hS⟩ := hrel
          by_cases hil : i < 6
          · obtain ⟨⟨K, lo, lc, Y⟩, hr⟩ := HLN.out i hil
            obtain ⟨hYl, ⟨K', lo', lc', Y'⟩, hs, eK, eY⟩ := HCP.out i _ hr
            simp only at eK eY hYl
            obtain ⟨m3, hm3⟩ : ∃ m, i % 3 = m := ⟨_, rfl⟩
            rw [hm3] at hs
            subst eK
            subst eY
            have HR : Hid (L[i]? = some ⟨K', lo, lc, Y'⟩ ∧ Lw[m3]? = some ⟨K', lo', lc', Y'⟩) := ⟨hr, hs⟩
            have HCS : Hid (Coll W3.heap.size wr L i ∧ Stay (RL L) W18 wr) := ⟨hC, hS⟩
            have HCE : Hid (∀ wx, Stay (RL L) W18 wx → wx.cell? ⟨A, i * 2, none⟩ = some (.int .i64 K') ∧ wx.cell? ⟨A, i * 2 + 1, none⟩ = some (.slice lo Y'.length lc) ∧ wx.cell? ⟨wb, m3 * 2, none⟩ = some (.int .i64 K') ∧ wx.cell? ⟨wb, m3 * 2 + 1, none⟩ = some (.slice lo' Y'.length lc') ∧ A < wx.heap.size ∧ wb < wx.heap.size) := fun wx hx => by
              obtain ⟨h1, h2, h3, h4, _⟩ := HK18.out wx hx
              exact ⟨(h1 i _ HR.out.1).1, (h1 i _ HR.out.1).2, (h2 _ _ HR.out.2).1, (h2 _ _ HR.out.2).2.1, h3, h4⟩
            have HSM : Hid (∀ wx, Below wr.heap.size wr wx → Calls Try.prog 16 #[.agg #[.int .i64 K', .slice lo Y'.length lc], .agg #[.int .i64 K', .slice lo' Y'.length lc']] wx fun e w' => e = .returned (.bool true) ∧ Below wr.heap.size wr w') := fun wx hx => by
              refine (same_yes K' lo lo' Y'.length Y'.length lc lc' Y' wx ((HCS.out.1.rows i _ (Nat.le_refl _) HR.out.1).keep hx).1 ((HK18.out wx (HCS.out.2.later hx)).2.1 _ _ HR.out.2).2.2 (by unfold maxLen; omega)).mono ?_
              rintro e w' ⟨he, h⟩
              exact ⟨he, btrN hx h⟩
            obtain ⟨c0, c1, c2, c3, cA, cB⟩ := HCE.out wr hS
            have b0 : (0 : Int) ≤ (i : Int) := by omega
            have b1 : (i : Int) < 6 := by omega
            have b2 : (m3 : Int) < 3 := by omega
            have b3 : (0 : Int) ≤ (m3 : Int) := by omega
            have b4 : Int.tmod (i : Int) 3 = (m3 : Int) := by rw [Int.tmod_eq_emod_of_nonneg (by omega)]; omega
            clear hC hS hr hs hm3
            generalize hW9 : wr = W9 at *
            clear hW9
            go_upto_region 30 with fail
            go_region_held3 (fun w' => w'.cell? ⟨A, i * 2, none⟩ = some (.int .i64 K') ∧ w'.cell? ⟨A, i * 2 + 1, none⟩ = some (.slice lo Y'.length lc) ∧ w'.cell? ⟨wb, m3 * 2, none⟩ = some (.int .i64 K') ∧ w'.cell? ⟨wb, m3 * 2 + 1, none⟩ = some (.slice lo' Y'.length lc')) (go_keep) (first
              | (go_at_call 16; refine (HSM.out _ (Below.refl _ _).drew).mono ?_; rintro e wS ⟨rfl, h⟩; have HBS : Hid (Below W9.heap.size W9 wS) := h; obtain ⟨s0, s1, s2, s3, sA, sB⟩ := HCE.out wS (HCS.out.2.later h); clear h))
            clear c0 c1 c2 c3 cA cB
            have HCT : Hid (Coll W3.heap.size wS L i ∧ Stay (RL L) W18 wS) := ⟨HCS.out.1.keep HBS.out, HCS.out.2.later HBS.out⟩
            clear HCS HBS HSM
            have HRR : Hid (∀ k, some k = (Value.slice lo Y'.length lc).ownBlock → RL L k) := fun k e => ⟨i, _, HR.out.1, e.symm⟩
            go_wp2_with fail
            clear s0 s1 s2 s3 sA sB
            go_loopw [118] (fun iv wx => ∃ t : Nat, t ≤ Y'.length ∧ iv = .int .i64 t ∧ OwnS W3.heap.size wx lo Y'.length lc ∧ wS.grownBy wx (Value.slice lo Y'.length lc).ownBlock) (fun iv _ => Y'.length - (intOf iv).toNat)
            case atStart => exact ⟨0, Nat.zero_le _, rfl, (HCT.out.1.rows i _ (Nat.le_refl _) HR.out.1).2, ⟨rfl, rfl, rfl, Nat.le_refl _, fun _ _ _ => rfl⟩⟩
            case round =>
              obtain ⟨t, ht, rfl, hO, hg⟩ := hrel
              have HST : Hid (Stay (RL L) W18 wr) := HCT.out.2.grown hg HRR.out
              obtain ⟨s0, s1, _, _, sA, sB⟩ := HCE.out wr HST.out
              by_cases htl : t < Y'.length
              · obtain ⟨zs, hrow⟩ := hO.row
                obtain ⟨b, cb, e, _, hbl⟩ := hrow.form (by omega)
                injection e with e1 _ e3
                subst e1
                have hzl : zs.length = Y'.length * 3 := hrow.1
                obtain ⟨y, hy⟩ : ∃ y, zs[t * 3 + 2]? = some y := ⟨zs[t * 3 + 2], List.getElem?_eq_getElem (by omega)⟩
                have c0 : wr.cell? ⟨b, t * 3 + 2, none⟩ = some y := (hrow.cellAt (t * 3 + 2) (by omega)).trans hy
                have c1 : wr.frozen? ⟨b, t * 3 + 2, none⟩ = false := hrow.frozenAt (t * 3 + 2)
                have HS : Hid (OwnS W3.heap.size (wr.setCell ⟨b, t * 3 + 2, none⟩ (.int .i64 (-1))) (some ⟨b, 0, none⟩) Y'.length lc ∧ wS.grownBy (wr.setCell ⟨b, t * 3 + 2, none⟩ (.int .i64 (-1))) (Value.slice (some ⟨b, 0, none⟩) Y'.length lc).ownBlock) := by
                  have hs := hrow.stored (t * 3 + 2) (.int .i64 (-1))
                  exact ⟨own_of_row hs.1, grown_trans hg hs.2⟩
                have e4 : (0 : Int) ≤ (t : Int) := by omega
                have e5 : (t : Int) < (Y'.length : Int) := by omega
                clear hrow hO hg hy hzl e3
                go_wp2
                go_roundw
                case rel => exact ⟨t + 1, by omega, by go_num, HS.out.1, HS.out.2⟩
                case measure => simp [intOf]; omega
              · obtain rfl : t = Y'.length := by omega
                obtain ⟨zs, hrow⟩ := hO.row
                have HRW : Hid ((wr.alloc (.cells #[.int .i64 0, .int .i64 0, .int .i64 0, .int .i64 0, .int .i64 0, .int .i64 0] 42)).ownsRow W3.heap.size 42 3 (.slice lo Y'.length lc) Y'.length zs) := rowC_keepS hrow (below_new3 _ _)
                have HGR : Hid (wS.grownBy (wr.alloc (.cells #[.int .i64 0, .int .i64 0, .int .i64 0, .int .i64 0, .int .i64 0, .int .i64 0] 42)) (Value.slice lo Y'.length lc).ownBlock) := grown_trans hg (grown_alloc _ _ _)
                have HSZ : Hid (W3.heap.size ≤ (wr.alloc (.cells #[.int .i64 0, .int .i64 0, .int .i64 0, .int .i64 0, .int .i64 0, .int .i64 0] 42)).heap.size) := Nat.le_trans HW3.out.2 (Nat.le_trans HST.out.size (below_new3 _ _).size)
                clear hrow hO hg
                go_wp2_with (at_builtin; refine wpList_append_own _ rfl _ _ 22 rfl W3.heap.size 42 ia (.agg #[.int .i64 0, .int .i64 0, .int .i64 0]) 3 24 Try.underlying22 hia ha0 ha1 ha2 rfl (by decide) (.slice lo Y'.length lc) Y'.length zs rfl HRW.out ⟨wr.heap.size, 0, none⟩ 2 2 [.int .i64 0, .int .i64 0, .int .i64 0, .int .i64 0, .int .i64 0, .int .i64 0] rfl rfl (lit_cells _ _ _ rfl) ?hone (by unfold maxLen; omega) (by omega) HSZ.out ?_; (case hone => intro x hx; simp at hx; subst hx; rfl); intro v' wP hownP hgrowP _; obtain ⟨vo, vc, hv'⟩ := rowC_slice hownP; subst hv'; have HCP2 : Hid (Coll W3.heap.size wP L (i + 1) ∧ Stay (RL L) W18 wP) := ⟨HCT.out.1.next HR.out.1 (grown_trans HGR.out hgrowP), HCT.out.2.grown (grown_trans HGR.out hgrowP) HRR.out⟩; clear hownP hgrowP; obtain ⟨t0, t1, _, _, tA, tB⟩ := HCE.out wP HCP2.out.2)
                clear t0 t1 tA tB HRW HGR HSZ HST s0 s1 sA sB
                generalize hW10 : wr = W10 at *
                clear hW10
                go_loopw [23] (fun jv wx => ∃ j : Nat, i + 1 ≤ j ∧ j ≤ 6 ∧ jv = .int .i64 j ∧ Coll W3.heap.size wx L (i + 1) ∧ Stay (RL L) W18 wx) (fun jv _ => 6 - (intOf jv).toNat)
                case atStart => exact ⟨i + 1, Nat.le_refl _, by omega, by go_num, HCP2.out⟩
                case round =>
                  obtain ⟨j, hj1, hj6, rfl, hC, hS⟩ := hrel
                  by_cases hjl : j < 6
                  · obtain ⟨⟨K2', lo2, lc2, Y2'⟩, hr2⟩ := HLN.out j hjl
                    obtain ⟨hYl2, ⟨K3', lo3, lc3, Y3'⟩, hs2, eK, eY⟩ := HCP.out j _ hr2
                    simp only at eK eY hYl2
                    obtain ⟨m4, hm4⟩ : ∃ m, j % 3 = m := ⟨_, rfl⟩
                    rw [hm4] at hs2
                    subst eK
                    subst eY
                    have HR2 : Hid (L[j]? = some ⟨K3', lo2, lc2, Y3'⟩ ∧ Lw[m4]? = some ⟨K3', lo3, lc3, Y3'⟩) := ⟨hr2, hs2⟩
                    have HCS2 : Hid (Coll W3.heap.size wr L (i + 1) ∧ Stay (RL L) W18 wr) := ⟨hC, hS⟩
                    have HSM2 : Hid (∀ wx, Below wr.heap.size wr wx → Calls Try.prog 16 #[.agg #[.int .i64 K3', .slice lo2 Y3'.length lc2], .agg #[.int .i64 K3', .slice lo3 Y3'.length lc3]] wx fun e w' => e = .returned (.bool true) ∧ Below wr.heap.size wr w') := fun wx hx => by
                      refine (same_yes K3' lo2 lo3 Y3'.length Y3'.length lc2 lc3 Y3' wx ((HCS2.out.1.rows j _ hj1 HR2.out.1).keep hx).1 ((HK18.out wx (HCS2.out.2.later hx)).2.1 _ _ HR2.out.2).2.2 (by unfold maxLen; omega)).mono ?_
                      rintro e w' ⟨he, h⟩
                      exact ⟨he, btrN hx h⟩
                    obtain ⟨c0, c1, c2, c3, cA, cB⟩ : wr.cell? ⟨A, j * 2, none⟩ = some (.int .i64 K3') ∧ wr.cell? ⟨A, j * 2 + 1, none⟩ = some (.slice lo2 Y3'.length lc2) ∧ wr.cell? ⟨wb, m4 * 2, none⟩ = some (.int .i64 K3') ∧ wr.cell? ⟨wb, m4 * 2 + 1, none⟩ = some (.slice lo3 Y3'.length lc3) ∧ A < wr.heap.size ∧ wb < wr.heap.size := by
                      obtain ⟨h1, h2, h3, h4, _⟩ := HK18.out wr hS
                      exact ⟨(h1 j _ hr2).1, (h1 j _ hr2).2, (h2 _ _ hs2).1, (h2 _ _ hs2).2.1, h3, h4⟩
                    have j0 : (0 : Int) ≤ (j : Int) := by omega
                    have j1 : (j : Int) < 6 := by omega
                    have j2 : (m4 : Int) < 3 := by omega
                    have j3 : (0 : Int) ≤ (m4 : Int) := by omega
                    have j4 : Int.tmod (j : Int) 3 = (m4 : Int) := by rw [Int.tmod_eq_emod_of_nonneg (by omega)]; omega
                    clear hC hS hr2 hs2 hm4
                    go_upto_region 43 with fail
                    go_region_held3 (fun w' => w'.cell? ⟨A, j * 2, none⟩ = some (.int .i64 K3') ∧ w'.cell? ⟨A, j * 2 + 1, none⟩ = some (.slice lo2 Y3'.length lc2) ∧ w'.cell? ⟨wb, m4 * 2, none⟩ = some (.int .i64 K3') ∧ w'.cell? ⟨wb, m4 * 2 + 1, none⟩ = some (.slice lo3 Y3'.length lc3)) (go_keep) (first
                      | (go_at_call 16; refine (HSM2.out _ (Below.refl _ _).drew).mono ?_; rintro e wT ⟨rfl, h⟩; have HCU : Hid (Coll W3.heap.size wT L (i + 1) ∧ Stay (RL L) W18 wT) := ⟨HCS2.out.1.keep h, HCS2.out.2.later h⟩; obtain ⟨q0, q1, q2, q3⟩ : wT.cell? ⟨A, j * 2, none⟩ = some (.int .i64 K3') ∧ wT.cell? ⟨A, j * 2 + 1, none⟩ = some (.slice lo2 Y3'.length lc2) ∧ wT.cell? ⟨wb, m4 * 2, none⟩ = some (.int .i64 K3') ∧ wT.cell? ⟨wb, m4 * 2 + 1, none⟩ = some (.slice lo3 Y3'.length lc3) := (by obtain ⟨h1, h2, _, _, _⟩ := HK18.out wT HCU.out.2; exact ⟨(h1 j _ HR2.out.1).1, (h1 j _ HR2.out.1).2, (h2 _ _ HR2.out.2).1, (h2 _ _ HR2.out.2).2.1⟩); clear h))
                    go_wp2
                    go_roundw
                    case rel => exact ⟨j + 1, by omega, by omega, by go_num, HCU.out⟩
                    case measure => simp [intOf]; omega
                  · obtain rfl : j = 6 := by omega
                    have HCV : Hid (Coll W3.heap.size wr L (i + 1) ∧ Stay (RL L) W18 wr) := ⟨hC, hS⟩
                    clear hC hS
                    go_wp2
                    go_roundw
                    case rel => exact ⟨i + 1, by omega, by go_num, HCV.out⟩
                    case measure => simp [intOf]; omega
          · obtain rfl : i = 6 := by omega
            have HBE : Hid (Below w.heap.size w wr) := (HK18.out wr hS).2.2.2.2
            clear hC hS
            go_wp2
            go_ret
            exact ⟨rfl, HBE.out⟩
end Go.Proofs.Ytbfopkhdngfanaa
