/- the law SearchTurned at a graph that is not great and nodes of it. -/
import Derived.Test.YtbaahjppofbdlaaGreatDoorSxA
import Derived.Test.YtbaahjppofbdlaaGreatDoorDocCheck
import Derived.Test.YtbaahjppofbdlaaGreatDoorCsrBk
import Derived.Deep.RegionHeld3
import Derived.Test.YtbaahjppofbdlaaGreatDoorScM
import Derived.Test.YtbaahjppofbdlaaGreatDoorWjF
import Derived.Test.YtbaahjppofbdlaaGreatDoorSeen
import Derived.BigQuiet
namespace Go.Proofs.YtbaahjppofbdlaaGreatDoor
open Go.RowKit Go.Extern

attribute [local go_sem] Oper.semAt_some

section
variable {w : World} {n k cap : Nat} {ao : Option Addr} {xs : List (Int × Int × Int)}
theorem back_csr (hl : HasArcs w (.slice ao k cap) xs) (hg : graphErr (n : Int) xs = (0, [])) : Calls Tryz.prog 8 #[.agg #[.int .i64 n, .slice ao k cap]] w fun e w' => ∃ F T V, e = .returned (.tuple #[.agg #[.slice (some ⟨F, 0, none⟩) (n + 1) (n + 1), .slice (some ⟨T, 0, none⟩) (normA (xs.map turn)).length (normA (xs.map turn)).length, .slice (some ⟨V, 0, none⟩) (normA (xs.map turn)).length (normA (xs.map turn)).length], .nilIface]) ∧ CsrIn w' n (normA (xs.map turn)) (some ⟨F, 0, none⟩) (some ⟨T, 0, none⟩) (some ⟨V, 0, none⟩) (n + 1) (normA (xs.map turn)).length (normA (xs.map turn)).length ∧ Below w.heap.size w w' := by
  refine (back_good n ao _ cap xs w hl hg).mono ?_
  rintro e w' ⟨F, T, V, rfl, _, hf, ht, hv, hb⟩
  exact ⟨F, T, V, rfl, rows_csr hf ht hv, hb⟩
end

set_option maxRecDepth 100000 in
set_option maxHeartbeats 16000000 in
theorem turned8_near (n : Nat) (ao : Option Addr) (cap : Nat) (xs : List (Int × Int × Int)) (w : World) (hX : HasArcs w (.slice ao xs.length cap) xs) (hg : graphErr (n : Int) xs = (0, [])) (hn : n ≤ 12) (hxl : xs.length ≤ 2000) (s t : Nat) (hs : s < n) (ht : t < n) (hty : HasType w) :
    Calls Tryz.prog 3 #[.agg #[.int .i64 n, .slice ao xs.length cap], .int .i64 s, .int .i64 t] w fun e w' => e = .returned (.bool true) ∧ Below w.heap.size w w' := by
  obtain ⟨zs, hzs⟩ : ∃ zs, normA xs = zs := ⟨_, rfl⟩
  obtain ⟨zt, hzt⟩ : ∃ zt, normA (xs.map turn) = zt := ⟨_, rfl⟩
  have hz : Fine n zs := by rw [← hzs]; exact fine_norm hg
  have hzT : Fine n zt := by rw [← hzt]; exact fine_norm (good_turn hg)
  obtain ⟨W0, hW0⟩ : ∃ W0, w.alloc (.cells #[.int .i64 n, .slice ao xs.length cap] 24) = W0 := ⟨_, rfl⟩
  have HW0 : Hid (w.alloc (.cells #[.int .i64 n, .slice ao xs.length cap] 24) = W0) := hW0
  have hB0 : Below w.heap.size w W0 := by rw [← hW0]; exact (Below.refl _ w).alloc (Nat.le_refl _) _
  have hbx : W0.heap[w.heap.size]? = some (.cells #[.int .i64 n, .slice ao xs.length cap] 24) := by rw [← hW0]; exact heap_new _ _
  have HG : Hid (∀ wx, Below W0.heap.size W0 wx → (wx.cell? ⟨w.heap.size, 0, none⟩ = some (.int .i64 n) ∧ wx.cell? ⟨w.heap.size, 1, none⟩ = some (.slice ao xs.length cap) ∧ w.heap.size < wx.heap.size) ∧ HasArcs wx (.slice ao xs.length cap) xs ∧ Below w.heap.size w wx) := fun wx hwx => by
    have hgg := (hwx.block _ (lt_of_get hbx)).trans hbx
    have hb := hB0.trans (hwx.mono hB0.size)
    exact ⟨⟨(cell_two hgg).1, (cell_two hgg).2.1, lt_of_get hgg⟩, hX.keep hb, hb⟩
  have HFW : Hid (∀ wx, Below W0.heap.size W0 wx → Calls Tryz.prog 6 #[.agg #[.int .i64 n, .slice ao xs.length cap], .int .i64 12] wx fun e w' => e = .returned (.bool true) ∧ Below wx.heap.size wx w') := fun wx hwx => by
    have := few_calls (n : Int) ao cap xs 12 wx (HG.out wx hwx).2.1 (by unfold maxLen; omega)
    rwa [show fewB (n : Int) xs 12 = true from decide_eq_true ⟨hg, by omega, hxl⟩] at this
  have HBU : Hid (∀ wx, Below W0.heap.size W0 wx → Calls Tryz.prog 7 #[.agg #[.int .i64 n, .slice ao xs.length cap]] wx fun e w' => ∃ F T V, e = .returned (.tuple #[.agg #[.slice (some ⟨F, 0, none⟩) (n + 1) (n + 1), .slice (some ⟨T, 0, none⟩) zs.length zs.length, .slice (some ⟨V, 0, none⟩) zs.length zs.length], .nilIface]) ∧ CsrIn w' n zs (some ⟨F, 0, none⟩) (some ⟨T, 0, none⟩) (some ⟨V, 0, none⟩) (n + 1) zs.length zs.length ∧ Below wx.heap.size wx w') := fun wx hwx => by
    have := build_csr (HG.out wx hwx).2.1 hg
    rwa [hzs] at this
  have HBA : Hid (∀ wx, Below W0.heap.size W0 wx → Calls Tryz.prog 8 #[.agg #[.int .i64 n, .slice ao xs.length cap]] wx fun e w' => ∃ F T V, e = .returned (.tuple #[.agg #[.slice (some ⟨F, 0, none⟩) (n + 1) (n + 1), .slice (some ⟨T, 0, none⟩) zt.length zt.length, .slice (some ⟨V, 0, none⟩) zt.length zt.length], .nilIface]) ∧ CsrIn w' n zt (some ⟨F, 0, none⟩) (some ⟨T, 0, none⟩) (some ⟨V, 0, none⟩) (n + 1) zt.length zt.length ∧ Below wx.heap.size wx w') := fun wx hwx => by
    have := back_csr (HG.out wx hwx).2.1 hg
    rwa [hzt] at this
  have HTY : Hid (∀ wx, Below w.heap.size w wx → HasType wx) := fun wx h => hty.keep h hty.pos
  have HZ : Hid ((Fine n zs ∧ Fine n zt) ∧ normA xs = zs ∧ normA (xs.map turn) = zt) := ⟨⟨hz, hzT⟩, hzs, hzt⟩
  have s1 : (s : Int) < (n : Int) := by omega
  have s2 : (0 : Int) ≤ (s : Int) := by omega
  have s3 : (t : Int) < (n : Int) := by omega
  have s4 : (0 : Int) ≤ (t : Int) := by omega
  have s5 : ¬ (s : Int) < 0 := by omega
  have s6 : ¬ (t : Int) < 0 := by omega
  have s7 : ¬ (s : Int) ≥ (n : Int) := by omega
  have s8 : ¬ (t : Int) ≥ (n : Int) := by omega
  clear hW0 hB0 hbx hX hg hz hzT hzs hzt hty
  go_enter Tryz.func3, Tryz.ntmps3
  go_wp2_with fail
  rw [HW0.out]
  refine (awake8_calls W0).mono ?_
  rintro e w1 ⟨rfl, hb⟩
  have HB1 : Hid (Below W0.heap.size W0 w1) := hb
  clear hb
  obtain ⟨⟨g0, g1, gs⟩, _⟩ := HG.out w1 HB1.out
  go_wp2_with fail
  refine (HFW.out w1 HB1.out).mono ?_
  rintro e w2 ⟨rfl, hb⟩
  have HB2 : Hid (Below W0.heap.size W0 w2) := btr HB1.out hb
  clear hb HB1 g0 g1 gs
  obtain ⟨⟨g0, g1, gs⟩, _⟩ := HG.out w2 HB2.out
  go_wp2_with fail
  refine (HBU.out w2 HB2.out).mono ?_
  rintro e w3 ⟨F, T, V, rfl, hC, hb⟩
  have hal := below1 w3 (.cells #[.slice (some ⟨F, 0, none⟩) (n + 1) (n + 1), .slice (some ⟨T, 0, none⟩) zs.length zs.length, .slice (some ⟨V, 0, none⟩) zs.length zs.length] 29)
  have H3 : Hid (Below W0.heap.size W0 (w3.alloc (.cells #[.slice (some ⟨F, 0, none⟩) (n + 1) (n + 1), .slice (some ⟨T, 0, none⟩) zs.length zs.length, .slice (some ⟨V, 0, none⟩) zs.length zs.length] 29)) ∧ CsrIn (w3.alloc (.cells #[.slice (some ⟨F, 0, none⟩) (n + 1) (n + 1), .slice (some ⟨T, 0, none⟩) zs.length zs.length, .slice (some ⟨V, 0, none⟩) zs.length zs.length] 29)) n zs (some ⟨F, 0, none⟩) (some ⟨T, 0, none⟩) (some ⟨V, 0, none⟩) (n + 1) zs.length zs.length ∧ (w3.alloc (.cells #[.slice (some ⟨F, 0, none⟩) (n + 1) (n + 1), .slice (some ⟨T, 0, none⟩) zs.length zs.length, .slice (some ⟨V, 0, none⟩) zs.length zs.length] 29)).heap[w3.heap.size]? = some (.cells #[.slice (some ⟨F, 0, none⟩) (n + 1) (n + 1), .slice (some ⟨T, 0, none⟩) zs.length zs.length, .slice (some ⟨V, 0, none⟩) zs.length zs.length] 29)) := ⟨btr (btr HB2.out hb) hal, hC.keep hal, heap_new _ _⟩
  clear hb hC hal g0 g1 gs HBU
  go_upto_region 6 with fail
  generalize w3.alloc (.cells #[.slice (some ⟨F, 0, none⟩) (n + 1) (n + 1), .slice (some ⟨T, 0, none⟩) zs.length zs.length, .slice (some ⟨V, 0, none⟩) zs.length zs.length] 29) = w4 at *
  generalize w3.heap.size = xb at *
  have HXK : Hid (∀ wx, Below w4.heap.size w4 wx → (wx.cell? ⟨xb, 0, none⟩ = some (.slice (some ⟨F, 0, none⟩) (n + 1) (n + 1)) ∧ wx.cell? ⟨xb, 1, none⟩ = some (.slice (some ⟨T, 0, none⟩) zs.length zs.length) ∧ wx.cell? ⟨xb, 2, none⟩ = some (.slice (some ⟨V, 0, none⟩) zs.length zs.length)) ∧ xb < wx.heap.size ∧ CsrIn wx n zs (some ⟨F, 0, none⟩) (some ⟨T, 0, none⟩) (some ⟨V, 0, none⟩) (n + 1) zs.length zs.length) := fun wx hwx => by
    have hg := (hwx.block _ (lt_of_get H3.out.2.2)).trans H3.out.2.2
    exact ⟨box3 hg, lt_of_get hg, H3.out.2.1.keep hwx⟩
  obtain ⟨⟨g0, g1, gs⟩, _⟩ := HG.out w4 H3.out.1
  go_wp2_with fail
  refine (HBA.out w4 H3.out.1).mono ?_
  rintro e w5 ⟨F2, T2, V2, rfl, hC, hb⟩
  have hal := below1 w5 (.cells #[.slice (some ⟨F2, 0, none⟩) (n + 1) (n + 1), .slice (some ⟨T2, 0, none⟩) zt.length zt.length, .slice (some ⟨V2, 0, none⟩) zt.length zt.length] 29)
  have H5 : Hid (Below w4.heap.size w4 (w5.alloc (.cells #[.slice (some ⟨F2, 0, none⟩) (n + 1) (n + 1), .slice (some ⟨T2, 0, none⟩) zt.length zt.length, .slice (some ⟨V2, 0, none⟩) zt.length zt.length] 29)) ∧ CsrIn (w5.alloc (.cells #[.slice (some ⟨F2, 0, none⟩) (n + 1) (n + 1), .slice (some ⟨T2, 0, none⟩) zt.length zt.length, .slice (some ⟨V2, 0, none⟩) zt.length zt.length] 29)) n zt (some ⟨F2, 0, none⟩) (some ⟨T2, 0, none⟩) (some ⟨V2, 0, none⟩) (n + 1) zt.length zt.length ∧ (w5.alloc (.cells #[.slice (some ⟨F2, 0, none⟩) (n + 1) (n + 1), .slice (some ⟨T2, 0, none⟩) zt.length zt.length, .slice (some ⟨V2, 0, none⟩) zt.length zt.length] 29)).heap[w5.heap.size]? = some (.cells #[.slice (some ⟨F2, 0, none⟩) (n + 1) (n + 1), .slice (some ⟨T2, 0, none⟩) zt.length zt.length, .slice (some ⟨V2, 0, none⟩) zt.length zt.length] 29)) := ⟨btr hb hal, hC.keep hal, heap_new _ _⟩
  clear hb hC hal g0 g1 gs HBA
  go_upto_region 7 with fail
  generalize w5.alloc (.cells #[.slice (some ⟨F2, 0, none⟩) (n + 1) (n + 1), .slice (some ⟨T2, 0, none⟩) zt.length zt.length, .slice (some ⟨V2, 0, none⟩) zt.length zt.length] 29) = w6 at *
  generalize w5.heap.size = yb at *
  have HYK : Hid (∀ wx, Below w6.heap.size w6 wx → (wx.cell? ⟨yb, 0, none⟩ = some (.slice (some ⟨F2, 0, none⟩) (n + 1) (n + 1)) ∧ wx.cell? ⟨yb, 1, none⟩ = some (.slice (some ⟨T2, 0, none⟩) zt.length zt.length) ∧ wx.cell? ⟨yb, 2, none⟩ = some (.slice (some ⟨V2, 0, none⟩) zt.length zt.length)) ∧ yb < wx.heap.size ∧ CsrIn wx n zt (some ⟨F2, 0, none⟩) (some ⟨T2, 0, none⟩) (some ⟨V2, 0, none⟩) (n + 1) zt.length zt.length) := fun wx hwx => by
    have hg := (hwx.block _ (lt_of_get H5.out.2.2)).trans H5.out.2.2
    exact ⟨box3 hg, lt_of_get hg, H5.out.2.1.keep hwx⟩
  obtain ⟨⟨x0, x1, x2⟩, xl, xC⟩ := HXK.out w6 H5.out.1
  go_wp2_with fail
  refine (from_good n zs (some ⟨F, 0, none⟩) (some ⟨T, 0, none⟩) (some ⟨V, 0, none⟩) (n + 1) zs.length zs.length w6 HZ.out.1.1 xC s (by omega)).mono ?_
  rintro e w7 ⟨db, D, rfl, hD, hU, hb⟩
  have H7 : Hid (Below w6.heap.size w6 w7 ∧ IsDist n zs s D ∧ U64s w7 db D) := ⟨hb, hD, hU⟩
  clear hb hD hU x0 x1 x2 xl xC
  obtain ⟨⟨y0, y1, y2⟩, yl, yC⟩ := HYK.out w7 H7.out.1
  go_wp2_with fail
  refine (sMatrix_good n zt (some ⟨F2, 0, none⟩) (some ⟨T2, 0, none⟩) (some ⟨V2, 0, none⟩) (n + 1) zt.length zt.length w7 HZ.out.1.2 yC (by omega)).mono ?_
  rintro e w8 ⟨rb, vs, rfl, hvl, hRA, hMt, hb⟩
  have H8 : Hid (Below w7.heap.size w7 w8 ∧ vs.length = n ∧ RowsAt w8 rb vs ∧ Mat w8 n zt vs) := ⟨hb, hvl, hRA, hMt⟩
  clear hb hvl hRA hMt y0 y1 y2 yl yC
  obtain ⟨⟨x0, x1, x2⟩, xl, xC⟩ := HXK.out w8 (btr (btr H5.out.1 H7.out.1) H8.out.1)
  go_wp2_with fail
  refine (sBounded_good n zs (some ⟨F, 0, none⟩) (some ⟨T, 0, none⟩) (some ⟨V, 0, none⟩) (n + 1) zs.length zs.length w8 HZ.out.1.1 xC s (by omega) 4611686018427387904 4611686018427387904 18446744073709551615).mono ?_
  rintro e w9 ⟨S0, tt, S, lo, lc, ⟨hst, hend⟩, rfl, how, hb⟩
  obtain ⟨L, hL0, hLn, hLm, hLab⟩ := labs_of HZ.out.1.1 (by omega) hst hend H7.out.2.1 how
  have HB9 : Hid (Below w4.heap.size w4 w9) := btr (btr (btr H5.out.1 H7.out.1) H8.out.1) hb
  have HLAB : Hid (type_of% hLab) := hLab
  have HLN : Hid (L n = (labN S).length) := hLn
  have HL0 : Hid (L 0 = 0) := hL0
  have HDU : Hid (∀ wx, Below w9.heap.size w9 wx → U64s wx db D) := fun wx hx => by
    have hb2 := btr (btr H8.out.1 hb) hx
    exact (hb2.block _ (lt_of_get H7.out.2.2)).trans H7.out.2.2
  have HM : Hid (∀ v : Nat, v < n → ∃ mb M, M[s]? = D[v]? ∧ ∀ wx, Below w9.heap.size w9 wx → wx.cell? ⟨rb, v, none⟩ = some (.slice (some ⟨mb, 0, none⟩) n n) ∧ rb < wx.heap.size ∧ U64s wx mb M) := fun v hv => by
    obtain ⟨_, hvl, hRA, hMt⟩ := H8.out
    obtain ⟨u, hu⟩ : ∃ u, vs[v]? = some u := ⟨vs[v]'(by rw [hvl]; exact hv), List.getElem?_eq_getElem _⟩
    obtain ⟨mb, M, rfl, hM, hU⟩ := hMt v u hu
    refine ⟨mb, M, dist_turn (xs := xs) (by rw [HZ.out.2.1]; exact H7.out.2.1) (by rw [HZ.out.2.2]; exact hM) (by omega) hv, fun wx hx => ?_⟩
    have hb2 := btr hb hx
    obtain ⟨q0, ql, _⟩ := hRA.at hu
    exact ⟨(hb2.cell (p := ⟨rb, v, none⟩) ql).trans q0, Nat.lt_of_lt_of_le ql hb2.size, (hb2.block _ (lt_of_get hU)).trans hU⟩
  have HD : Hid (IsDist n zs s D) := H7.out.2.1
  have HGX : Hid (∀ wx, Below w9.heap.size w9 wx → (wx.cell? ⟨w.heap.size, 0, none⟩ = some (.int .i64 n) ∧ w.heap.size < wx.heap.size) ∧ Below w.heap.size w wx) := fun wx hx => by
    have h := HG.out wx (btr H3.out.1 (btr HB9.out hx))
    exact ⟨⟨h.1.1, h.1.2.2⟩, h.2.2⟩
  have HXX : Hid (∀ wx, Below w9.heap.size w9 wx → (wx.cell? ⟨xb, 0, none⟩ = some (.slice (some ⟨F, 0, none⟩) (n + 1) (n + 1)) ∧ wx.cell? ⟨xb, 1, none⟩ = some (.slice (some ⟨T, 0, none⟩) zs.length zs.length) ∧ wx.cell? ⟨xb, 2, none⟩ = some (.slice (some ⟨V, 0, none⟩) zs.length zs.length)) ∧ xb < wx.heap.size ∧ CsrIn wx n zs (some ⟨F, 0, none⟩) (some ⟨T, 0, none⟩) (some ⟨V, 0, none⟩) (n + 1) zs.length zs.length) := fun wx hx => HXK.out wx (btr HB9.out hx)
  have HZZ : Hid (Fine n zs) := HZ.out.1.1
  generalize (labN S).length = lm at *
  clear hst hend how hb hLab hLn hL0 x0 x1 x2 xl xC HB9 H8 H7 H5 H3 HG HXK HYK HB2 HW0 HFW
  obtain ⟨⟨g0, gs⟩, _⟩ := HGX.out w9 (Below.refl _ _)
  go_upto_region 14 with fail
  clear g0 gs
  go_loopw [17, 109] (fun iv vv wr => ∃ v : Nat, v ≤ n ∧ vv = .int .i64 v ∧ iv = .int .i64 (L v : Int) ∧ Below w9.heap.size w9 wr) (fun _ vv _ => n - (intOf vv).toNat)
  case atStart => exact ⟨0, Nat.zero_le _, rfl, by rw [HL0.out]; rfl, Below.refl _ _⟩
  case round =>
    obtain ⟨v, hv, rfl, rfl, hbw⟩ := hrel
    have HB : Hid (Below w9.heap.size w9 wr) := hbw
    clear hbw
    by_cases hlt : v < n
    · obtain ⟨mb, M, hMD, hrow⟩ := HM.out v hlt
      have HLV := HLAB.out v hlt
      obtain ⟨⟨g0, gs⟩, _⟩ := HGX.out wr HB.out
      obtain ⟨q0, ql, hUM⟩ := hrow wr HB.out
      have hUD := HDU.out wr HB.out
      have v1 : (v : Int) < (n : Int) := by omega
      have v2 : (0 : Int) ≤ (v : Int) := by omega
      rcases HLV with ⟨hDv, hLv⟩ | ⟨d, hDv, hne, hLv, hLlt, hcell⟩
      · rw [hDv] at hMD
        obtain ⟨r0, rl, _⟩ := hUM.at hMD
        obtain ⟨t0, tl, _⟩ := hUD.at hDv
        have HLX : Hid (L (v + 1) = L v ∧ D[v]? = some 18446744073709551615) := ⟨hLv, hDv⟩
        clear hMD hrow hUM hUD hDv hLv
        as_aux_lemma =>
          go_wp2_with fail
          go_quiet (fail)
          have HB4 : Hid (Below w9.heap.size w9 (wr.drewN nq)) := below_drewN HB.out nq
          clear g0 gs q0 ql r0 rl t0 tl
          generalize wr.drewN nq = wq at *
          obtain ⟨t0, tl, _⟩ := (HDU.out wq HB4.out).at HLX.out.2
          go_wp2
          go_roundw
          case rel => exact ⟨v + 1, by omega, by go_num, by rw [HLX.out.1], HB4.out⟩
          case measure => simp [intOf]; omega
      · rw [hDv] at hMD
        obtain ⟨r0, rl, _⟩ := hUM.at hMD
        obtain ⟨t0, tl, _⟩ := hUD.at hDv
        have HLX : Hid (L (v + 1) = L v + 1 ∧ D[v]? = some d) := ⟨hLv, hDv⟩
        have HCL : Hid (type_of% hcell) := hcell
        have fy1 : (d == 18446744073709551615) = false := beq_eq_false_iff_ne.2 hne
        have fy2 : (d != 18446744073709551615) = true := bne_iff_ne.2 hne
        have fy3 : decide (d = 18446744073709551615) = false := decide_eq_false hne
        have l1 : ¬ (L v : Int) ≥ (lm : Int) := by omega
        have l2 : (L v : Int) < (lm : Int) := by omega
        have l3 : (0 : Int) ≤ (L v : Int) := by omega
        clear hMD hrow hUM hUD hDv hLv hcell
        as_aux_lemma =>
          go_wp2_with fail
          go_quiet (fail)
          have HB4 : Hid (Below w9.heap.size w9 (wr.drewN nq)) := below_drewN HB.out nq
          clear g0 gs q0 ql r0 rl t0 tl
          generalize wr.drewN nq = wq at *
          obtain ⟨t0, tl, _⟩ := (HDU.out wq HB4.out).at HLX.out.2
          obtain ⟨b, off, rfl, bl, c0, c1, c3⟩ := HCL.out wq HB4.out
          generalize hLv : L v = lv at *
          go_wp2_with fail
          go_quiet (fail)
          have HB5 : Hid (Below w9.heap.size w9 (wq.drewN nq)) := below_drewN HB4.out nq
          go_wp2
          go_roundw
          case rel => exact ⟨v + 1, by omega, by go_num, by rw [HLX.out.1]; go_num, HB5.out⟩
          case measure => simp [intOf]; omega
    · obtain rfl : n = v := by omega
      rw [HLN.out]
      obtain ⟨⟨x0, x1, x2⟩, xl, xC⟩ := HXX.out wr HB.out
      go_wp2_with fail
      refine (path_good n zs (some ⟨F, 0, none⟩) (some ⟨T, 0, none⟩) (some ⟨V, 0, none⟩) (n + 1) zs.length zs.length wr HZZ.out xC s t (by omega) (by omega)).mono ?_
      rintro e w10 ⟨⟨D2, hD2, hcase⟩, hb⟩
      rw [hD2.unique HD.out] at hcase
      have H10 : Hid (Below w9.heap.size w9 w10) := btr HB.out hb
      clear hb x0 x1 x2 xl xC hD2 D2
      rcases hcase with ⟨hf, rfl⟩ | ⟨P, d, po, pc, hd, hne, hPT, hP0, ⟨hnd, hpl⟩, rfl, ho⟩
      · obtain ⟨t0, tl, _⟩ := (HDU.out w10 H10.out).at hf
        have HBX : Hid (Below w.heap.size w w10) := (HGX.out w10 H10.out).2
        clear hf
        go_wp2_with fail
        refine (E_calls 16 w10).mono ?_
        rintro e w11 ⟨rfl, hb⟩
        have H11 : Hid (Below w.heap.size w w11) := btr HBX.out hb
        clear hb t0 tl
        go_wp2_with fail
        refine (seen_told (16, []) (.iface 53 (.int .i64 16)) none 0 w11 (Or.inr ⟨by decide, rfl⟩) ⟨_, _, rfl, fun j p hj => by simp at hj⟩ (by decide) (HTY.out w11 H11.out)).mono ?_
        rintro e w12 ⟨rfl, hb⟩
        have H12 : Hid (Below w.heap.size w w12) := btr H11.out hb
        clear hb
        go_wp2
        go_ret
        exact ⟨rfl, H12.out⟩
      · obtain ⟨ws, hPI⟩ := pathIs_of HZZ.out (by omega) hPT hP0 hnd hpl
        have hshort := path_short hPI hnd
        have hl : 0 < P.length := (List.getElem?_eq_some_iff.1 hP0).1
        obtain ⟨q, hq⟩ : ∃ q, P.length = q + 1 := ⟨P.length - 1, by omega⟩
        obtain ⟨g, cap, e2, hc⟩ := own_some ho hl
        injection e2 with e3 e4 e5
        subst e3
        subst e5
        have hxl : (nums P).reverse.length = q + 1 := by rw [List.length_reverse, nums_len, hq]
        rw [hq] at ho hc hshort ⊢
        have hI : HasInts w10 (.slice (some ⟨g, 0, none⟩) (q + 1) pc) (nums P).reverse := ints_of_iown (l := (nums P).reverse) (by rw [hxl]; exact ho)
        have HX : Hid (∀ k : Nat, k < q + 1 → ∃ (v : Nat) (e : Int), v < n ∧ D[v]? = some e ∧ (∀ wx, Below w10.heap.size w10 wx → wx.cell? ⟨g, k, none⟩ = some (.int .i64 (v : Int)) ∧ g < wx.heap.size) ∧ ∀ wx, Below w10.heap.size w10 wx → Calls Tryz.prog 15 #[.agg #[.slice (some ⟨F, 0, none⟩) (n + 1) (n + 1), .slice (some ⟨T, 0, none⟩) zs.length zs.length, .slice (some ⟨V, 0, none⟩) zs.length zs.length], .slice (some ⟨g, 0, none⟩) (k + 1) pc, .int .i64 s, .int .i64 v, .int .u64 e] wx fun r w' => r = .returned (.bool true) ∧ Below wx.heap.size wx w') := fun k hk => by
          obtain ⟨x, hx⟩ : ∃ x, (nums P).reverse[k]? = some x := ⟨(nums P).reverse[k]'(by omega), List.getElem?_eq_getElem _⟩
          obtain ⟨v, e, ws2, rfl, hv, hDv, hPk⟩ := path_begin HZZ.out (by omega) HD.out hPT hP0 hd hnd hpl hx
          refine ⟨v, e, hv, hDv, fun wx hwx => ?_, fun wx hwx => ?_⟩
          · obtain ⟨b, off, e1, bl, c⟩ := (hI.keep hwx).at hx
            injection e1 with e1
            injection e1 with e1 e2
            subst e1
            subst e2
            exact ⟨by simpa using c, bl⟩
          · have hCI := (HXX.out wx (btr H10.out hwx)).2.2
            exact rPath_yes n zs _ _ _ _ _ _ wx HZZ.out hCI g pc k s v e _ ws2 (by rw [List.length_take]; omega) (ints_take (hI.keep hwx) (by omega)) (by omega) hPk (fun wy hy => docCheck_fine HZZ.out _ _ _ _ _ _ wy (hCI.keep hy))
        obtain ⟨t0, tl, _⟩ := (HDU.out w10 H10.out).at hd
        obtain ⟨⟨g0, gs⟩, _⟩ := HGX.out w10 H10.out
        have fy1 : (d == 18446744073709551615) = false := beq_eq_false_iff_ne.2 hne
        have fy2 : (d != 18446744073709551615) = true := bne_iff_ne.2 hne
        have fy3 : decide (d = 18446744073709551615) = false := decide_eq_false hne
        have e6 : ¬ (q : Int) + 1 = 0 := by omega
        have e7 : ¬ (q : Int) + 1 > (n : Int) := by omega
        have e8 : ((q : Int) + 1 == 0) = false := beq_eq_false_iff_ne.2 e6
        have HPC : Hid (q + 1 ≤ pc) := hc
        clear hPI hl ho hI hxl hd hPT hP0 hnd hpl hne hc
        go_upto_region 31 with fail
        clear t0 tl g0 gs fy1 fy2 fy3 e6 e7 e8
        go_loopw [215] (fun kv wr => ∃ k : Nat, k ≤ q + 1 ∧ kv = .int .i64 k ∧ Below w10.heap.size w10 wr) (fun kv _ => q + 1 - (intOf kv).toNat)
        case atStart => exact ⟨0, Nat.zero_le _, rfl, Below.refl _ _⟩
        case round =>
          obtain ⟨k, hk, rfl, hbw⟩ := hrel
          have HBW : Hid (Below w10.heap.size w10 wr) := hbw
          clear hbw
          by_cases hkq : k < q + 1
          · obtain ⟨v, e, hv, hDv, hcell, hcall⟩ := HX.out k hkq
            have HCA : Hid (type_of% hcall) := hcall
            obtain ⟨c0, cl⟩ := hcell wr HBW.out
            obtain ⟨t0, tl, _⟩ := (HDU.out wr (btr H10.out HBW.out)).at hDv
            obtain ⟨⟨g0, gs⟩, _⟩ := HGX.out wr (btr H10.out HBW.out)
            obtain ⟨⟨x0, x1, x2⟩, xl, _⟩ := HXX.out wr (btr H10.out HBW.out)
            have hsl : ∀ wx, (Instr.slice 27 (.slice (some ⟨g, 0, none⟩) (q + 1) pc) none (some (.int .i64 ((k : Int) + 1))) none).run Tryz.prog wx = .ok (.slice (some ⟨g, 0, none⟩) (k + 1) pc) wx := fun wx => by
              have h := isl_to g (q + 1) pc (k + 1) HPC.out (by omega) wx
              rwa [show ((k + 1 : Nat) : Int) = (k : Int) + 1 by omega] at h
            have k0 : IntKind.i64.wrap ((k : Int) + 1) = (k : Int) + 1 := by rw [IntKind.wrap_i64] <;> omega
            have k1 : (k : Int) < (q : Int) + 1 := by omega
            have k2 : (0 : Int) ≤ (k : Int) := by omega
            have v1 : (v : Int) < (n : Int) := by omega
            have v2 : (0 : Int) ≤ (v : Int) := by omega
            have v3 : decide ((v : Int) < 0) = false := decide_eq_false (by omega)
            have v4 : decide ((v : Int) ≥ (n : Int)) = false := decide_eq_false (by omega)
            have v5 : decide ((n : Int) ≤ (v : Int)) = false := decide_eq_false (by omega)
            have v6 : decide (n ≤ v) = false := decide_eq_false (by omega)
            clear hcall hcell hDv
            go_upto_region 33 with fail
            clear c0 cl
            go_region_held3 (fun w' => w'.cell? ⟨w.heap.size, 0, none⟩ = some (.int .i64 n) ∧ (w'.cell? ⟨xb, 0, none⟩ = some (.slice (some ⟨F, 0, none⟩) (n + 1) (n + 1)) ∧ w'.cell? ⟨xb, 1, none⟩ = some (.slice (some ⟨T, 0, none⟩) zs.length zs.length) ∧ w'.cell? ⟨xb, 2, none⟩ = some (.slice (some ⟨V, 0, none⟩) zs.length zs.length)) ∧ w'.cell? ⟨db, v, none⟩ = some (.int .u64 e)) (go_keep) (first
              | (go_at_call 15; refine (HCA.out _ HBW.out.drew).mono ?_; rintro r w3 ⟨rfl, hb3⟩; have H3 : Hid (Below w10.heap.size w10 w3) := HBW.out.drew.trans (hb3.mono HBW.out.size); have r1 := (hb3.cell (p := ⟨w.heap.size, 0, none⟩) gs).trans g0; have r2 := (hb3.cell (p := ⟨xb, 0, none⟩) xl).trans x0; have r3 := (hb3.cell (p := ⟨xb, 1, none⟩) xl).trans x1; have r4 := (hb3.cell (p := ⟨xb, 2, none⟩) xl).trans x2; have r5 := (hb3.cell (p := ⟨db, v, none⟩) tl).trans t0; clear hb3))
            all_goals
              go_wp2
              go_roundw
              case rel => exact ⟨k + 1, by omega, by go_num, H3.out⟩
              case measure => simp [intOf]; omega
          · obtain rfl : k = q + 1 := by omega
            have HBZ : Hid (Below w.heap.size w wr) := (HGX.out wr (btr H10.out HBW.out)).2
            go_wp2
            go_ret
            exact ⟨rfl, HBZ.out⟩
end Go.Proofs.YtbaahjppofbdlaaGreatDoor
