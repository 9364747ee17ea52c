/- ShortsBounds, where the graph is right and small. -/
import Derived.Test.YtbkclhaonbjobaaGreatSh10
import Derived.Test.YtbkclhaonbjobaaGreatQoX
namespace Go.Proofs.YtbkclhaonbjobaaGreat.Wt
open Go Go.RowKit Go.Extern Go.Deep

attribute [local go_sem] Oper.semAt_some

section
variable {PX : Nat → Option Obj} {w : World} {B0 pb n : Nat} {bs : List Bool} {R : Bool → Nat → Rw} {nodes arcs : Int} {zs : List A4}
theorem need_yes (h : IsOv PX B0 w pb n bs R nodes arcs) (ht : Tied n bs R zs) (hz : ZB zs) (hn : n ≤ 512) {v : Int} (hv : aliveB n bs v = true) (o0 o1 o2 o3 o4 hp sp : Int) (e0 : min (max o0 0) 1048576 = hp) (e1 : min (max o1 0) 1048576 = sp) :
    Calls Tryz.prog 15 #[.pointer (some ⟨pb, 0, none⟩), .int .i64 v, .agg #[.int .i64 o0, .int .i64 o1, .int .i64 o2, .int .i64 o3, .int .i64 o4]] w fun e w' => ∃ so sc, e = .returned (.tuple #[.slice so (needL n bs R v hp sp).length sc, .nilIface]) ∧ HasSs w' (.slice so (needL n bs R v hp sp).length sc) (needL n bs R v hp sp) ∧ Below w.heap.size w w' := by
  subst e0 e1
  refine (need_calls h ht hz hn v o0 o1 o2 o3 o4).mono ?_
  rintro e w' ⟨hb, ⟨hf, _⟩ | ⟨_, so, sc, rfl, ho⟩⟩
  · rw [hv] at hf; cases hf
  · exact ⟨so, sc, rfl, ss_of_row ho, hb⟩
end
theorem walkL_succ {n : Nat} {bs : List Bool} {zs : List A4} {v : Int} {i h : H3} {out : List H3} {k : Nat} (hk : out[k]? = some h) : walkL n bs zs v i (out.take (k + 1)) = walkL n bs zs v i (out.take k) ++ (if walkB n bs zs v i h then [wayOf i h] else []) := by
  unfold walkL
  rw [List.take_add_one, hk, List.filter_append, List.map_append]
  congr 1
  cases hb : walkB n bs zs v i h <;> simp [hb]
theorem walkL_len (n : Nat) (bs : List Bool) (zs : List A4) (v : Int) (i : H3) (out : List H3) : (walkL n bs zs v i out).length ≤ out.length := by
  unfold walkL
  rw [List.length_map]
  exact List.length_filter_le _ _
/-- does an arc's weight, where there is one, not surpass it? -/
def hasO (ow : Option Int) (s : Int) : Bool := match ow with
  | some k => decide (k ≤ s)
  | none => false
theorem metN_snoc (ws : List S3) : ∀ (l : List S3) (i : Nat) (s : S3), metN ws i (l ++ [s]) = if ws[metN ws i l]? = some s then metN ws i l + 1 else metN ws i l
  | [], _, _ => rfl
  | _ :: r, _, s => metN_snoc ws r _ s
theorem metN_le (ws : List S3) : ∀ (l : List S3) (i : Nat), i ≤ ws.length → metN ws i l ≤ ws.length
  | [], _, h => h
  | s :: r, i, h => by
    refine metN_le ws r _ ?_
    split
    · rename_i e
      have := (List.getElem?_eq_some_iff.1 e).1
      omega
    · exact h

set_option maxRecDepth 100000 in
set_option maxHeartbeats 64000000 in
theorem bounds_yes (n : Nat) (ao : Option Addr) (cap : Nat) (xs : List (Int × Int × Int)) (w : World) (hX : HasArcs w (.slice ao xs.length cap) xs) (hxl : xs.length ≤ maxLen) (hfew : fewB (n : Int) xs 12 = true) (hg : graphErr (n : Int) xs = (0, [])) (oo : Option Addr) (oc : Nat) (ops : List Op5) (hO : HasOp5 w (.slice oo ops.length oc) ops) (h60 : ops.length ≤ 60) (hwt : ∀ q ∈ ops, 0 ≤ q.2.2.2.1)
    (v o0 o1 o2 o3 o4 : Int) :
    Calls Tryz.prog 4 #[.agg #[.int .i64 (n : Int), .slice ao xs.length cap], .slice oo ops.length oc, .int .i64 v, .agg #[.int .i64 o0, .int .i64 o1, .int .i64 o2, .int .i64 o3, .int .i64 o4]] w fun e w' => e = .returned (.bool true) ∧ Below w.heap.size w w' := by
  have hn12 : n ≤ 12 := by have h := (of_decide_eq_true hfew).2.1; omega
  obtain ⟨W0, hW0⟩ : ∃ W0, (w.alloc (.cells #[.int .i64 (n : Int), .slice ao xs.length cap] 24)).alloc (optObj o0 o1 o2 o3 o4) = W0 := ⟨_, rfl⟩
  obtain ⟨hbx, hk0, hB0⟩ := two_new w (.cells #[.int .i64 (n : Int), .slice ao xs.length cap] 24) (optObj o0 o1 o2 o3 o4)
  rw [hW0] at hbx hk0 hB0
  have HW0 : Hid ((w.alloc (.cells #[.int .i64 (n : Int), .slice ao xs.length cap] 24)).alloc (.cells #[.int .i64 o0, .int .i64 o1, .int .i64 o2, .int .i64 o3, .int .i64 o4] 27) = W0) := hW0
  have HG : Hid (∀ wx, Below W0.heap.size W0 wx → (wx.cell? ⟨w.heap.size, 0, none⟩ = some (.int .i64 (n : Int)) ∧ wx.cell? ⟨w.heap.size, 1, none⟩ = some (.slice ao xs.length cap) ∧ w.heap.size < wx.heap.size) ∧ (wx.cell? ⟨w.heap.size + 1, 0, none⟩ = some (.int .i64 o0) ∧ wx.cell? ⟨w.heap.size + 1, 1, none⟩ = some (.int .i64 o1) ∧ wx.cell? ⟨w.heap.size + 1, 2, none⟩ = some (.int .i64 o2) ∧ wx.cell? ⟨w.heap.size + 1, 3, none⟩ = some (.int .i64 o3) ∧ wx.cell? ⟨w.heap.size + 1, 4, none⟩ = some (.int .i64 o4) ∧ w.heap.size + 1 < wx.heap.size) ∧ Below w.heap.size w wx) := fun wx hwx => by
    have hgg := (hwx.block _ (lt_of_get hbx)).trans hbx
    have hoo := (hwx.block _ (lt_of_get hk0)).trans hk0
    exact ⟨⟨(cell_two hgg).1, (cell_two hgg).2.1, lt_of_get hgg⟩, ⟨(opt_cells hoo).1, (opt_cells hoo).2.1, (opt_all hoo).1, (opt_all hoo).2.1, (opt_all hoo).2.2, lt_of_get hoo⟩, hB0.trans (hwx.mono hB0.size)⟩
  have HLA : Hid (∀ wx, Below W0.heap.size W0 wx → Calls Tryz.prog 13 #[.agg #[.int .i64 (n : Int), .slice ao xs.length cap], .slice oo ops.length oc] wx fun e w' => LaidA n wx e w') := fun wx hwx => laid_yes n ao cap xs wx (hX.keep (HG.out wx hwx).2.2) hxl hfew hg oo oc ops (hO.keep (HG.out wx hwx).2.2) h60 hwt
  have HAW : Hid (type_of% (awake13_calls W0)) := awake13_calls W0
  have HNN : Hid (n ≤ 12) := hn12
  clear hW0 hB0 hbx hk0 hX hO hfew hg hwt
  go_enter Tryz.func4, Tryz.ntmps4
  go_wp2_with fail
  rw [HW0.out]
  refine HAW.out.mono ?_
  rintro e w1 ⟨rfl, hb1⟩
  have HB1 : Hid (Below W0.heap.size W0 w1) := hb1
  clear hb1 HAW
  obtain ⟨⟨g0, g1, gl⟩, _⟩ := HG.out w1 HB1.out
  go_wp2_with fail
  refine (HLA.out w1 HB1.out).mono ?_
  rintro e w2 ⟨pb, PX, bs, R, zs, fo, fc, eo, ec, rfl, hB, ⟨hzb, hzl⟩, hb2⟩
  clear g0 g1 gl
  obtain ⟨W3, hW3⟩ : ∃ W3, w2.alloc (.cells #[.slice fo n fc, .slice eo zs.length ec] 44) = W3 := ⟨_, rfl⟩
  have HW3 : Hid (w2.alloc (.cells #[.slice fo n fc, .slice eo zs.length ec] 44) = W3) := hW3
  have b3 : Below w2.heap.size w2 W3 := by rw [← hW3]; exact bel_one _ _
  have k3 : W3.heap[w2.heap.size]? = some (.cells #[.slice fo n fc, .slice eo zs.length ec] 44) := by rw [← hW3]; exact heap_new _ _
  have H2 : Hid (∀ wx, Below w2.heap.size w2 wx → Both PX w1.heap.size wx pb n bs R zs (.slice fo n fc) (.slice eo zs.length ec) ∧ Below W0.heap.size W0 wx ∧ Below w.heap.size w wx) := fun wx hx => ⟨hB.keep hx, btr HB1.out (btr hb2 hx), (HG.out wx (btr HB1.out (btr hb2 hx))).2.2⟩
  have HTI : Hid (Tied n bs R zs ∧ OvInv n bs R ∧ ZB zs ∧ zs.length ≤ 200000 ∧ bs.length = n) := ⟨hB.tie, hB.ov.inv, hzb, hzl, hB.ov.bl.1⟩
  have HMB : Hid (∀ wx, Below W3.heap.size W3 wx → (wx.cell? ⟨w2.heap.size, 0, none⟩ = some (.slice fo n fc) ∧ wx.cell? ⟨w2.heap.size, 1, none⟩ = some (.slice eo zs.length ec) ∧ w2.heap.size < wx.heap.size)) := fun wx hx => by
    have h := (hx.block _ (lt_of_get k3)).trans k3
    exact ⟨(cell_two h).1, (cell_two h).2.1, lt_of_get h⟩
  have H3 : Hid (Below w2.heap.size w2 W3) := b3
  have HLV : Hid (∀ wx, Below w2.heap.size w2 wx → ∀ x : Int, Calls Tryz.prog 14 #[.agg #[.slice fo n fc, .slice eo zs.length ec], .int .i64 x] wx fun e w' => e = .returned (.bool (aliveB n bs x)) ∧ Below wx.heap.size wx w') := fun wx hx x => lives_calls fo fc n bs hB.ov.bl.1 eo zs.length ec x wx (hB.keep hx).hasFl hB.ov.bl.2
  clear hB hzb hzl hb2 hW3 b3 k3
  obtain ⟨c0, c1, cs⟩ := HMB.out W3 (Below.refl _ _)
  go_upto_region 4 with fail
  rw [HW3.out]
  go_wp2_with fail
  refine (HLV.out W3 H3.out v).mono ?_
  rintro e w4 ⟨rfl, hb4⟩
  have H4 : Hid (Below w2.heap.size w2 w4 ∧ Below W3.heap.size W3 w4) := ⟨btr H3.out hb4, hb4⟩
  have HZ4 : Hid (Below w.heap.size w w4) := (H2.out w4 H4.out.1).2.2
  clear hb4 c0 c1 cs
  obtain ⟨ba, hba⟩ : ∃ ba, aliveB n bs v = ba := ⟨_, rfl⟩
  rw [hba]
  cases ba with
  | false =>
    clear hba
    go_wp2
    go_ret
    exact ⟨by simp, HZ4.out⟩
  | true =>
  obtain ⟨vv, rfl, hvv, hlv⟩ := aliveB_iff.1 hba
  have HV : Hid (vv < n ∧ liv bs vv = true ∧ aliveB n bs (vv : Int) = true) := ⟨hvv, hlv, hba⟩
  clear hba hlv hvv
  obtain ⟨hp, hhp⟩ : ∃ hp, min (max o0 0) 1048576 = hp := ⟨_, rfl⟩
  obtain ⟨sp, hsp⟩ : ∃ sp, min (max o1 0) 1048576 = sp := ⟨_, rfl⟩
  have HNE : Hid (∀ wx, Below w2.heap.size w2 wx → ∀ (p0 p1 p2 p3 p4 hq sq : Int), min (max p0 0) 1048576 = hq → min (max p1 0) 1048576 = sq → Calls Tryz.prog 15 #[.pointer (some ⟨pb, 0, none⟩), .int .i64 (vv : Int), .agg #[.int .i64 p0, .int .i64 p1, .int .i64 p2, .int .i64 p3, .int .i64 p4]] wx fun e w' => ∃ so sc, e = .returned (.tuple #[.slice so (needL n bs R (vv : Int) hq sq).length sc, .nilIface]) ∧ HasSs w' (.slice so (needL n bs R (vv : Int) hq sq).length sc) (needL n bs R (vv : Int) hq sq) ∧ Below wx.heap.size wx w') := fun wx hx p0 p1 p2 p3 p4 hq sq e0 e1 => need_yes (H2.out wx hx).1.ov HTI.out.1 HTI.out.2.2.1 (by have := HNN.out; omega) HV.out.2.2 p0 p1 p2 p3 p4 hq sq e0 e1
  have hf1 := half_few HTI.out.2.1 true (vv : Int)
  have hf2 := half_few HTI.out.2.1 false (vv : Int)
  have hE0 : needL n bs R (vv : Int) 0 1048576 = (outM n bs R true (vv : Int)).flatMap fun i => dearL n bs R i (outM n bs R false (vv : Int)) := flat_congr fun i hi => needI_none HTI.out.1 HTI.out.2.1 HTI.out.2.2.1 HNN.out 1048576 hi
  have hE1 : needL n bs R (vv : Int) 1048576 1048576 = (outM n bs R true (vv : Int)).flatMap fun i => walkL n bs zs (vv : Int) i (outM n bs R false (vv : Int)) := flat_congr fun i hi => needI_all HTI.out.1 HTI.out.2.1 HTI.out.2.2.1 HNN.out hi
  have hE2 : (needL n bs R (vv : Int) 1048576 1048576).Sublist (needL n bs R (vv : Int) hp sp) := flat_sub fun i hi => needI_sub HTI.out.1 HTI.out.2.1 HTI.out.2.2.1 HNN.out hp sp hi
  have hLL : ∀ hq sq, (needL n bs R (vv : Int) hq sq).length ≤ 144 := fun hq sq => by
    have h1 := flat_len (needI n bs R (vv : Int) hq sq) n (outM n bs R true (vv : Int)) (needI_len HTI.out.2.1 _ _ _)
    have h2 := Nat.mul_le_mul (Nat.le_trans hf1 HNN.out) HNN.out
    unfold needL
    omega
  have hN0 := fun wx hx => HNE.out wx hx 0 1048576 0 0 0 0 1048576 (by decide) (by decide)
  have hN1 := fun wx hx => HNE.out wx hx 1048576 1048576 0 0 0 1048576 1048576 (by decide) (by decide)
  have hN2 := fun wx hx => HNE.out wx hx o0 o1 o2 o3 o4 hp sp hhp hsp
  have l0 := hLL 0 1048576
  have l1 := hLL 1048576 1048576
  have l2 := hLL hp sp
  generalize needL n bs R (vv : Int) 0 1048576 = N0 at *
  generalize needL n bs R (vv : Int) 1048576 1048576 = N1 at *
  generalize needL n bs R (vv : Int) hp sp = N2 at *
  have HM : Hid (metN N1 0 N2 = N1.length ∧ N0.length ≤ 144 ∧ N1.length ≤ 144 ∧ N2.length ≤ 144) := ⟨metN_all N2 0 (Nat.zero_le _) (by rw [List.drop_zero]; exact hE2), l0, l1, l2⟩
  have HE : Hid (N0 = (outM n bs R true (vv : Int)).flatMap (fun i => dearL n bs R i (outM n bs R false (vv : Int))) ∧ N1 = (outM n bs R true (vv : Int)).flatMap fun i => walkL n bs zs (vv : Int) i (outM n bs R false (vv : Int))) := ⟨hE0, hE1⟩
  have HHF : Hid ((outM n bs R true (vv : Int)).length ≤ 12 ∧ (outM n bs R false (vv : Int)).length ≤ 12) := ⟨Nat.le_trans hf1 HNN.out, Nat.le_trans hf2 HNN.out⟩
  have HN0 : Hid (type_of% hN0) := hN0
  have HN1 : Hid (type_of% hN1) := hN1
  have HN2 : Hid (type_of% hN2) := hN2
  clear hf1 hf2 hE0 hE1 hE2 hLL hN0 hN1 hN2 l0 l1 l2 HNE hhp hsp
  go_wp2_with fail
  refine (HN0.out w4 H4.out.1).mono ?_
  rintro e w5 ⟨so0, sc0, rfl, hs5, hb5⟩
  have H5 : Hid (Below w4.heap.size w4 w5 ∧ HasSs w5 (.slice so0 N0.length sc0) N0) := ⟨hb5, hs5⟩
  clear hb5 hs5
  go_wp2_with fail
  refine (HN1.out w5 (btr H4.out.1 H5.out.1)).mono ?_
  rintro e w6 ⟨so1, sc1, rfl, hs6, hb6⟩
  have H6 : Hid (Below w4.heap.size w4 w6 ∧ HasSs w6 (.slice so0 N0.length sc0) N0 ∧ HasSs w6 (.slice so1 N1.length sc1) N1) := ⟨btr H5.out.1 hb6, H5.out.2.keep hb6, hs6⟩
  clear hb6 hs6 H5
  obtain ⟨_, ⟨p0, p1, p2, p3, p4, ps⟩, _⟩ := HG.out w6 (H2.out w6 (btr H4.out.1 H6.out.1)).2.1
  go_wp2_with fail
  refine (HN2.out w6 (btr H4.out.1 H6.out.1)).mono ?_
  rintro e w7 ⟨so2, sc2, rfl, hs7, hb7⟩
  have H7 : Hid (Below w4.heap.size w4 w7 ∧ HasSs w7 (.slice so0 N0.length sc0) N0 ∧ HasSs w7 (.slice so1 N1.length sc1) N1 ∧ HasSs w7 (.slice so2 N2.length sc2) N2) := ⟨btr H6.out.1 hb7, H6.out.2.1.keep hb7, H6.out.2.2.keep hb7, hs7⟩
  clear hb7 hs7 H6 p0 p1 p2 p3 p4 ps HN0 HN1 HN2
  obtain ⟨c0, c1, cs⟩ := HMB.out w7 (btr H4.out.2 H7.out.1)
  have HRM : Hid (type_of% (rRemove11_calls fo n fc bs HTI.out.2.2.2.2 (by have := HNN.out; omega) eo ec zs vv HV.out.1 w7 (H2.out w7 (btr H4.out.1 H7.out.1)).1.hasFl (H2.out w7 (btr H4.out.1 H7.out.1)).1.hasA4 (by have := HTI.out.2.2.2.1; omega))) := rRemove11_calls fo n fc bs HTI.out.2.2.2.2 (by have := HNN.out; omega) eo ec zs vv HV.out.1 w7 (H2.out w7 (btr H4.out.1 H7.out.1)).1.hasFl (H2.out w7 (btr H4.out.1 H7.out.1)).1.hasA4 (by have := HTI.out.2.2.2.1; omega)
  go_wp2_with fail
  refine HRM.out.mono ?_
  rintro e w8 ⟨hb8, fb, fd, ro, rc, rfl, hof, hoa⟩
  have HDI : Hid (Calls Tryz.prog 12 #[.agg #[.slice (some ⟨fb, 0, none⟩) n fd, .slice ro (remZ zs (vv : Int)).length rc]] w8 fun e w' => ∃ db rs, e = .returned (.slice (some ⟨db, 0, none⟩) n n) ∧ Dt.MatP w8.heap.size w' db n n rs (distX n bs zs (vv : Int)) ∧ Below w8.heap.size w8 w') := by
    have h1 := fineX (skip := (vv : Int)) HTI.out.1 HTI.out.2.2.1
    have h2 := endsX (skip := (vv : Int)) HTI.out.1
    have e1 : bsX n bs (vv : Int) = bs.set vv false := by unfold bsX; rw [if_pos HV.out.2.2, Int.toNat_natCast]
    have e2 : zsX n bs zs (vv : Int) = remZ zs (vv : Int) := by unfold zsX; rw [if_pos HV.out.2.2]
    unfold distX
    rw [e1, e2] at h1 ⊢
    rw [e2] at h2
    exact Dt.dist_calls n HNN.out (some ⟨fb, 0, none⟩) fd (bs.set vv false) (by rw [List.length_set]; exact HTI.out.2.2.2.2) ro (remZ zs (vv : Int)).length rc (remZ zs (vv : Int)) w8 (fl_of_row (by rw [List.length_set]; exact HTI.out.2.2.2.2) hof) (a4_of_row hoa) rfl h2 h1 (by have := HTI.out.2.2.2.1; have := remZ_len zs (vv : Int); omega)
  have H8 : Hid (Below w7.heap.size w7 w8) := hb8
  clear hb8 hof hoa HRM
  go_wp2_with fail
  refine HDI.out.mono ?_
  rintro e w9 ⟨db, rs, rfl, hM, hb9⟩
  have H9 : Hid (Below w7.heap.size w7 w9 ∧ Below w4.heap.size w4 w9 ∧ Dt.MatP w8.heap.size w9 db n n rs (distX n bs zs (vv : Int))) := ⟨btr H8.out hb9, btr H7.out.1 (btr H8.out hb9), hM⟩
  clear hb9 hM HDI H8 c0 c1 cs
  obtain ⟨c0, c1, cs⟩ := HMB.out w9 (btr H4.out.2 H9.out.2.1)
  have HIN : Hid (type_of% ((H2.out w9 (btr H4.out.1 H9.out.2.1)).1.rin (by have := HTI.out.2.2.2.1; omega) (vv : Int))) := (H2.out w9 (btr H4.out.1 H9.out.2.1)).1.rin (by have := HTI.out.2.2.2.1; omega) (vv : Int)
  go_wp2_with fail
  refine HIN.out.mono ?_
  rintro e w10 ⟨io, ic, rfl, hi10, hb10⟩
  have HOL : Hid (∀ wx, Below w10.heap.size w10 wx → (wx.cell? ⟨w2.heap.size, 0, none⟩ = some (.slice fo n fc) ∧ wx.cell? ⟨w2.heap.size, 1, none⟩ = some (.slice eo zs.length ec) ∧ w2.heap.size < wx.heap.size) ∧ Both PX w1.heap.size wx pb n bs R zs (.slice fo n fc) (.slice eo zs.length ec) ∧ HasHs wx (.slice io (outM n bs R true (vv : Int)).length ic) (outM n bs R true (vv : Int)) ∧ Dt.MatP w8.heap.size wx db n n rs (distX n bs zs (vv : Int)) ∧ (HasSs wx (.slice so0 N0.length sc0) N0 ∧ HasSs wx (.slice so1 N1.length sc1) N1 ∧ HasSs wx (.slice so2 N2.length sc2) N2) ∧ Below w.heap.size w wx) := fun wx hx => by
    have hx9 := btr hb10 hx
    have hx4 := btr H9.out.2.1 hx9
    exact ⟨HMB.out wx (btr H4.out.2 hx4), (H2.out wx (btr H4.out.1 hx4)).1, hi10.keep hx, H9.out.2.2.keep hx9, ⟨H7.out.2.1.keep (btr H9.out.1 hx9), H7.out.2.2.1.keep (btr H9.out.1 hx9), H7.out.2.2.2.keep (btr H9.out.1 hx9)⟩, (H2.out wx (btr H4.out.1 hx4)).2.2⟩
  have HOKI : Hid ((∀ a ∈ outM n bs R true (vv : Int), (0 ≤ a.2.1 ∧ a.2.1 ≤ 140737488355328) ∧ ∃ m : Nat, a.1 = (m : Int) ∧ m < n) ∧ ∀ a ∈ outM n bs R false (vv : Int), (0 ≤ a.2.1 ∧ a.2.1 ≤ 140737488355328) ∧ ∃ m : Nat, a.1 = (m : Int) ∧ m < n) := by
    have key : ∀ (s : Bool), ∀ a ∈ outM n bs R s (vv : Int), (0 ≤ a.2.1 ∧ a.2.1 ≤ 140737488355328) ∧ ∃ m : Nat, a.1 = (m : Int) ∧ m < n := fun s a ha => by
      obtain ⟨h1, h2, _⟩ := half_ok HTI.out.1 HTI.out.2.1 HTI.out.2.2.1 ha
      obtain ⟨m, e, hm, _⟩ := aliveB_iff.1 h2
      exact ⟨h1, m, e, hm⟩
    exact ⟨key true, key false⟩
  have HROU : Hid (∀ wx, Below w10.heap.size w10 wx → Calls Tryz.prog 18 #[.agg #[.slice fo n fc, .slice eo zs.length ec], .int .i64 (vv : Int)] wx fun e w' => ∃ so sc, e = .returned (.slice so (outM n bs R false (vv : Int)).length sc) ∧ w'.ownsRow wx.heap.size 63 3 (.slice so (outM n bs R false (vv : Int)).length sc) (outM n bs R false (vv : Int)).length (flatH (outM n bs R false (vv : Int))) ∧ Below wx.heap.size wx w') := fun wx hx => (HOL.out wx hx).2.1.routO (by have := HTI.out.2.2.2.1; omega) (vv : Int)
  have HWTC : Hid (∀ wx, Below w10.heap.size w10 wx → ∀ x y : Int, Calls Tryz.prog 19 #[.agg #[.slice fo n fc, .slice eo zs.length ec], .int .i64 x, .int .i64 y] wx fun e w' => e = .returned (.tuple #[.int .u64 ((weightM n bs R x y).getD 0), .bool (weightM n bs R x y).isSome]) ∧ Below wx.heap.size wx w') := fun wx hx x y => (HOL.out wx hx).2.1.rweight (by have := HTI.out.2.2.2.1; omega) x y
  have HDEF : Hid ((∀ i y, dearB n bs R i y = (decide (y.1 ≠ i.1) && decide (i.2.1 + y.2.1 ≤ 140737488355328) && !hasA n bs R (i.1, y.1, i.2.1 + y.2.1))) ∧ (∀ i y, walkB n bs zs (vv : Int) i y = (decide (y.1 ≠ i.1) && decide (i.2.1 + y.2.1 ≤ 140737488355328) && decide (i.2.1 + y.2.1 < distX n bs zs (vv : Int) i.1.toNat y.1.toNat))) ∧ ∀ x y s : Int, hasA n bs R (x, y, s) = hasO (weightM n bs R x y) s) := ⟨fun _ _ => rfl, fun _ _ => rfl, fun _ _ _ => rfl⟩
  clear hi10 hb10 HIN c0 c1 cs H9 H7
  generalize outM n bs R true (vv : Int) = ins at *
  generalize outM n bs R false (vv : Int) = outs at *
  generalize distX n bs zs (vv : Int) = DX at *
  have HT0 : Hid (TwoG w10.heap.size 0 0 w10 w10 w10 (.slice none 0 0) [] (.slice none 0 0) []) := two_start w10
  go_wp2_with fail
  go_loopw [88, 19, 20] (fun iv av wv wr => ∃ (k : Nat) (ro : Option Addr) (rc : Nat) (qo : Option Addr) (qc : Nat), k ≤ ins.length ∧ iv = .int .i64 k ∧ av = .slice ro ((ins.take k).flatMap (fun i => dearL n bs R i outs)).length rc ∧ wv = .slice qo ((ins.take k).flatMap (fun i => walkL n bs zs (vv : Int) i outs)).length qc ∧ TwoG w10.heap.size 0 0 w10 w10 wr (.slice ro ((ins.take k).flatMap (fun i => dearL n bs R i outs)).length rc) ((ins.take k).flatMap (fun i => dearL n bs R i outs)) (.slice qo ((ins.take k).flatMap (fun i => walkL n bs zs (vv : Int) i outs)).length qc) ((ins.take k).flatMap (fun i => walkL n bs zs (vv : Int) i outs))) (fun iv _ _ _ => ins.length - (intOf iv).toNat)
  case atStart => exact ⟨0, none, 0, none, 0, Nat.zero_le _, rfl, rfl, rfl, HT0.out⟩
  case round =>
    obtain ⟨k, ro, rc, qo, qc, hk, rfl, rfl, rfl, hT⟩ := hrel
    have HT : Hid (type_of% hT) := hT
    clear hT
    by_cases hlt : k < ins.length
    · obtain ⟨a, ha⟩ : ∃ a, ins[k]? = some a := ⟨ins[k], List.getElem?_eq_getElem hlt⟩
      obtain ⟨ob, hob, p0, p1, p2, hold⟩ : ∃ b, (∃ off, io = some ⟨b, off, none⟩ ∧ b < wr.heap.size ∧ wr.cell? ⟨b, off + k * 3, none⟩ = some (.int .i64 a.1) ∧ wr.cell? ⟨b, off + k * 3 + 1, none⟩ = some (.int .u64 a.2.1) ∧ wr.cell? ⟨b, off + k * 3 + 2, none⟩ = some (.int .i64 a.2.2)) ∧ True ∧ True ∧ True ∧ True := by
        obtain ⟨b, off, e, h1, h2, h3, h4⟩ := (HOL.out wr HT.out.below).2.2.1.at ha
        exact ⟨b, ⟨off, e, h1, h2, h3, h4⟩, trivial, trivial, trivial, trivial⟩
      clear p0 p1 p2 hold
      obtain ⟨off, hio, bl, p0, p1, p2⟩ := hob
      subst hio
      obtain ⟨ha1, u, hau, hun⟩ := HOKI.out.1 a (List.mem_of_getElem? ha)
      have HSA : Hid ((ins.take (k + 1)).flatMap (fun i => dearL n bs R i outs) = (ins.take k).flatMap (fun i => dearL n bs R i outs) ++ dearL n bs R a outs) := by
        show _ = _
        rw [List.take_add_one, ha, List.flatMap_append]
        simp
      have HSW : Hid ((ins.take (k + 1)).flatMap (fun i => walkL n bs zs (vv : Int) i outs) = (ins.take k).flatMap (fun i => walkL n bs zs (vv : Int) i outs) ++ walkL n bs zs (vv : Int) a outs) := by
        show _ = _
        rw [List.take_add_one, ha, List.flatMap_append]
        simp
      have HPL : Hid (((ins.take k).flatMap (fun i => dearL n bs R i outs)).length ≤ 144 ∧ ((ins.take k).flatMap (fun i => walkL n bs zs (vv : Int) i outs)).length ≤ 144) := by
        have h0 : (ins.take k).length ≤ 12 := by rw [List.length_take]; have := HHF.out.1; omega
        have h1 := flat_len (fun i => dearL n bs R i outs) 12 (ins.take k) (fun i => Nat.le_trans (dearL_len n bs R i outs) HHF.out.2)
        have h2 := flat_len (fun i => walkL n bs zs (vv : Int) i outs) 12 (ins.take k) (fun i => Nat.le_trans (walkL_len n bs zs _ i outs) HHF.out.2)
        exact ⟨by omega, by omega⟩
      obtain ⟨a0, a1, a2⟩ := a
      simp only at p0 p1 p2 hau ha1
      subst hau
      generalize (ins.take k).flatMap (fun i => dearL n bs R i outs) = PA at *
      generalize (ins.take k).flatMap (fun i => walkL n bs zs (vv : Int) i outs) = PW at *
      obtain ⟨W11, hW11⟩ : ∃ W11, wr.alloc (.cells #[.int .i64 (u : Int), .int .u64 a1, .int .i64 a2] 63) = W11 := ⟨_, rfl⟩
      have HW11 : Hid (wr.alloc (.cells #[.int .i64 (u : Int), .int .u64 a1, .int .i64 a2] 63) = W11) := hW11
      have hb11 : Below wr.heap.size wr W11 := by rw [← hW11]; exact bel_one _ _
      have k11 : W11.heap[wr.heap.size]? = some (.cells #[.int .i64 (u : Int), .int .u64 a1, .int .i64 a2] 63) := by rw [← hW11]; exact heap_new _ _
      have hbw11 : Below w10.heap.size w10 W11 := (HT.out.later hb11).below
      have HRO : Hid (type_of% (HROU.out W11 hbw11)) := HROU.out W11 hbw11
      obtain ⟨⟨c0, c1, cs⟩, _⟩ := HOL.out W11 hbw11
      have HK11 : Hid (W11.heap[wr.heap.size]? = some (.cells #[.int .i64 (u : Int), .int .u64 a1, .int .i64 a2] 63) ∧ Below wr.heap.size wr W11) := ⟨k11, hb11⟩
      have HUN : Hid (u < n ∧ 0 ≤ a1 ∧ a1 ≤ 140737488355328) := ⟨hun, ha1.1, ha1.2⟩
      have i1 : (k : Int) < (ins.length : Int) := by omega
      have i2 : (0 : Int) ≤ (k : Int) := by omega
      have hk12 : ins.length ≤ 12 := HHF.out.1
      clear ha hW11 hb11 k11 hbw11 hun ha1
      go_upto_region 16 with fail
      rw [HW11.out]
      clear p0 p1 p2 bl
      go_wp2_with fail
      refine HRO.out.mono ?_
      rintro e w12 ⟨xo, xc, rfl, ho12, hb12⟩
      have HTH : Hid (TwoG w10.heap.size wr.heap.size w12.heap.size w10 w12 w12 (.slice ro PA.length rc) PA (.slice qo PW.length qc) PW) := HT.out.hole (btr HK11.out.2 hb12)
      have HKP : Hid (∀ wx : World, (∀ j, wr.heap.size ≤ j → j < w12.heap.size → wx.heap[j]? = w12.heap[j]?) → w12.heap.size ≤ wx.heap.size → (wx.cell? ⟨wr.heap.size, 0, none⟩ = some (.int .i64 (u : Int)) ∧ wx.cell? ⟨wr.heap.size, 1, none⟩ = some (.int .u64 a1) ∧ wr.heap.size < wx.heap.size) ∧ HasHs wx (.slice xo outs.length xc) outs) := fun wx hkp hsz => by
        have q1 : w12.heap[wr.heap.size]? = some (.cells #[.int .i64 (u : Int), .int .u64 a1, .int .i64 a2] 63) := (hb12.block _ (lt_of_get HK11.out.1)).trans HK11.out.1
        have q2 := (hkp wr.heap.size (Nat.le_refl _) (lt_of_get q1)).trans q1
        have q3 := HK11.out.2.size
        exact ⟨⟨by simp [World.cell?, q2], by simp [World.cell?, q2], lt_of_get q2⟩, hs_of_rowR (row_keep9 ho12 fun g hg => hkp g (by have := (ho12.lt g hg).1; omega) (ho12.lt g hg).2)⟩
      clear ho12 hb12 c0 c1 cs HRO HT HT0
      generalize hWX : wr = wo at *
      clear hWX
      go_wp2_with fail
      go_loopw [96, 19, 20] (fun jv av wv wx => ∃ (j : Nat) (ro : Option Addr) (rc : Nat) (qo : Option Addr) (qc : Nat), j ≤ outs.length ∧ jv = .int .i64 j ∧ av = .slice ro (PA ++ dearL n bs R ((u : Int), a1, a2) (outs.take j)).length rc ∧ wv = .slice qo (PW ++ walkL n bs zs (vv : Int) ((u : Int), a1, a2) (outs.take j)).length qc ∧ TwoG w10.heap.size wo.heap.size w12.heap.size w10 w12 wx (.slice ro (PA ++ dearL n bs R ((u : Int), a1, a2) (outs.take j)).length rc) (PA ++ dearL n bs R ((u : Int), a1, a2) (outs.take j)) (.slice qo (PW ++ walkL n bs zs (vv : Int) ((u : Int), a1, a2) (outs.take j)).length qc) (PW ++ walkL n bs zs (vv : Int) ((u : Int), a1, a2) (outs.take j))) (fun jv _ _ _ => outs.length - (intOf jv).toNat)
      case atStart =>
        have e1 : PA ++ dearL n bs R ((u : Int), a1, a2) (outs.take 0) = PA := by rw [List.take_zero]; show PA ++ [] = PA; rw [List.append_nil]
        have e2 : PW ++ walkL n bs zs (vv : Int) ((u : Int), a1, a2) (outs.take 0) = PW := by rw [List.take_zero]; show PW ++ [] = PW; rw [List.append_nil]
        refine ⟨0, ro, rc, qo, qc, Nat.zero_le _, rfl, ?_⟩
        rw [e1, e2]
        exact ⟨rfl, rfl, HTH.out⟩
      case round =>
        obtain ⟨j, ro, rc, qo, qc, hj, rfl, rfl, rfl, hT⟩ := hrel
        have HT : Hid (type_of% hT) := hT
        clear hT
        by_cases hjl : j < outs.length
        · obtain ⟨y, hy⟩ : ∃ y, outs[j]? = some y := ⟨outs[j], List.getElem?_eq_getElem hjl⟩
          obtain ⟨yb, off', hxo, bl', r0, r1, r2⟩ := (HKP.out wr HT.out.keep HT.out.size).2.at hy
          subst hxo
          obtain ⟨hy1, m, hym, hmn⟩ := HOKI.out.2 y (List.mem_of_getElem? hy)
          have HLA2 : Hid (type_of% (dearL_succ (n := n) (bs := bs) (R := R) (i := ((u : Int), a1, a2)) hy)) := dearL_succ (n := n) (bs := bs) (R := R) (i := ((u : Int), a1, a2)) hy
          have HLW2 : Hid (type_of% (walkL_succ (n := n) (bs := bs) (zs := zs) (v := (vv : Int)) (i := ((u : Int), a1, a2)) hy)) := walkL_succ (n := n) (bs := bs) (zs := zs) (v := (vv : Int)) (i := ((u : Int), a1, a2)) hy
          have HPL2 : Hid ((PA ++ dearL n bs R ((u : Int), a1, a2) (outs.take j)).length ≤ 200 ∧ (PW ++ walkL n bs zs (vv : Int) ((u : Int), a1, a2) (outs.take j)).length ≤ 200) := by
            have h1 := dearL_len n bs R ((u : Int), a1, a2) (outs.take j)
            have h2 := walkL_len n bs zs (vv : Int) ((u : Int), a1, a2) (outs.take j)
            have h3 : (outs.take j).length ≤ 12 := by rw [List.length_take]; have := HHF.out.2; omega
            have h4 := HPL.out
            rw [List.length_append, List.length_append]
            exact ⟨by omega, by omega⟩
          have HDB := HDEF.out.1 ((u : Int), a1, a2) y
          have HWB := HDEF.out.2.1 ((u : Int), a1, a2) y
          generalize hAL : PA ++ dearL n bs R ((u : Int), a1, a2) (outs.take j) = AL at *
          generalize hWL : PW ++ walkL n bs zs (vv : Int) ((u : Int), a1, a2) (outs.take j) = WL at *
          have HAL : Hid (PA ++ dearL n bs R ((u : Int), a1, a2) (outs.take j) = AL ∧ PW ++ walkL n bs zs (vv : Int) ((u : Int), a1, a2) (outs.take j) = WL) := ⟨hAL, hWL⟩
          clear hAL hWL
          obtain ⟨y0, y1, y2⟩ := y
          simp only at r0 r1 r2 hym hy1 HDB HWB
          subst hym
          obtain ⟨s, hs⟩ : ∃ s, a1 + y1 = s := ⟨_, rfl⟩
          have hsb : 0 ≤ s ∧ s ≤ 281474976710656 := by have := HUN.out; omega
          have iw : IntKind.u64.wrap (a1 + y1) = s := by rw [IntKind.wrap_u64]; omega
          have HHS := HDEF.out.2.2 (u : Int) (m : Int) s
          rw [hs] at HDB HWB
          have HBB : Hid (dearB n bs R ((u : Int), a1, a2) ((m : Int), y1, y2) = (decide ((m : Int) ≠ (u : Int)) && decide (s ≤ 140737488355328) && !hasA n bs R ((u : Int), (m : Int), s)) ∧ walkB n bs zs (vv : Int) ((u : Int), a1, a2) ((m : Int), y1, y2) = (decide ((m : Int) ≠ (u : Int)) && decide (s ≤ 140737488355328) && decide (s < DX u m)) ∧ wayOf ((u : Int), a1, a2) ((m : Int), y1, y2) = ((u : Int), (m : Int), s)) := ⟨HDB, by rw [HWB, Int.toNat_natCast, Int.toNat_natCast], by show ((u : Int), (m : Int), a1 + y1) = _; rw [hs]⟩
          obtain ⟨Wy, hWy⟩ : ∃ Wy, wr.alloc (.cells #[.int .i64 (m : Int), .int .u64 y1, .int .i64 y2] 63) = Wy := ⟨_, rfl⟩
          have HWY : Hid (wr.alloc (.cells #[.int .i64 (m : Int), .int .u64 y1, .int .i64 y2] 63) = Wy) := hWy
          have hby : Below wr.heap.size wr Wy := by rw [← hWy]; exact bel_one _ _
          have ky : Wy.heap[wr.heap.size]? = some (.cells #[.int .i64 (m : Int), .int .u64 y1, .int .i64 y2] 63) := by rw [← hWy]; exact heap_new _ _
          have HBY : Hid (∀ wx, Below Wy.heap.size Wy wx → (wx.cell? ⟨wr.heap.size, 0, none⟩ = some (.int .i64 (m : Int)) ∧ wx.cell? ⟨wr.heap.size, 1, none⟩ = some (.int .u64 y1) ∧ wr.heap.size < wx.heap.size) ∧ (wx.cell? ⟨wo.heap.size, 0, none⟩ = some (.int .i64 (u : Int)) ∧ wx.cell? ⟨wo.heap.size, 1, none⟩ = some (.int .u64 a1) ∧ wo.heap.size < wx.heap.size) ∧ wx.heap[wr.heap.size]? = some (.cells #[.int .i64 (m : Int), .int .u64 y1, .int .i64 y2] 63) ∧ Below wr.heap.size wr wx) := fun wx hx => by
            have hq := (hx.block _ (lt_of_get ky)).trans ky
            have hb := btr hby hx
            have hl := HT.out.later hb
            exact ⟨⟨by simp [World.cell?, hq], by simp [World.cell?, hq], lt_of_get hq⟩, (HKP.out wx hl.keep hl.size).1, hq, hb⟩
          have hbel := (HT.out.later hby).below
          have HWC : Hid (type_of% (HWTC.out Wy hbel (u : Int) (m : Int))) := HWTC.out Wy hbel (u : Int) (m : Int)
          obtain ⟨⟨c0, c1, cs⟩, _⟩ := HOL.out Wy hbel
          obtain ⟨⟨d0, d1, ds⟩, ⟨e0, e1, es⟩, _⟩ := HBY.out Wy (Below.refl _ _)
          obtain ⟨ow, how⟩ : ∃ ow, weightM n bs R (u : Int) (m : Int) = ow := ⟨_, rfl⟩
          rw [how] at HWC HHS
          have HHW : Hid (hasA n bs R ((u : Int), (m : Int), s) = hasO ow s) := HHS
          have j1 : (j : Int) < (outs.length : Int) := by omega
          have j2 : (0 : Int) ≤ (j : Int) := by omega
          have hj12 : outs.length ≤ 12 := HHF.out.2
          have HMN : Hid (m < n ∧ 0 ≤ y1 ∧ y1 ≤ 140737488355328) := ⟨hmn, hy1.1, hy1.2⟩
          clear hy hWy hby ky hbel how HHS HDB HWB hy1 hmn
          go_upto_region 19 with fail
          rw [HWY.out]
          clear r0 r1 r2 bl'
          go_wp2_with fail
          refine HWC.out.mono ?_
          rintro e w6 ⟨rfl, hb6⟩
          have H6 : Hid (Below Wy.heap.size Wy w6) := hb6
          clear c0 c1 cs d0 d1 ds e0 e1 es hb6 HWC
          obtain ⟨⟨d0, d1, ds⟩, ⟨e0, e1, es⟩, _⟩ := HBY.out w6 H6.out
          by_cases hmu : (u : Int) = (m : Int)
          · have HE : Hid (PA ++ dearL n bs R ((u : Int), a1, a2) (outs.take (j + 1)) = AL ∧ PW ++ walkL n bs zs (vv : Int) ((u : Int), a1, a2) (outs.take (j + 1)) = WL) := by
              have hn : decide ((m : Int) ≠ (u : Int)) = false := decide_eq_false (fun h => h hmu.symm)
              refine ⟨?_, ?_⟩
              · rw [HLA2.out, HBB.out.1, hn, ← HAL.out.1]; simp
              · rw [HLW2.out, HBB.out.2.1, hn, ← HAL.out.2]; simp
            have g1 : ((u : Int) == (m : Int)) = true := by simpa using hmu
            have HTL : Hid (type_of% (HT.out.later (HBY.out w6 H6.out).2.2.2)) := HT.out.later (HBY.out w6 H6.out).2.2.2
            clear hmu
            go_wp2
            go_roundw
            case rel =>
              refine ⟨j + 1, ro, rc, qo, qc, by omega, by go_num, ?_⟩
              rw [HE.out.1, HE.out.2]
              exact ⟨rfl, rfl, HTL.out⟩
            case measure => simp [intOf]; omega
          · have g1 : ((u : Int) == (m : Int)) = false := by simpa using hmu
            have hmu2 : (m : Int) ≠ (u : Int) := fun e => hmu e.symm
            by_cases hmx : 140737488355328 < s
            · have HE : Hid (PA ++ dearL n bs R ((u : Int), a1, a2) (outs.take (j + 1)) = AL ∧ PW ++ walkL n bs zs (vv : Int) ((u : Int), a1, a2) (outs.take (j + 1)) = WL) := by
                have hn : decide (s ≤ 140737488355328) = false := decide_eq_false (by omega)
                refine ⟨?_, ?_⟩
                · rw [HLA2.out, HBB.out.1, hn, ← HAL.out.1]; simp
                · rw [HLW2.out, HBB.out.2.1, hn, ← HAL.out.2]; simp
              have g2 : decide (140737488355328 < s) = true := decide_eq_true hmx
              have HTL : Hid (type_of% (HT.out.later (HBY.out w6 H6.out).2.2.2)) := HT.out.later (HBY.out w6 H6.out).2.2.2
              clear hmu
              go_wp2
              go_roundw
              case rel =>
                refine ⟨j + 1, ro, rc, qo, qc, by omega, by go_num, ?_⟩
                rw [HE.out.1, HE.out.2]
                exact ⟨rfl, rfl, HTL.out⟩
              case measure => simp [intOf]; omega
            · have g2 : decide (140737488355328 < s) = false := decide_eq_false hmx
              have HD1 : Hid (dearL n bs R ((u : Int), a1, a2) (outs.take (j + 1)) = dearL n bs R ((u : Int), a1, a2) (outs.take j) ++ (if hasO ow s then [] else [((u : Int), (m : Int), s)]) ∧ walkL n bs zs (vv : Int) ((u : Int), a1, a2) (outs.take (j + 1)) = walkL n bs zs (vv : Int) ((u : Int), a1, a2) (outs.take j) ++ (if decide (s < DX u m) then [((u : Int), (m : Int), s)] else [])) := by
                have hn : decide (s ≤ 140737488355328) = true := decide_eq_true (by omega)
                refine ⟨?_, ?_⟩
                · rw [HLA2.out, HBB.out.1, hn, decide_eq_true hmu2, HHW.out, HBB.out.2.2]
                  cases hasO ow s <;> rfl
                · rw [HLW2.out, HBB.out.2.1, hn, decide_eq_true hmu2, HBB.out.2.2]
                  simp
              obtain ⟨W7, hW7⟩ : ∃ W7, w6.alloc (.cells #[.int .i64 (u : Int), .int .i64 (m : Int), .int .u64 s] 67) = W7 := ⟨_, rfl⟩
              have HW7 : Hid (w6.alloc (.cells #[.int .i64 (u : Int), .int .i64 (m : Int), .int .u64 s] 67) = W7) := hW7
              have hb7 : Below w6.heap.size w6 W7 := by rw [← hW7]; exact bel_one _ _
              have k7 : W7.heap[w6.heap.size]? = some (.cells #[.int .i64 (u : Int), .int .i64 (m : Int), .int .u64 s] 67) := by rw [← hW7]; exact heap_new _ _
              have hb67 := btr H6.out hb7
              have H7 : Hid (TwoG w10.heap.size wo.heap.size w12.heap.size w10 w12 W7 (.slice ro AL.length rc) AL (.slice qo WL.length qc) WL ∧ W7.heap[wr.heap.size]? = some (.cells #[.int .i64 (m : Int), .int .u64 y1, .int .i64 y2] 63) ∧ W7.heap[w6.heap.size]? = some (.cells #[.int .i64 (u : Int), .int .i64 (m : Int), .int .u64 s] 67) ∧ wr.heap.size ≤ w6.heap.size) := ⟨HT.out.later (HBY.out W7 hb67).2.2.2, (HBY.out W7 hb67).2.2.1, k7, (HBY.out w6 H6.out).2.2.2.size⟩
              clear hmu hmu2 hW7 hb7 k7 hb67
              go_upto_region 23 with fail
              rw [HW7.out]
              clear d0 d1 ds e0 e1 es
              have hcs : ow = none ∨ (∃ k9, ow = some k9 ∧ s < k9) ∨ ∃ k9, ow = some k9 ∧ k9 ≤ s := by
                cases ow with
                | none => exact Or.inl rfl
                | some k9 =>
                  rcases Int.lt_or_le s k9 with h | h
                  · exact Or.inr (Or.inl ⟨k9, rfl, h⟩)
                  · exact Or.inr (Or.inr ⟨k9, rfl, h⟩)
              have f0 : W7.cell? ⟨w6.heap.size, 0, none⟩ = some (.int .i64 (u : Int)) := by simp [World.cell?, H7.out.2.2.1]
              have f1 : W7.cell? ⟨w6.heap.size, 1, none⟩ = some (.int .i64 (m : Int)) := by simp [World.cell?, H7.out.2.2.1]
              have f2 : W7.cell? ⟨w6.heap.size, 2, none⟩ = some (.int .u64 s) := by simp [World.cell?, H7.out.2.2.1]
              have fs := lt_of_get H7.out.2.2.1
              have hbo : Below W7.heap.size W7 (W7.alloc (.cells #[.int .i64 (u : Int), .int .i64 (m : Int), .int .u64 s] 67)) := bel_one _ _
              have HAP : Hid (TwoG w10.heap.size wo.heap.size w12.heap.size w10 w12 (W7.alloc (.cells #[.int .i64 (u : Int), .int .i64 (m : Int), .int .u64 s] 67)) (.slice ro AL.length rc) AL (.slice qo WL.length qc) WL ∧ HasSs (W7.alloc (.cells #[.int .i64 (u : Int), .int .i64 (m : Int), .int .u64 s] 67)) (.slice (some ⟨W7.heap.size, 0, none⟩) 1 1) [((u : Int), (m : Int), s)] ∧ (W7.alloc (.cells #[.int .i64 (u : Int), .int .i64 (m : Int), .int .u64 s] 67)).heap[wr.heap.size]? = some (.cells #[.int .i64 (m : Int), .int .u64 y1, .int .i64 y2] 63) ∧ (W7.alloc (.cells #[.int .i64 (u : Int), .int .i64 (m : Int), .int .u64 s] 67)).heap[w6.heap.size]? = some (.cells #[.int .i64 (u : Int), .int .i64 (m : Int), .int .u64 s] 67) ∧ w10.heap.size ≤ (W7.alloc (.cells #[.int .i64 (u : Int), .int .i64 (m : Int), .int .u64 s] 67)).heap.size) := ⟨H7.out.1.later hbo, ss_one W7 ((u : Int), (m : Int), s) _, (hbo.block _ (lt_of_get H7.out.2.1)).trans H7.out.2.1, (hbo.block _ (lt_of_get H7.out.2.2.1)).trans H7.out.2.2.1, Nat.le_trans H7.out.1.below.size hbo.size⟩
              clear hbo
              rcases hcs with how | how | how
              case' inl =>
                subst how
                have HE1 : Hid (PA ++ dearL n bs R ((u : Int), a1, a2) (outs.take (j + 1)) = AL ++ [((u : Int), (m : Int), s)]) := by
                  show _ = _
                  rw [HD1.out.1, ← HAL.out.1, List.append_assoc]
                  rfl
                go_wp2_with (at_builtin; refine wpList_append_rsA rfl _ _ rfl w10.heap.size (.slice ro AL.length rc) AL rfl HAP.out.1.rowA ⟨W7.heap.size, 0, none⟩ 1 [((u : Int), (m : Int), s)] rfl HAP.out.2.1 (by have := HPL2.out.1; simp only [List.length_cons, List.length_nil]; omega) HAP.out.2.2.2.2 ?_; intro v8 w8 hown8 hgr8 hv8; obtain ⟨ro8, rc8, hv9⟩ := ssr_slice hown8; subst hv9; have H8 : Hid (TwoG w10.heap.size wo.heap.size w12.heap.size w10 w12 w8 (.slice ro8 (AL ++ [((u : Int), (m : Int), s)]).length rc8) (AL ++ [((u : Int), (m : Int), s)]) (.slice qo WL.length qc) WL ∧ w8.heap[wr.heap.size]? = some (.cells #[.int .i64 (m : Int), .int .u64 y1, .int .i64 y2] 63) ∧ w8.heap[w6.heap.size]? = some (.cells #[.int .i64 (u : Int), .int .i64 (m : Int), .int .u64 s] 67)) := ⟨HAP.out.1.addA hown8 hgr8 hv8, (hgr8.block _ (lt_of_get HAP.out.2.2.1) (fun e => by have := (HT.out.rowA.lt _ e.symm).2; omega)).trans HAP.out.2.2.1, (hgr8.block _ (lt_of_get HAP.out.2.2.2.1) (fun e => by have := (HT.out.rowA.lt _ e.symm).2; have := H7.out.2.2.2; omega)).trans HAP.out.2.2.2.1⟩; clear hown8 hgr8 hv8)
                generalize hA8 : AL ++ [((u : Int), (m : Int), s)] = A8 at *
                have HN8 : Hid (A8.length = AL.length + 1) := by show _ = _; rw [← hA8, List.length_append]; rfl
                generalize AL.length + 1 = n8 at *
                clear hA8
              case' inr.inl =>
                obtain ⟨k9, how, hk9⟩ := how
                subst how
                have r9 : decide (s < k9) = true := decide_eq_true hk9
                have HE1 : Hid (PA ++ dearL n bs R ((u : Int), a1, a2) (outs.take (j + 1)) = AL ++ [((u : Int), (m : Int), s)]) := by
                  have hn : hasO (some k9) s = false := decide_eq_false (by omega)
                  show _ = _
                  rw [HD1.out.1, ← HAL.out.1, List.append_assoc, hn]
                  rfl
                go_wp2_with (at_builtin; refine wpList_append_rsA rfl _ _ rfl w10.heap.size (.slice ro AL.length rc) AL rfl HAP.out.1.rowA ⟨W7.heap.size, 0, none⟩ 1 [((u : Int), (m : Int), s)] rfl HAP.out.2.1 (by have := HPL2.out.1; simp only [List.length_cons, List.length_nil]; omega) HAP.out.2.2.2.2 ?_; intro v8 w8 hown8 hgr8 hv8; obtain ⟨ro8, rc8, hv9⟩ := ssr_slice hown8; subst hv9; have H8 : Hid (TwoG w10.heap.size wo.heap.size w12.heap.size w10 w12 w8 (.slice ro8 (AL ++ [((u : Int), (m : Int), s)]).length rc8) (AL ++ [((u : Int), (m : Int), s)]) (.slice qo WL.length qc) WL ∧ w8.heap[wr.heap.size]? = some (.cells #[.int .i64 (m : Int), .int .u64 y1, .int .i64 y2] 63) ∧ w8.heap[w6.heap.size]? = some (.cells #[.int .i64 (u : Int), .int .i64 (m : Int), .int .u64 s] 67)) := ⟨HAP.out.1.addA hown8 hgr8 hv8, (hgr8.block _ (lt_of_get HAP.out.2.2.1) (fun e => by have := (HT.out.rowA.lt _ e.symm).2; omega)).trans HAP.out.2.2.1, (hgr8.block _ (lt_of_get HAP.out.2.2.2.1) (fun e => by have := (HT.out.rowA.lt _ e.symm).2; have := H7.out.2.2.2; omega)).trans HAP.out.2.2.2.1⟩; clear hown8 hgr8 hv8)
                generalize hA8 : AL ++ [((u : Int), (m : Int), s)] = A8 at *
                have HN8 : Hid (A8.length = AL.length + 1) := by show _ = _; rw [← hA8, List.length_append]; rfl
                generalize AL.length + 1 = n8 at *
                clear hA8
              case' inr.inr =>
                obtain ⟨k9, how, hk9⟩ := how
                subst how
                have r9 : decide (s < k9) = false := decide_eq_false (by omega)
                have HE1 : Hid (PA ++ dearL n bs R ((u : Int), a1, a2) (outs.take (j + 1)) = AL) := by
                  have hn : hasO (some k9) s = true := decide_eq_true hk9
                  show _ = _
                  rw [HD1.out.1, hn, ← HAL.out.1]
                  simp
                go_wp2_with fail
                have H8 : Hid (TwoG w10.heap.size wo.heap.size w12.heap.size w10 w12 W7 (.slice ro AL.length rc) AL (.slice qo WL.length qc) WL ∧ W7.heap[wr.heap.size]? = some (.cells #[.int .i64 (m : Int), .int .u64 y1, .int .i64 y2] 63) ∧ W7.heap[w6.heap.size]? = some (.cells #[.int .i64 (u : Int), .int .i64 (m : Int), .int .u64 s] 67)) := ⟨H7.out.1, H7.out.2.1, H7.out.2.2.1⟩
                clear HAP HW7 H7 f0 f1 f2 fs
                have HN8 : Hid (AL.length = AL.length) := rfl
                generalize hn8 : AL.length = n8 at *
                have HN8 : Hid (AL.length = n8) := hn8
                clear hn8
                generalize AL = A8 at *
                generalize ro = ro8 at *
                generalize rc = rc8 at *
                generalize W7 = w8 at *
              all_goals
                try rw [HN8.out] at H8
                have q8 := H8.out.1.below
                obtain ⟨⟨e0, _, es⟩, _⟩ := HKP.out w8 H8.out.1.keep H8.out.1.size
                have d0 : w8.cell? ⟨wr.heap.size, 0, none⟩ = some (.int .i64 (m : Int)) := by simp [World.cell?, H8.out.2.1]
                have ds := lt_of_get H8.out.2.1
                have hMx := (HOL.out w8 q8).2.2.2.1
                obtain ⟨t0, _, t0s⟩ := hMx.at (i := u) HUN.out.1 (Nat.le_refl _)
                obtain ⟨t1, _, t1s⟩ := hMx.cell (i := u) (j := m) HUN.out.1 HMN.out.1
                generalize DX u m = D at *
                generalize rs u = ru at *
                have u1 : (u : Int) < (n : Int) := by have := HUN.out.1; omega
                have u2 : (0 : Int) ≤ (u : Int) := by omega
                have m1 : (m : Int) < (n : Int) := by have := HMN.out.1; omega
                have m2 : (0 : Int) ≤ (m : Int) := by omega
                obtain ⟨dq, hdq⟩ : ∃ dq, decide (s < D) = dq := ⟨_, rfl⟩
                have HWN : Hid (PW ++ walkL n bs zs (vv : Int) ((u : Int), a1, a2) (outs.take (j + 1)) = WL ++ (if dq then [((u : Int), (m : Int), s)] else [])) := by
                  show _ = _
                  rw [HD1.out.2, hdq, ← HAL.out.2, List.append_assoc]
                clear hMx q8
                cases dq with
                | false =>
                  have hD9 : ¬ s < D := by simpa using hdq
                  have HWE : Hid (PW ++ walkL n bs zs (vv : Int) ((u : Int), a1, a2) (outs.take (j + 1)) = WL) := by show _ = _; rw [HWN.out]; simp
                  go_quiet (fail)
                  have HTL : Hid (type_of% (H8.out.1.later (below_drewN (Below.refl _ _) nq))) := H8.out.1.later (below_drewN (Below.refl _ _) nq)
                  go_wp2
                  go_roundw
                  case rel =>
                    refine ⟨j + 1, ro8, rc8, qo, qc, by omega, by go_num, ?_⟩
                    rw [HE1.out, HWE.out]
                    exact ⟨by rw [HN8.out], rfl, by rw [HN8.out]; exact HTL.out⟩
                  case measure => simp [intOf]; omega
                | true =>
                  have hD9 : s < D := by simpa using hdq
                  have HWE : Hid (PW ++ walkL n bs zs (vv : Int) ((u : Int), a1, a2) (outs.take (j + 1)) = WL ++ [((u : Int), (m : Int), s)]) := by show _ = _; rw [HWN.out]; rfl
                  go_quiet (fail)
                  have hbd : Below w8.heap.size w8 (w8.drewN nq) := below_drewN (Below.refl _ _) nq
                  have hbo : Below w8.heap.size w8 ((w8.drewN nq).alloc (.cells #[.int .i64 (u : Int), .int .i64 (m : Int), .int .u64 s] 67)) := btr hbd (bel_one _ _)
                  have k9' : (w8.drewN nq).heap[w6.heap.size]? = some (.cells #[.int .i64 (u : Int), .int .i64 (m : Int), .int .u64 s] 67) := H8.out.2.2
                  have f0 : (w8.drewN nq).cell? ⟨w6.heap.size, 0, none⟩ = some (.int .i64 (u : Int)) := by have h := H8.out.2.2; simp [World.cell?, h]
                  have f1 : (w8.drewN nq).cell? ⟨w6.heap.size, 1, none⟩ = some (.int .i64 (m : Int)) := by have h := H8.out.2.2; simp [World.cell?, h]
                  have f2 : (w8.drewN nq).cell? ⟨w6.heap.size, 2, none⟩ = some (.int .u64 s) := by have h := H8.out.2.2; simp [World.cell?, h]
                  have fs := lt_of_get k9'
                  have HAQ : Hid (TwoG w10.heap.size wo.heap.size w12.heap.size w10 w12 ((w8.drewN nq).alloc (.cells #[.int .i64 (u : Int), .int .i64 (m : Int), .int .u64 s] 67)) (.slice ro8 n8 rc8) A8 (.slice qo WL.length qc) WL ∧ HasSs ((w8.drewN nq).alloc (.cells #[.int .i64 (u : Int), .int .i64 (m : Int), .int .u64 s] 67)) (.slice (some ⟨(w8.drewN nq).heap.size, 0, none⟩) 1 1) [((u : Int), (m : Int), s)] ∧ w10.heap.size ≤ ((w8.drewN nq).alloc (.cells #[.int .i64 (u : Int), .int .i64 (m : Int), .int .u64 s] 67)).heap.size) := ⟨H8.out.1.later hbo, ss_one (w8.drewN nq) ((u : Int), (m : Int), s) _, Nat.le_trans H8.out.1.below.size hbo.size⟩
                  clear hbd hbo k9' d0 ds e0 es t0 t0s t1 t1s
                  go_wp2_with (at_builtin; refine wpList_append_rsA rfl _ _ rfl w10.heap.size (.slice qo WL.length qc) WL rfl HAQ.out.1.rowW ⟨w8.heap.size, 0, none⟩ 1 [((u : Int), (m : Int), s)] rfl HAQ.out.2.1 (by have := HPL2.out.2; simp only [List.length_cons, List.length_nil]; omega) HAQ.out.2.2 ?_; intro v9 w9' hown9 hgr9 hv9; obtain ⟨qo9, qc9, hv10⟩ := ssr_slice hown9; subst hv10; have H9' : Hid (TwoG w10.heap.size wo.heap.size w12.heap.size w10 w12 w9' (.slice ro8 n8 rc8) A8 (.slice qo9 (WL ++ [((u : Int), (m : Int), s)]).length qc9) (WL ++ [((u : Int), (m : Int), s)])) := HAQ.out.1.addW hown9 hgr9 hv9; clear hown9 hgr9 hv9)
                  go_roundw
                  case rel =>
                    refine ⟨j + 1, ro8, rc8, qo9, qc9, by omega, by go_num, ?_⟩
                    rw [HE1.out, HWE.out]
                    exact ⟨by rw [HN8.out], by rw [List.length_append]; rfl, by rw [HN8.out]; exact H9'.out⟩
                  case measure => simp [intOf]; omega
        · obtain rfl : j = outs.length := by omega
          rw [List.take_length] at HT ⊢
          generalize hAL : PA ++ dearL n bs R ((u : Int), a1, a2) outs = AL at *
          generalize hWL : PW ++ walkL n bs zs (vv : Int) ((u : Int), a1, a2) outs = WL at *
          have HF : Hid (type_of% HT.out.fill) := HT.out.fill
          clear hAL hWL
          go_wp2
          go_roundw
          case rel =>
            refine ⟨k + 1, ro, rc, qo, qc, by omega, by go_num, ?_⟩
            rw [HSA.out, HSW.out]
            exact ⟨rfl, rfl, HF.out⟩
          case measure => simp [intOf]; omega
    · obtain rfl : k = ins.length := by omega
      rw [List.take_length, ← HE.out.1, ← HE.out.2] at HT ⊢
      have HAR : Hid (HasSs wr (.slice ro N0.length rc) N0 ∧ HasSs wr (.slice qo N1.length qc) N1 ∧ Below w10.heap.size w10 wr) := ⟨ss_of_row HT.out.rowA, ss_of_row HT.out.rowW, HT.out.below⟩
      have HNL : Hid ((HasSs wr (.slice so0 N0.length sc0) N0 ∧ HasSs wr (.slice so1 N1.length sc1) N1 ∧ HasSs wr (.slice so2 N2.length sc2) N2) ∧ Below w.heap.size w wr) := ⟨(HOL.out wr HAR.out.2.2).2.2.2.2.1, (HOL.out wr HAR.out.2.2).2.2.2.2.2⟩
      have HO0 : Hid (type_of% (of13_calls so0 sc0 N0 wr HNL.out.1.1 (by have := HM.out; omega))) := of13_calls so0 sc0 N0 wr HNL.out.1.1 (by have := HM.out; omega)
      clear HT HOL HE HROU HWTC HDEF HT0
      go_wp2_with fail
      refine HO0.out.mono ?_
      rintro e w14 ⟨xo, xc, rfl, hx14, hb14⟩
      have HS0 : Hid (type_of% (same13_yes xo ro xc rc N0 w14 (ss_of_row hx14) (HAR.out.1.keep hb14) (by have := HM.out; omega))) := same13_yes xo ro xc rc N0 w14 (ss_of_row hx14) (HAR.out.1.keep hb14) (by have := HM.out; omega)
      have H14 : Hid (Below wr.heap.size wr w14) := hb14
      clear hx14 hb14 HO0
      go_wp2_with fail
      refine HS0.out.mono ?_
      rintro e w15 ⟨rfl, hb15⟩
      have H15 : Hid (Below wr.heap.size wr w15) := btr H14.out hb15
      clear hb15 HS0 H14
      have HO1 : Hid (type_of% (of13_calls so1 sc1 N1 w15 (HNL.out.1.2.1.keep H15.out) (by have := HM.out; omega))) := of13_calls so1 sc1 N1 w15 (HNL.out.1.2.1.keep H15.out) (by have := HM.out; omega)
      go_wp2_with fail
      refine HO1.out.mono ?_
      rintro e w16 ⟨xo1, xc1, rfl, hx16, hb16⟩
      have HS1 : Hid (type_of% (same13_yes xo1 qo xc1 qc N1 w16 (ss_of_row hx16) (HAR.out.2.1.keep (btr H15.out hb16)) (by have := HM.out; omega))) := same13_yes xo1 qo xc1 qc N1 w16 (ss_of_row hx16) (HAR.out.2.1.keep (btr H15.out hb16)) (by have := HM.out; omega)
      have H16 : Hid (Below wr.heap.size wr w16) := btr H15.out hb16
      clear hx16 hb16 HO1
      go_wp2_with fail
      refine HS1.out.mono ?_
      rintro e w17 ⟨rfl, hb17⟩
      have H17 : Hid (Below wr.heap.size wr w17) := btr H16.out hb17
      clear hb17 HS1 H16
      have HO2 : Hid (type_of% (of13_calls so2 sc2 N2 w17 (HNL.out.1.2.2.keep H17.out) (by have := HM.out; omega))) := of13_calls so2 sc2 N2 w17 (HNL.out.1.2.2.keep H17.out) (by have := HM.out; omega)
      go_wp2_with fail
      refine HO2.out.mono ?_
      rintro e w18 ⟨xo2, xc2, rfl, hx18, hb18⟩
      have H18 : Hid (HasSs w18 (.slice xo2 N2.length xc2) N2 ∧ HasSs w18 (.slice qo N1.length qc) N1 ∧ Below wr.heap.size wr w18) := ⟨ss_of_row hx18, HAR.out.2.1.keep (btr H17.out hb18), btr H17.out hb18⟩
      clear hx18 hb18 HO2
      generalize hWX : wr = wo at *
      clear hWX
      go_wp2_with fail
      go_loopw [172, 29] (fun iv mv wx => ∃ k : Nat, k ≤ N2.length ∧ iv = .int .i64 k ∧ mv = .int .i64 (metN N1 0 (N2.take k) : Nat) ∧ Below w18.heap.size w18 wx) (fun iv _ _ => N2.length - (intOf iv).toNat)
      case atStart => exact ⟨0, Nat.zero_le _, rfl, rfl, Below.refl _ _⟩
      case round =>
        obtain ⟨k, hk2, rfl, rfl, hbw⟩ := hrel
        have HBW : Hid (Below w18.heap.size w18 wr) := hbw
        clear hbw
        by_cases hlt2 : k < N2.length
        · obtain ⟨y, hy⟩ : ∃ y, N2[k]? = some y := ⟨N2[k], List.getElem?_eq_getElem hlt2⟩
          obtain ⟨yb, yof, hyo, yl, r0, r1, r2⟩ := (H18.out.1.keep HBW.out).at hy
          subst hyo
          have HMS : Hid (metN N1 0 (N2.take (k + 1)) = if N1[metN N1 0 (N2.take k)]? = some y then metN N1 0 (N2.take k) + 1 else metN N1 0 (N2.take k)) := by
            show _ = _
            rw [List.take_add_one, hy, ← metN_snoc]
            rfl
          have hml := metN_le N1 (N2.take k) 0 (Nat.zero_le _)
          generalize metN N1 0 (N2.take k) = mt at *
          obtain ⟨s0, s1, s2⟩ := y
          simp only at r0 r1 r2
          obtain ⟨W9, hW9⟩ : ∃ W9, wr.alloc (.cells #[.int .i64 s0, .int .i64 s1, .int .u64 s2] 67) = W9 := ⟨_, rfl⟩
          have HW9 : Hid (wr.alloc (.cells #[.int .i64 s0, .int .i64 s1, .int .u64 s2] 67) = W9) := hW9
          have hb9 : Below wr.heap.size wr W9 := by rw [← hW9]; exact bel_one _ _
          have k9 : W9.heap[wr.heap.size]? = some (.cells #[.int .i64 s0, .int .i64 s1, .int .u64 s2] 67) := by rw [← hW9]; exact heap_new _ _
          have e0 : W9.cell? ⟨wr.heap.size, 0, none⟩ = some (.int .i64 s0) := by simp [World.cell?, k9]
          have e1 : W9.cell? ⟨wr.heap.size, 1, none⟩ = some (.int .i64 s1) := by simp [World.cell?, k9]
          have e2 : W9.cell? ⟨wr.heap.size, 2, none⟩ = some (.int .u64 s2) := by simp [World.cell?, k9]
          have es := lt_of_get k9
          have HB9 : Hid (Below w18.heap.size w18 W9) := btr HBW.out hb9
          have i1 : (k : Int) < (N2.length : Int) := by omega
          have i2 : (0 : Int) ≤ (k : Int) := by omega
          have hN2 : N2.length ≤ 144 := HM.out.2.2.2
          have hN1 : N1.length ≤ 144 := HM.out.2.2.1
          clear hy hW9 hb9 k9
          go_upto_region 35 with fail
          rw [HW9.out]
          clear r0 r1 r2 yl
          by_cases hmt : mt < N1.length
          · obtain ⟨x, hx⟩ : ∃ x, N1[mt]? = some x := ⟨N1[mt], List.getElem?_eq_getElem hmt⟩
            obtain ⟨zb, zof, hzo, zl, z0, z1, z2⟩ := (H18.out.2.1.keep HB9.out).at hx
            subst hzo
            rw [hx] at HMS
            obtain ⟨x0, x1, x2⟩ := x
            simp only at z0 z1 z2
            have t1 : (mt : Int) < (N1.length : Int) := by omega
            have t2 : (0 : Int) ≤ (mt : Int) := by omega
            have t3 : decide ((mt : Int) < (N1.length : Int)) = true := decide_eq_true t1
            clear hx
            by_cases q0 : x0 = s0
            · by_cases q1 : x1 = s1
              · by_cases q2 : x2 = s2
                · subst q0 q1 q2
                  have HME : Hid (metN N1 0 (N2.take (k + 1)) = mt + 1) := by show _ = _; rw [HMS.out, if_pos rfl]
                  go_quiet (fail)
                  have HBQ : Hid (Below w18.heap.size w18 (W9.drewN nq)) := below_drewN HB9.out nq
                  go_wp2
                  go_roundw
                  case rel => exact ⟨k + 1, by omega, by go_num, by rw [HME.out]; go_num, HBQ.out⟩
                  case measure => simp [intOf]; omega
                · subst q0 q1
                  have HME : Hid (metN N1 0 (N2.take (k + 1)) = mt) := by show _ = _; rw [HMS.out, if_neg (by simp [q2])]
                  have q3 : (x2 == s2) = false := by simpa using q2
                  go_quiet (fail)
                  have HBQ : Hid (Below w18.heap.size w18 (W9.drewN nq)) := below_drewN HB9.out nq
                  go_wp2
                  go_roundw
                  case rel => exact ⟨k + 1, by omega, by go_num, by rw [HME.out], HBQ.out⟩
                  case measure => simp [intOf]; omega
              · subst q0
                have HME : Hid (metN N1 0 (N2.take (k + 1)) = mt) := by show _ = _; rw [HMS.out, if_neg (by simp [q1])]
                have q3 : (x1 == s1) = false := by simpa using q1
                go_quiet (fail)
                have HBQ : Hid (Below w18.heap.size w18 (W9.drewN nq)) := below_drewN HB9.out nq
                go_wp2
                go_roundw
                case rel => exact ⟨k + 1, by omega, by go_num, by rw [HME.out], HBQ.out⟩
                case measure => simp [intOf]; omega
            · have HME : Hid (metN N1 0 (N2.take (k + 1)) = mt) := by show _ = _; rw [HMS.out, if_neg (by simp [q0])]
              have q3 : (x0 == s0) = false := by simpa using q0
              go_quiet (fail)
              have HBQ : Hid (Below w18.heap.size w18 (W9.drewN nq)) := below_drewN HB9.out nq
              go_wp2
              go_roundw
              case rel => exact ⟨k + 1, by omega, by go_num, by rw [HME.out], HBQ.out⟩
              case measure => simp [intOf]; omega
          · have HME : Hid (metN N1 0 (N2.take (k + 1)) = mt) := by show _ = _; rw [HMS.out, List.getElem?_eq_none (by omega), if_neg (by simp)]
            have t3 : decide ((mt : Int) < (N1.length : Int)) = false := decide_eq_false (by omega)
            go_quiet (fail)
            have HBQ : Hid (Below w18.heap.size w18 (W9.drewN nq)) := below_drewN HB9.out nq
            go_wp2
            go_roundw
            case rel => exact ⟨k + 1, by omega, by go_num, by rw [HME.out], HBQ.out⟩
            case measure => simp [intOf]; omega
        · obtain rfl : k = N2.length := by omega
          rw [List.take_length, HM.out.1]
          have HZ : Hid (Below w.heap.size w wr) := btr HNL.out.2 (btr H18.out.2.2 HBW.out)
          go_wp2
          go_ret
          exact ⟨by simp, HZ.out⟩
end Go.Proofs.YtbkclhaonbjobaaGreat.Wt
