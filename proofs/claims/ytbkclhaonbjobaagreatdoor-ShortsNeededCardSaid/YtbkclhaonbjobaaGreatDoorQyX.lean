/- The document's Needed and Diff, of any node. The law's compare of the two overlays. ShortsNeeded, where the graph is right and small. ShortsNeeded, whatever it is handed. -/
import Derived.Test.YtbkclhaonbjobaaGreatDoorSk2
import Derived.Test.YtbkclhaonbjobaaGreatDoorQoX
namespace Go.Proofs.YtbkclhaonbjobaaGreatDoor.Wt
open Go Go.RowKit Go.Extern Go.Deep

attribute [local go_sem] Oper.semAt_some

theorem three_new9 (w : World) (o1 o2 o3 : Obj) : (((w.alloc o1).alloc o2).alloc o3).heap[w.heap.size]? = some o1 ∧ (((w.alloc o1).alloc o2).alloc o3).heap[w.heap.size + 1]? = some o2 ∧ (((w.alloc o1).alloc o2).alloc o3).heap[w.heap.size + 1 + 1]? = some o3 ∧ Below w.heap.size w (((w.alloc o1).alloc o2).alloc o3) := by
  obtain ⟨h1, h2, h3⟩ := two_new w o1 o2
  have hs : ((w.alloc o1).alloc o2).heap.size = w.heap.size + 1 + 1 := by simp
  have h4 := heap_new ((w.alloc o1).alloc o2) o3
  have h5 : Below ((w.alloc o1).alloc o2).heap.size ((w.alloc o1).alloc o2) (((w.alloc o1).alloc o2).alloc o3) := bel_one _ _
  rw [hs] at h4
  exact ⟨(h5.block _ (lt_of_get h1)).trans h1, (h5.block _ (lt_of_get h2)).trans h2, h4, btr h3 h5⟩
theorem Below.layAt {w w2 : World} (h : Below w.heap.size w w2) {b : Nat} (hb : w.heap.size ≤ b) (c0 c1 : Value) : Below w.heap.size w ((w2.setCell ⟨b, 0, none⟩ c0).setCell ⟨b, 1, none⟩ c1) :=
  (h.setCell (p := ⟨b, 0, none⟩) hb _).setCell (p := ⟨b, 1, none⟩) hb _
/-- the document's row, and its error. -/
def docN (n : Nat) (bs : List Bool) (R : Bool → Nat → Rw) (v hp sp : Int) : List S3 := if aliveB n bs v = true then needL n bs R v hp sp else []
def docE (n : Nat) (bs : List Bool) (v : Int) : Int := if aliveB n bs v = true then 0 else 7
def docD (n : Nat) (bs : List Bool) (R : Bool → Nat → Rw) (v hp sp : Int) : Int := if aliveB n bs v = true then ((needL n bs R v hp sp).length : Int) - ((outM n bs R true v).length : Int) - ((outM n bs R false v).length : Int) else 0
section
variable {PX : Nat → Option Obj} {w : World} {B0 pb n : Nat} {bs : List Bool} {R : Bool → Nat → Rw} {zs : List A4} {fo ao : Option Addr} {fc ac : Nat}
theorem both_rlives (h : Both PX B0 w pb n bs R zs (.slice fo n fc) (.slice ao zs.length ac)) (x : Int) : Calls Tryz.prog 17 #[.agg #[.slice fo n fc, .slice ao zs.length ac], .int .i64 x] w fun e w' => e = .returned (.bool (aliveB n bs x)) ∧ Below w.heap.size w w' :=
  lives_calls fo fc n bs h.ov.bl.1 ao zs.length ac x w h.hasFl h.ov.bl.2
set_option maxRecDepth 100000 in
set_option maxHeartbeats 16000000 in
theorem docNeed_calls (h : Both PX B0 w pb n bs R zs (.slice fo n fc) (.slice ao zs.length ac)) (hzl : zs.length ≤ 200000) (hz : ZB zs) (hn : n ≤ 12) (v o0 o1 o2 o3 o4 : Int) :
    Calls Tryz.prog 9 #[.agg #[.slice fo n fc, .slice ao zs.length ac], .int .i64 v, .agg #[.int .i64 o0, .int .i64 o1, .int .i64 o2, .int .i64 o3, .int .i64 o4]] w fun e w' => ∃ so sc, e = .returned (.tuple #[.slice so (docN n bs R v (min (max o0 0) 1048576) (min (max o1 0) 1048576)).length sc, .agg #[.int .i64 (docE n bs v), .slice none 0 0]]) ∧ HasSs w' (.slice so (docN n bs R v (min (max o0 0) 1048576) (min (max o1 0) 1048576)).length sc) (docN n bs R v (min (max o0 0) 1048576) (min (max o1 0) 1048576)) ∧ Below w.heap.size w w' := by
  obtain ⟨W0, hW0⟩ : ∃ W0, ((w.alloc (.cells #[.slice fo n fc, .slice ao zs.length ac] 33)).alloc (optObj o0 o1 o2 o3 o4)).alloc (.cells #[.int .i64 0, .slice none 0 0] 44) = W0 := ⟨_, rfl⟩
  obtain ⟨hbx, hk0, hk1, hB0⟩ := three_new9 w (.cells #[.slice fo n fc, .slice ao zs.length ac] 33) (optObj o0 o1 o2 o3 o4) (.cells #[.int .i64 0, .slice none 0 0] 44)
  rw [hW0] at hbx hk0 hk1 hB0
  have HW0 : Hid (((w.alloc (.cells #[.slice fo n fc, .slice ao zs.length ac] 33)).alloc (.cells #[.int .i64 o0, .int .i64 o1, .int .i64 o2, .int .i64 o3, .int .i64 o4] 27)).alloc (.cells #[.int .i64 0, .slice none 0 0] 44) = W0) := hW0
  have HG : Hid (∀ wx, Below W0.heap.size W0 wx → (wx.cell? ⟨w.heap.size, 0, none⟩ = some (.slice fo n fc) ∧ wx.cell? ⟨w.heap.size, 1, none⟩ = some (.slice ao zs.length ac) ∧ w.heap.size < wx.heap.size) ∧ Both PX B0 wx pb n bs R zs (.slice fo n fc) (.slice ao zs.length ac) ∧ wx.heap[w.heap.size + 1]? = some (optObj o0 o1 o2 o3 o4) ∧ wx.heap[w.heap.size + 1 + 1]? = some (.cells #[.int .i64 0, .slice none 0 0] 44) ∧ Below w.heap.size w wx) := fun wx hwx => by
    have hgg := (hwx.block _ (lt_of_get hbx)).trans hbx
    have hb := hB0.trans (hwx.mono hB0.size)
    exact ⟨⟨(cell_two hgg).1, (cell_two hgg).2.1, lt_of_get hgg⟩, h.keep hb, (hwx.block _ (lt_of_get hk0)).trans hk0, (hwx.block _ (lt_of_get hk1)).trans hk1, hb⟩
  have HLI : Hid (type_of% (both_rlives (h.keep hB0) v)) := both_rlives (h.keep hB0) v
  have HND : Hid (∀ wx, Below W0.heap.size W0 wx → Calls Tryz.prog 33 #[.agg #[.slice fo n fc, .slice ao zs.length ac], .int .i64 v, .agg #[.int .i64 o0, .int .i64 o1, .int .i64 o2, .int .i64 o3, .int .i64 o4]] wx fun e w' => ∃ so sc, e = .returned (.slice so (needL n bs R v (min (max o0 0) 1048576) (min (max o1 0) 1048576)).length sc) ∧ w'.ownsRow wx.heap.size 68 3 (.slice so (needL n bs R v (min (max o0 0) 1048576) (min (max o1 0) 1048576)).length sc) (needL n bs R v (min (max o0 0) 1048576) (min (max o1 0) 1048576)).length (flatS (needL n bs R v (min (max o0 0) 1048576) (min (max o1 0) 1048576))) ∧ Below wx.heap.size wx w') := fun wx hx => rneed_calls (HG.out wx hx).2.1 hzl hz hn v o0 o1 o2 o3 o4
  generalize min (max o0 0) 1048576 = hp at *
  generalize min (max o1 0) 1048576 = sp at *
  obtain ⟨av, hav⟩ : ∃ av, aliveB n bs v = av := ⟨_, rfl⟩
  have HAV : Hid (docN n bs R v hp sp = (if av = true then needL n bs R v hp sp else []) ∧ docE n bs v = if av = true then 0 else 7) := ⟨by unfold docN; rw [hav], by unfold docE; rw [hav]⟩
  rw [hav] at HLI
  obtain ⟨⟨c0, c1, cs⟩, _⟩ := HG.out W0 (Below.refl _ _)
  clear hW0 hB0 hbx hk0 hk1 h hz hzl hn hav
  go_enter Tryz.func9, Tryz.ntmps9
  go_wp2_with fail
  rw [HW0.out]
  refine HLI.out.mono ?_
  rintro e w1 ⟨rfl, hb1⟩
  have H1 : Hid (Below W0.heap.size W0 w1) := hb1
  clear hb1 c0 c1 cs HLI
  cases av with
  | false =>
    go_wp2_with fail
    refine (E_calls 7 _).mono ?_
    rintro e w2 ⟨rfl, hb2⟩
    have H2 : Hid (Below W0.heap.size W0 w2) := btr H1.out hb2
    obtain ⟨b0, b1, y0, y1⟩ := cell_two (HG.out w2 H2.out).2.2.2.1
    have yl := lt_of_get (HG.out w2 H2.out).2.2.2.1
    clear hb2
    go_wp2
    refine bodyPost_ret (v := .tuple #[.slice none 0 0, .agg #[.int .i64 7, .slice none 0 0]]) (by simp [results, Tryz.results9, go_sem, b0, b1]) rfl ?_
    rw [HAV.out.1, HAV.out.2]
    exact ⟨none, 0, rfl, hasSs_nil _ _ _, Below.layAt (HG.out w2 H2.out).2.2.2.2 (by omega) _ _⟩
  | true =>
    obtain ⟨⟨c0, c1, cs⟩, _, hob, _⟩ := HG.out w1 H1.out
    obtain ⟨p0, p1, ps⟩ := opt_cells hob
    obtain ⟨p2, p3, p4⟩ := opt_all hob
    clear hob
    have HN1 : Hid (type_of% (HND.out w1 H1.out)) := HND.out w1 H1.out
    go_wp2_with fail
    refine HN1.out.mono ?_
    rintro e w2 ⟨so, sc, rfl, ho2, hb2⟩
    have H2 : Hid (Below W0.heap.size W0 w2) := btr H1.out hb2
    obtain ⟨b0, b1, y0, y1⟩ := cell_two (HG.out w2 H2.out).2.2.2.1
    have yl := lt_of_get (HG.out w2 H2.out).2.2.2.1
    have HOW : Hid (w2.ownsRow w1.heap.size 68 3 (.slice so (needL n bs R v hp sp).length sc) (needL n bs R v hp sp).length (flatS (needL n bs R v hp sp)) ∧ w.heap.size + 1 + 1 < w1.heap.size) := ⟨ho2, lt_of_get (HG.out w1 H1.out).2.2.2.1⟩
    clear hb2 ho2 c0 c1 cs p0 p1 p2 p3 p4 ps HN1
    go_wp2
    refine bodyPost_ret (v := .tuple #[.slice so (needL n bs R v hp sp).length sc, .agg #[.int .i64 0, .slice none 0 0]]) (by simp [results, Tryz.results9, go_sem, b0, b1]) rfl ?_
    rw [HAV.out.1, HAV.out.2]
    refine ⟨so, sc, rfl, ss_of_row (row_keep9 HOW.out.1 fun g e => ?_), Below.layAt (HG.out w2 H2.out).2.2.2.2 (by omega) _ _⟩
    have h1 := (HOW.out.1.lt g e).1
    have h2 := HOW.out.2
    exact (heap_setCell_other _ _ _ _ (show g ≠ w.heap.size + 1 + 1 by omega)).trans (heap_setCell_other _ _ _ _ (show g ≠ w.heap.size + 1 + 1 by omega))
set_option maxRecDepth 100000 in
set_option maxHeartbeats 16000000 in
theorem docDiff_calls (h : Both PX B0 w pb n bs R zs (.slice fo n fc) (.slice ao zs.length ac)) (hzl : zs.length ≤ 200000) (hz : ZB zs) (hn : n ≤ 12) (v o0 o1 o2 o3 o4 : Int) :
    Calls Tryz.prog 14 #[.agg #[.slice fo n fc, .slice ao zs.length ac], .int .i64 v, .agg #[.int .i64 o0, .int .i64 o1, .int .i64 o2, .int .i64 o3, .int .i64 o4]] w fun e w' => e = .returned (.tuple #[.int .i64 (docD n bs R v (min (max o0 0) 1048576) (min (max o1 0) 1048576)), .agg #[.int .i64 (docE n bs v), .slice none 0 0]]) ∧ Below w.heap.size w w' := by
  obtain ⟨W0, hW0⟩ : ∃ W0, ((w.alloc (.cells #[.slice fo n fc, .slice ao zs.length ac] 33)).alloc (optObj o0 o1 o2 o3 o4)).alloc (.cells #[.int .i64 0, .slice none 0 0] 44) = W0 := ⟨_, rfl⟩
  obtain ⟨hbx, hk0, hk1, hB0⟩ := three_new9 w (.cells #[.slice fo n fc, .slice ao zs.length ac] 33) (optObj o0 o1 o2 o3 o4) (.cells #[.int .i64 0, .slice none 0 0] 44)
  rw [hW0] at hbx hk0 hk1 hB0
  have HW0 : Hid (((w.alloc (.cells #[.slice fo n fc, .slice ao zs.length ac] 33)).alloc (.cells #[.int .i64 o0, .int .i64 o1, .int .i64 o2, .int .i64 o3, .int .i64 o4] 27)).alloc (.cells #[.int .i64 0, .slice none 0 0] 44) = W0) := hW0
  have HG : Hid (∀ wx, Below W0.heap.size W0 wx → (wx.cell? ⟨w.heap.size, 0, none⟩ = some (.slice fo n fc) ∧ wx.cell? ⟨w.heap.size, 1, none⟩ = some (.slice ao zs.length ac) ∧ w.heap.size < wx.heap.size) ∧ Both PX B0 wx pb n bs R zs (.slice fo n fc) (.slice ao zs.length ac) ∧ wx.heap[w.heap.size + 1]? = some (optObj o0 o1 o2 o3 o4) ∧ wx.heap[w.heap.size + 1 + 1]? = some (.cells #[.int .i64 0, .slice none 0 0] 44) ∧ Below w.heap.size w wx) := fun wx hwx => by
    have hgg := (hwx.block _ (lt_of_get hbx)).trans hbx
    have hb := hB0.trans (hwx.mono hB0.size)
    exact ⟨⟨(cell_two hgg).1, (cell_two hgg).2.1, lt_of_get hgg⟩, h.keep hb, (hwx.block _ (lt_of_get hk0)).trans hk0, (hwx.block _ (lt_of_get hk1)).trans hk1, hb⟩
  have HND : Hid (type_of% (docNeed_calls (h.keep hB0) hzl hz hn v o0 o1 o2 o3 o4)) := docNeed_calls (h.keep hB0) hzl hz hn v o0 o1 o2 o3 o4
  have HLN : Hid (aliveB n bs v = true → (docN n bs R v (min (max o0 0) 1048576) (min (max o1 0) 1048576)).length = (needL n bs R v (min (max o0 0) 1048576) (min (max o1 0) 1048576)).length ∧ (needL n bs R v (min (max o0 0) 1048576) (min (max o1 0) 1048576)).length ≤ 144) := fun hal => by
    refine ⟨by unfold docN; rw [if_pos hal], ?_⟩
    have h1 := half_few h.ov.inv true v
    have h2 := flat_len (needI n bs R v (min (max o0 0) 1048576) (min (max o1 0) 1048576)) 12 (outM n bs R true v) (fun i => Nat.le_trans (needI_len h.ov.inv v _ _ i) hn)
    show ((outM n bs R true v).flatMap _).length ≤ 144
    omega
  generalize min (max o0 0) 1048576 = hp at *
  generalize min (max o1 0) 1048576 = sp at *
  have HFW : Hid ((outM n bs R true v).length ≤ 12 ∧ (outM n bs R false v).length ≤ 12) := ⟨Nat.le_trans (half_few h.ov.inv true v) hn, Nat.le_trans (half_few h.ov.inv false v) hn⟩
  have HIN : Hid (∀ wx, Below W0.heap.size W0 wx → Calls Tryz.prog 38 #[.agg #[.slice fo n fc, .slice ao zs.length ac], .int .i64 v] wx fun e w' => ∃ so sc, e = .returned (.slice so (outM n bs R true v).length sc) ∧ Below wx.heap.size wx w') := fun wx hx => ((HG.out wx hx).2.1.rin (by omega) v).mono fun e w' ⟨so, sc, he, _, hb⟩ => ⟨so, sc, he, hb⟩
  have HOU : Hid (∀ wx, Below W0.heap.size W0 wx → Calls Tryz.prog 39 #[.agg #[.slice fo n fc, .slice ao zs.length ac], .int .i64 v] wx fun e w' => ∃ so sc, e = .returned (.slice so (outM n bs R false v).length sc) ∧ Below wx.heap.size wx w') := fun wx hx => ((HG.out wx hx).2.1.rout (by omega) v).mono fun e w' ⟨so, sc, he, _, hb⟩ => ⟨so, sc, he, hb⟩
  obtain ⟨av, hav⟩ : ∃ av, aliveB n bs v = av := ⟨_, rfl⟩
  have HAV : Hid (aliveB n bs v = av ∧ docD n bs R v hp sp = (if av = true then ((needL n bs R v hp sp).length : Int) - ((outM n bs R true v).length : Int) - ((outM n bs R false v).length : Int) else 0) ∧ docE n bs v = if av = true then 0 else 7) := ⟨hav, by unfold docD; rw [hav], by unfold docE; rw [hav]⟩
  obtain ⟨⟨c0, c1, cs⟩, _, hob, _⟩ := HG.out W0 (Below.refl _ _)
  obtain ⟨p0, p1, ps⟩ := opt_cells hob
  obtain ⟨p2, p3, p4⟩ := opt_all hob
  clear hW0 hB0 hbx hk0 hk1 h hz hzl hn hav hob
  go_enter Tryz.func14, Tryz.ntmps14
  go_wp2_with fail
  rw [HW0.out]
  refine HND.out.mono ?_
  rintro e w1 ⟨so, sc, rfl, _, hb1⟩
  have H1 : Hid (Below W0.heap.size W0 w1) := hb1
  clear hb1 c0 c1 cs p0 p1 p2 p3 p4 ps HND
  rw [HAV.out.2.2]
  obtain ⟨W2, hW2⟩ : ∃ W2, w1.alloc (.cells #[.int .i64 (if av = true then 0 else 7), .slice none 0 0] 44) = W2 := ⟨_, rfl⟩
  have HW2 : Hid (w1.alloc (.cells #[.int .i64 (if av = true then 0 else 7), .slice none 0 0] 44) = W2) := hW2
  have hb2 : Below w1.heap.size w1 W2 := by rw [← hW2]; exact bel_one _ _
  have k2 : W2.heap[w1.heap.size]? = some (.cells #[.int .i64 (if av = true then 0 else 7), .slice none 0 0] 44) := by rw [← hW2]; exact heap_new _ _
  have HE : Hid (∀ wx, Below W2.heap.size W2 wx → (wx.cell? ⟨w1.heap.size, 0, none⟩ = some (.int .i64 (if av = true then 0 else 7)) ∧ wx.cell? ⟨w1.heap.size, 1, none⟩ = some (.slice none 0 0) ∧ w1.heap.size < wx.heap.size) ∧ Below W0.heap.size W0 wx) := fun wx hx => by
    have hq := (hx.block _ (lt_of_get k2)).trans k2
    exact ⟨⟨(cell_two hq).1, (cell_two hq).2.1, lt_of_get hq⟩, btr H1.out (btr hb2 hx)⟩
  obtain ⟨⟨e0, e1, es⟩, _⟩ := HE.out W2 (Below.refl _ _)
  clear hW2 hb2 k2
  cases av with
  | false =>
    have hq := bad_calls 7 none 0 0 W2
    rw [show ((7 : Int) != 0 || decide (0 < 0)) = true by simp] at hq
    have HBD : Hid (type_of% hq) := hq
    simp only [Bool.false_eq_true, if_false] at HW2 HE e0 ⊢
    clear hq
    go_upto_region 2 with fail
    rw [HW2.out]
    go_wp2_with fail
    refine HBD.out.mono ?_
    rintro e w3 ⟨rfl, hb3⟩
    clear e0 e1 es
    obtain ⟨⟨e0, e1, es⟩, _⟩ := HE.out w3 hb3
    have H3 : Hid (Below W0.heap.size W0 w3) := (HE.out w3 hb3).2
    obtain ⟨b0, b1, y0, y1⟩ := cell_two (HG.out w3 H3.out).2.2.2.1
    have yl := lt_of_get (HG.out w3 H3.out).2.2.2.1
    have HLT : Hid (w.heap.size + 1 + 1 < w1.heap.size) := lt_of_get (HG.out w1 H1.out).2.2.2.1
    have n1 : w.heap.size + 1 + 1 ≠ w1.heap.size := by have := HLT.out; omega
    have n2 : w1.heap.size ≠ w.heap.size + 1 + 1 := by have := HLT.out; omega
    clear hb3 HBD
    go_wp2_with fail
    go_region_held3 (fun w' => w'.cell? ⟨w1.heap.size, 0, none⟩ = some (.int .i64 7) ∧ w'.cell? ⟨w1.heap.size, 1, none⟩ = some (.slice none 0 0)) (go_keep) (fail)
    go_wp2
    refine bodyPost_ret (v := .tuple #[.int .i64 0, .agg #[.int .i64 7, .slice none 0 0]]) (by simp [results, Tryz.results14, go_sem, b0, b1]) rfl ?_
    rw [HAV.out.2.1, HAV.out.2.2]
    exact ⟨rfl, (Below.layAt (HG.out w3 H3.out).2.2.2.2 (by omega) _ _).drew⟩
  | true =>
    have hq := bad_calls 0 none 0 0 W2
    rw [show ((0 : Int) != 0 || decide (0 < 0)) = false by simp] at hq
    have HBD : Hid (type_of% hq) := hq
    simp only [if_true] at HW2 HE e0 ⊢
    clear hq
    go_upto_region 2 with fail
    rw [HW2.out]
    go_wp2_with fail
    refine HBD.out.mono ?_
    rintro e w3 ⟨rfl, hb3⟩
    have H3 : Hid (Below W2.heap.size W2 w3) := hb3
    have HLT : Hid (w.heap.size + 1 + 1 < w1.heap.size ∧ w.heap.size + 1 + 1 < w1.heap.size) := ⟨lt_of_get (HG.out w1 H1.out).2.2.2.1, lt_of_get (HG.out w1 H1.out).2.2.2.1⟩
    have n1 : w.heap.size + 1 + 1 ≠ w1.heap.size := by have := HLT.out.1; omega
    have n2 : w1.heap.size ≠ w.heap.size + 1 + 1 := by have := HLT.out.1; omega
    have n3 : w.heap.size ≠ w.heap.size + 1 + 1 := by omega
    have n4 : w.heap.size + 1 + 1 ≠ w.heap.size := by omega
    have HCE : Hid (∀ wx, Below W2.heap.size W2 wx → (wx.cell? ⟨w.heap.size, 0, none⟩ = some (.slice fo n fc) ∧ wx.cell? ⟨w.heap.size, 1, none⟩ = some (.slice ao zs.length ac) ∧ w.heap.size < wx.heap.size) ∧ (wx.cell? ⟨w1.heap.size, 0, none⟩ = some (.int .i64 0) ∧ wx.cell? ⟨w1.heap.size, 1, none⟩ = some (.slice none 0 0) ∧ w1.heap.size < wx.heap.size) ∧ Below W0.heap.size W0 wx) := fun wx hx => ⟨(HG.out wx (HE.out wx hx).2).1, HE.out wx hx⟩
    clear e0 e1 es hb3 HBD
    obtain ⟨⟨c0, c1, cs⟩, ⟨e0, e1, es⟩, _⟩ := HCE.out w3 H3.out
    have hlq := HLN.out HAV.out.1
    obtain ⟨dl, hdl⟩ : ∃ dl, (docN n bs R v hp sp).length = dl := ⟨_, rfl⟩
    rw [hdl] at hlq ⊢
    have HDL : Hid (((needL n bs R v hp sp).length = dl ∧ dl ≤ 144) ∧ docD n bs R v hp sp = ((needL n bs R v hp sp).length : Int) - ((outM n bs R true v).length : Int) - ((outM n bs R false v).length : Int)) := ⟨⟨hlq.1.symm, by omega⟩, HAV.out.2.1⟩
    clear hlq hdl HLN
    generalize (outM n bs R true v).length = li at *
    generalize (outM n bs R false v).length = lo at *
    have iw1 : IntKind.i64.wrap ((dl : Int) - (li : Int)) = (dl : Int) - (li : Int) := by have h1 := HDL.out.1.2; have h2 := HFW.out; rw [IntKind.wrap_i64] <;> omega
    have iw2 : IntKind.i64.wrap ((dl : Int) - (li : Int) - (lo : Int)) = (dl : Int) - (li : Int) - (lo : Int) := by have h1 := HDL.out.1.2; have h2 := HFW.out; rw [IntKind.wrap_i64] <;> omega
    have HYB : Hid (∀ wx, Below W2.heap.size W2 wx → (wx.cell? ⟨w.heap.size + 1 + 1, 0, none⟩ = some (.int .i64 0) ∧ wx.cell? ⟨w.heap.size + 1 + 1, 1, none⟩ = some (.slice none 0 0) ∧ wx.frozen? ⟨w.heap.size + 1 + 1, 0, none⟩ = false ∧ wx.frozen? ⟨w.heap.size + 1 + 1, 1, none⟩ = false) ∧ w.heap.size + 1 + 1 < wx.heap.size) := fun wx hx => ⟨cell_two (HG.out wx (HE.out wx hx).2).2.2.2.1, lt_of_get (HG.out wx (HE.out wx hx).2).2.2.2.1⟩
    obtain ⟨⟨b0, b1, y0, y1⟩, yl⟩ := HYB.out w3 H3.out
    go_wp2_with fail
    go_region_held3 (fun w' => w'.cell? ⟨w.heap.size, 0, none⟩ = some (.slice fo n fc) ∧ w'.cell? ⟨w.heap.size, 1, none⟩ = some (.slice ao zs.length ac) ∧ w'.cell? ⟨w1.heap.size, 0, none⟩ = some (.int .i64 0) ∧ w'.cell? ⟨w1.heap.size, 1, none⟩ = some (.slice none 0 0)) (go_keep) (first
      | (go_at_call 39; refine (HOU.out _ (HCE.out _ (by first | exact Y1.out | exact Y1.out.drew)).2.2).mono ?_; rintro e y2 ⟨so2, sc2, rfl, hy⟩; have Y2 : Hid (Below W2.heap.size W2 y2) := (by first | exact btr Y1.out hy | exact btr Y1.out.drew hy); clear c0 c1 cs e0 e1 es b0 b1 y0 y1 yl; obtain ⟨⟨c0, c1, cs⟩, ⟨e0, e1, es⟩, _⟩ := HCE.out y2 Y2.out; obtain ⟨⟨b0, b1, y0, y1⟩, yl⟩ := HYB.out y2 Y2.out; clear hy)
      | (go_at_call 38; refine (HIN.out _ (HCE.out _ (by first | exact H3.out | exact H3.out.drew)).2.2).mono ?_; rintro e y1' ⟨so1, sc1, rfl, hy⟩; have Y1 : Hid (Below W2.heap.size W2 y1') := (by first | exact btr H3.out hy | exact btr H3.out.drew hy); clear c0 c1 cs e0 e1 es b0 b1 y0 y1 yl; obtain ⟨⟨c0, c1, cs⟩, ⟨e0, e1, es⟩, _⟩ := HCE.out y1' Y1.out; obtain ⟨⟨b0, b1, y0, y1⟩, yl⟩ := HYB.out y1' Y1.out; clear hy))
    all_goals
      go_wp2
      refine bodyPost_ret (v := .tuple #[.int .i64 ((dl : Int) - (li : Int) - (lo : Int)), .agg #[.int .i64 0, .slice none 0 0]]) (by simp [results, Tryz.results14, go_sem, b0, b1]) rfl ?_
      rw [HDL.out.2, HDL.out.1.1, HAV.out.2.2]
      exact ⟨rfl, by first | exact Below.layAt (HG.out y2 (HCE.out y2 Y2.out).2.2).2.2.2.2 (by omega) _ _ | exact (Below.layAt (HG.out y2 (HCE.out y2 Y2.out).2.2).2.2.2.2 (by omega) _ _).drew⟩
end
end Go.Proofs.YtbkclhaonbjobaaGreatDoor.Wt

namespace Go.Proofs.YtbkclhaonbjobaaGreatDoor.Wt
open Go Go.RowKit Go.Extern Go.Deep

attribute [local go_sem] Oper.semAt_some

theorem alive_at {n : Nat} {bs : List Bool} {k : Nat} (hk : k < n) : aliveB n bs (k : Int) = liv bs k := by
  cases h : liv bs k with
  | true => exact aliveB_iff.2 ⟨k, rfl, hk, h⟩
  | false =>
    cases h2 : aliveB n bs (k : Int) with
    | false => rfl
    | true =>
      obtain ⟨u, e, _, h3⟩ := aliveB_iff.1 h2
      have : k = u := by omega
      subst this
      rw [h] at h3
      cases h3
section
variable {PX : Nat → Option Obj} {w : World} {B0 pb n : Nat} {bs : List Bool} {R : Bool → Nat → Rw} {zs : List A4} {fo ao : Option Addr} {fc ac : Nat}
set_option maxRecDepth 100000 in
set_option maxHeartbeats 32000000 in
theorem same_law (h : Both PX B0 w pb n bs R zs (.slice fo n fc) (.slice ao zs.length ac)) (hzl : zs.length ≤ 200000) :
    Calls Tryz.prog 15 #[.pointer (some ⟨pb, 0, none⟩), .agg #[.slice fo n fc, .slice ao zs.length ac]] w fun e w' => e = .returned (.bool true) ∧ Below w.heap.size w w' := by
  obtain ⟨W0, hW0⟩ : ∃ W0, w.alloc (.cells #[.slice fo n fc, .slice ao zs.length ac] 33) = W0 := ⟨_, rfl⟩
  have HW0 : Hid (w.alloc (.cells #[.slice fo n fc, .slice ao zs.length ac] 33) = W0) := hW0
  have hB0 : Below w.heap.size w W0 := by rw [← hW0]; exact bel_one _ _
  have hbx : W0.heap[w.heap.size]? = some (.cells #[.slice fo n fc, .slice ao zs.length ac] 33) := by rw [← hW0]; exact heap_new _ _
  have HG : Hid (∀ wx, Below W0.heap.size W0 wx → (wx.cell? ⟨w.heap.size, 0, none⟩ = some (.slice fo n fc) ∧ wx.cell? ⟨w.heap.size, 1, none⟩ = some (.slice ao zs.length ac) ∧ w.heap.size < wx.heap.size) ∧ Both PX B0 wx pb n bs R zs (.slice fo n fc) (.slice ao zs.length ac) ∧ Below w.heap.size w wx) := fun wx hwx => by
    have hgg := (hwx.block _ (lt_of_get hbx)).trans hbx
    have hb := hB0.trans (hwx.mono hB0.size)
    exact ⟨⟨(cell_two hgg).1, (cell_two hgg).2.1, lt_of_get hgg⟩, h.keep hb, hb⟩
  have HLN : Hid (∀ wx, Below W0.heap.size W0 wx → Calls Tryz.prog 40 #[.pointer (some ⟨pb, 0, none⟩)] wx fun e w' => e = .returned (.int .i64 ((aliveN n bs : Nat) : Int)) ∧ w' = wx) := fun wx hx => (HG.out wx hx).2.1.ov.len
  have HAR : Hid (∀ wx, Below W0.heap.size W0 wx → Calls Tryz.prog 42 #[.pointer (some ⟨pb, 0, none⟩)] wx fun e w' => e = .returned (.int .i64 ((zs.length : Nat) : Int)) ∧ w' = wx) := fun wx hx => (HG.out wx hx).2.1.ov.narcs
  have HLE : Hid (∀ wx, Below W0.heap.size W0 wx → Calls Tryz.prog 41 #[.agg #[.slice fo n fc, .slice ao zs.length ac]] wx fun e w' => e = .returned (.int .i64 ((aliveN n bs : Nat) : Int)) ∧ Below wx.heap.size wx w') := fun wx hx => rLen11_calls fo fc n bs (HG.out wx hx).2.1.ov.bl.1 ao zs.length ac wx (HG.out wx hx).2.1.hasFl (HG.out wx hx).2.1.ov.bl.2
  have HAL : Hid (∀ wx, Below W0.heap.size W0 wx → ∀ k : Nat, k < n → Calls Tryz.prog 43 #[.pointer (some ⟨pb, 0, none⟩), .int .i64 (k : Int)] wx fun e w' => e = .returned (.bool (liv bs k)) ∧ w' = wx) := fun wx hx k hk => by
    have q := (HG.out wx hx).2.1.ov.alive (k : Int)
    rw [alive_at hk] at q
    exact q
  have HFL : Hid (∀ wx, Below W0.heap.size W0 wx → ∀ k : Nat, k < n → ∃ g, fo = some ⟨g, 0, none⟩ ∧ g < wx.heap.size ∧ wx.cell? ⟨g, k, none⟩ = some (.bool (liv bs k))) := fun wx hx k hk => (HG.out wx hx).2.1.hasFl.at (by rw [(HG.out wx hx).2.1.ov.bl.1]; exact hk)
  have HOO : Hid (∀ wx, Below W0.heap.size W0 wx → ∀ x, Calls Tryz.prog 22 #[.pointer (some ⟨pb, 0, none⟩), .int .i64 x] wx fun e w' => ∃ so sc, e = .returned (.slice so (outM n bs R false x).length sc) ∧ HasHs w' (.slice so (outM n bs R false x).length sc) (outM n bs R false x) ∧ Below wx.heap.size wx w') := fun wx hx x => (HG.out wx hx).2.1.ov.outM x
  have HRO : Hid (∀ wx, Below W0.heap.size W0 wx → ∀ x, Calls Tryz.prog 39 #[.agg #[.slice fo n fc, .slice ao zs.length ac], .int .i64 x] wx fun e w' => ∃ so sc, e = .returned (.slice so (outM n bs R false x).length sc) ∧ HasHs w' (.slice so (outM n bs R false x).length sc) (outM n bs R false x) ∧ Below wx.heap.size wx w') := fun wx hx x => (HG.out wx hx).2.1.rout (by omega) x
  have HLX : Hid (∀ x, (outM n bs R false x).length ≤ 65536) := fun x => h.ov.outLe false x
  have hn65 : n ≤ 65536 := h.ov.bl.2
  obtain ⟨⟨c0, c1, cs⟩, _⟩ := HG.out W0 (Below.refl _ _)
  generalize aliveN n bs = A at *
  clear hW0 hB0 hbx h
  go_enter Tryz.func15, Tryz.ntmps15
  go_upto_region 1 with fail
  rw [HW0.out]
  go_region_held3 (fun w' => w'.cell? ⟨w.heap.size, 0, none⟩ = some (.slice fo n fc) ∧ w'.cell? ⟨w.heap.size, 1, none⟩ = some (.slice ao zs.length ac)) (go_keep) (first
    | (go_at_call 42; refine (HAR.out _ (by first | exact Y2.out | exact Y2.out.drew)).mono ?_; rintro e y3 ⟨rfl, hy⟩; have Y3 : Hid (Below W0.heap.size W0 y3) := (by subst hy; first | exact Y2.out | exact Y2.out.drew); clear c0 c1 cs; obtain ⟨⟨c0, c1, cs⟩, _⟩ := HG.out y3 Y3.out; clear hy)
    | (go_at_call 41; refine (HLE.out _ (by first | exact Y1.out | exact Y1.out.drew)).mono ?_; rintro e y2 ⟨rfl, hy⟩; have Y2 : Hid (Below W0.heap.size W0 y2) := (by first | exact btr Y1.out hy | exact btr Y1.out.drew hy); clear c0 c1 cs; obtain ⟨⟨c0, c1, cs⟩, _⟩ := HG.out y2 Y2.out; clear hy)
    | (go_at_call 40; refine (HLN.out _ (by first | exact Below.refl _ _ | exact (Below.refl _ _).drew)).mono ?_; rintro e y1 ⟨rfl, hy⟩; have Y1 : Hid (Below W0.heap.size W0 y1) := (by subst hy; first | exact Below.refl _ _ | exact (Below.refl _ _).drew); clear c0 c1 cs; obtain ⟨⟨c0, c1, cs⟩, _⟩ := HG.out y1 Y1.out; clear hy))
  all_goals
    go_wp2_with fail
    go_loopw [25] (fun iv wr => ∃ k : Nat, k ≤ n ∧ iv = .int .i64 k ∧ Below W0.heap.size W0 wr) (fun iv _ => n - (intOf iv).toNat)
    case atStart => exact ⟨0, Nat.zero_le _, rfl, Y3.out⟩
    case round =>
      obtain ⟨k, hk, rfl, hb⟩ := hrel
      have HR : Hid (Below W0.heap.size W0 wr) := hb
      clear hb Y1 Y2 Y3 c0 c1 cs
      obtain ⟨⟨c0, c1, cs⟩, _⟩ := HG.out wr HR.out
      by_cases hlt : k < n
      · have i1 : (k : Int) < (n : Int) := by omega
        have i2 : (0 : Int) ≤ (k : Int) := by omega
        have HKN : Hid (k < n) := hlt
        obtain ⟨L, hL⟩ : ∃ L, outM n bs R false (k : Int) = L := ⟨_, rfl⟩
        have HLL : Hid (L.length ≤ 65536) := by rw [← hL]; exact HLX.out _
        have HO1 : Hid (∀ wx, Below W0.heap.size W0 wx → Calls Tryz.prog 22 #[.pointer (some ⟨pb, 0, none⟩), .int .i64 (k : Int)] wx fun e w' => ∃ so sc, e = .returned (.slice so L.length sc) ∧ HasHs w' (.slice so L.length sc) L ∧ Below wx.heap.size wx w') := fun wx hx => by
          have q := HOO.out wx hx (k : Int)
          rw [hL] at q
          exact q
        have HO2 : Hid (∀ wx, Below W0.heap.size W0 wx → Calls Tryz.prog 39 #[.agg #[.slice fo n fc, .slice ao zs.length ac], .int .i64 (k : Int)] wx fun e w' => ∃ so sc, e = .returned (.slice so L.length sc) ∧ HasHs w' (.slice so L.length sc) L ∧ Below wx.heap.size wx w') := fun wx hx => by
          have q := HRO.out wx hx (k : Int)
          rw [hL] at q
          exact q
        clear hL hlt
        go_wp2_with fail
        go_region_held3 (fun w' => w'.cell? ⟨w.heap.size, 0, none⟩ = some (.slice fo n fc) ∧ w'.cell? ⟨w.heap.size, 1, none⟩ = some (.slice ao zs.length ac)) (go_keep) (first
          | (go_at_call 39; refine (HO2.out _ (by first | exact Y1.out.1 | exact Y1.out.1.drew)).mono ?_; rintro e y2 ⟨s2, t2, rfl, hh, hy⟩; have Y2 : Hid (Below W0.heap.size W0 y2 ∧ HasHs y2 (.slice s1 L.length t1) L ∧ HasHs y2 (.slice s2 L.length t2) L) := ⟨by first | exact btr Y1.out.1 hy | exact btr Y1.out.1.drew hy, by first | exact Y1.out.2.keep hy | exact (Y1.out.2.keep (Below.refl _ _).drew).keep hy, hh⟩; clear c0 c1 cs; obtain ⟨⟨c0, c1, cs⟩, _⟩ := HG.out y2 Y2.out.1; clear hy hh)
          | (go_at_call 22; refine (HO1.out _ (by first | exact HR.out | exact HR.out.drew)).mono ?_; rintro e y1 ⟨s1, t1, rfl, hh, hy⟩; have Y1 : Hid (Below W0.heap.size W0 y1 ∧ HasHs y1 (.slice s1 L.length t1) L) := ⟨by first | exact btr HR.out hy | exact btr HR.out.drew hy, hh⟩; clear c0 c1 cs; obtain ⟨⟨c0, c1, cs⟩, _⟩ := HG.out y1 Y1.out.1; clear hy hh))
        all_goals
          obtain ⟨g, hfo, gl, gc⟩ := HFL.out y2 Y2.out.1 k HKN.out
          subst hfo
          have HGC : Hid (∀ wx, Below W0.heap.size W0 wx → g < wx.heap.size ∧ wx.cell? ⟨g, k, none⟩ = some (.bool (liv bs k))) := fun wx hx => by
            obtain ⟨g', e, h1, h2⟩ := HFL.out wx hx k HKN.out
            injection e with e
            injection e with e
            subst e
            exact ⟨h1, h2⟩
          have hll : L.length ≤ 65536 := HLL.out
          go_wp2_with fail
          go_region_held3 (fun w' => w'.cell? ⟨w.heap.size, 0, none⟩ = some (.slice (some ⟨g, 0, none⟩) n fc) ∧ w'.cell? ⟨w.heap.size, 1, none⟩ = some (.slice ao zs.length ac) ∧ w'.cell? ⟨g, k, none⟩ = some (.bool (liv bs k))) (go_keep) (first
            | (go_at_call 43; refine (HAL.out _ (by first | exact Y2.out.1 | exact Y2.out.1.drew) k HKN.out).mono ?_; rintro e y3 ⟨rfl, hy⟩; have Y3 : Hid (Below W0.heap.size W0 y3 ∧ HasHs y3 (.slice s1 L.length t1) L ∧ HasHs y3 (.slice s2 L.length t2) L) := (by subst hy; first | exact Y2.out | exact ⟨Y2.out.1.drew, Y2.out.2.1.keep (Below.refl _ _).drew, Y2.out.2.2.keep (Below.refl _ _).drew⟩); clear c0 c1 cs gl gc; obtain ⟨⟨c0, c1, cs⟩, _⟩ := HG.out y3 Y3.out.1; obtain ⟨gl, gc⟩ := HGC.out y3 Y3.out.1; clear hy))
          all_goals
            go_wp2_with fail
            go_loopw [52] (fun iv wr => ∃ j : Nat, j ≤ L.length ∧ iv = .int .i64 j ∧ Below y3.heap.size y3 wr) (fun iv _ => L.length - (intOf iv).toNat)
            case atStart => exact ⟨0, Nat.zero_le _, rfl, Below.refl _ _⟩
            case round =>
              obtain ⟨j, hj, rfl, hb⟩ := hrel
              have HJ : Hid (Below y3.heap.size y3 wr ∧ Below W0.heap.size W0 wr) := ⟨hb, btr Y3.out.1 hb⟩
              clear hb c0 c1 cs gl gc
              by_cases hjl : j < L.length
              · obtain ⟨a, ha⟩ : ∃ a, L[j]? = some a := ⟨L[j], List.getElem?_eq_getElem hjl⟩
                obtain ⟨b1, o1, e1, l1, x0, x1, x2⟩ := (Y3.out.2.1.keep HJ.out.1).at ha
                obtain ⟨b2, o2, e2, l2, z0, z1, z2⟩ := (Y3.out.2.2.keep HJ.out.1).at ha
                subst e1
                subst e2
                obtain ⟨a0, a1, a2⟩ := a
                simp only at x0 x1 x2 z0 z1 z2
                have j1 : (j : Int) < (L.length : Int) := by omega
                have j2 : (0 : Int) ≤ (j : Int) := by omega
                clear ha
                go_wp2_with fail
                go_quiet (fail)
                have HB8 : Hid (Below y3.heap.size y3 (wr.drewN nq)) := below_drewN HJ.out.1 nq
                go_wp2
                go_roundw
                case rel => exact ⟨j + 1, by omega, by go_num, HB8.out⟩
                case measure => simp [intOf]; omega
              · obtain rfl : j = L.length := by omega
                go_wp2
                go_roundw
                case rel => exact ⟨k + 1, by have := HKN.out; omega, by go_num, HJ.out.2⟩
                case measure => have := HKN.out; simp [intOf]; omega
      · obtain rfl : k = n := by omega
        have HZ : Hid (Below w.heap.size w wr) := (HG.out wr HR.out).2.2
        go_wp2
        go_ret
        exact ⟨rfl, HZ.out⟩
end
end Go.Proofs.YtbkclhaonbjobaaGreatDoor.Wt

namespace Go.Proofs.YtbkclhaonbjobaaGreatDoor.Wt
open Go Go.RowKit Go.Extern Go.Deep

attribute [local go_sem] Oper.semAt_some

section
variable {PX : Nat → Option Obj} {w : World} {B0 pb n : Nat} {bs : List Bool} {R : Bool → Nat → Rw} {zs : List A4} {av lv : Value}
theorem need_doc (h : Both PX B0 w pb n bs R zs av lv) (hz : ZB zs) (hn : n ≤ 512) (v o0 o1 o2 o3 o4 : Int) :
    Calls Tryz.prog 8 #[.pointer (some ⟨pb, 0, none⟩), .int .i64 v, .agg #[.int .i64 o0, .int .i64 o1, .int .i64 o2, .int .i64 o3, .int .i64 o4]] w fun e w' => ∃ so sc ev, e = .returned (.tuple #[.slice so (docN n bs R v (min (max o0 0) 1048576) (min (max o1 0) 1048576)).length sc, ev]) ∧ HasSs w' (.slice so (docN n bs R v (min (max o0 0) 1048576) (min (max o1 0) 1048576)).length sc) (docN n bs R v (min (max o0 0) 1048576) (min (max o1 0) 1048576)) ∧ IsTold w' (docE n bs v, []) ev ∧ Below w.heap.size w w' := by
  refine (need_calls h.ov h.tie hz hn v o0 o1 o2 o3 o4).mono ?_
  unfold docN docE
  rintro e w' ⟨hb, ⟨hf, rfl⟩ | ⟨ht, so, sc, rfl, ho⟩⟩
  · rw [hf]
    exact ⟨none, 0, _, rfl, hasSs_nil _ _ _, told_bare w' (by decide), hb⟩
  · rw [ht]
    exact ⟨so, sc, _, rfl, ss_of_row ho, Or.inl ⟨rfl, rfl⟩, hb⟩
theorem diff_doc (h : Both PX B0 w pb n bs R zs av lv) (hz : ZB zs) (hn : n ≤ 512) (v o0 o1 o2 o3 o4 : Int) :
    Calls Tryz.prog 13 #[.pointer (some ⟨pb, 0, none⟩), .int .i64 v, .agg #[.int .i64 o0, .int .i64 o1, .int .i64 o2, .int .i64 o3, .int .i64 o4]] w fun e w' => ∃ ev, e = .returned (.tuple #[.int .i64 (docD n bs R v (min (max o0 0) 1048576) (min (max o1 0) 1048576)), ev]) ∧ IsTold w' (docE n bs v, []) ev ∧ Below w.heap.size w w' := by
  refine (diff_calls h.ov h.tie hz hn v o0 o1 o2 o3 o4).mono ?_
  unfold docD docE
  rintro e w' ⟨hb, ⟨hf, rfl⟩ | ⟨ht, rfl⟩⟩
  · rw [hf]
    exact ⟨_, rfl, told_bare w' (by decide), hb⟩
  · rw [ht, if_pos rfl]
    refine ⟨_, ?_, Or.inl ⟨rfl, rfl⟩, hb⟩
    congr 5
    omega
end
set_option maxRecDepth 100000 in
set_option maxHeartbeats 32000000 in
theorem sneed_yes (n : Nat) (ao : Option Addr) (cap : Nat) (xs : List (Int × Int × Int)) (w : World) (hX : HasArcs w (.slice ao xs.length cap) xs) (hxl : xs.length ≤ maxLen) (hfew : fewB (n : Int) xs 12 = true) (hg : graphErr (n : Int) xs = (0, [])) (oo : Option Addr) (oc : Nat) (ops : List Op5) (hO : HasOp5 w (.slice oo ops.length oc) ops) (h60 : ops.length ≤ 60) (hwt : ∀ q ∈ ops, 0 ≤ q.2.2.2.1)
    (v o0 o1 o2 o3 o4 : Int) (hty : HasType w) :
    Calls Tryz.prog 3 #[.agg #[.int .i64 (n : Int), .slice ao xs.length cap], .slice oo ops.length oc, .int .i64 v, .agg #[.int .i64 o0, .int .i64 o1, .int .i64 o2, .int .i64 o3, .int .i64 o4]] w fun e w' => e = .returned (.bool true) ∧ Below w.heap.size w w' := by
  have hn12 : n ≤ 12 := by have h := (of_decide_eq_true hfew).2.1; omega
  obtain ⟨W0, hW0⟩ : ∃ W0, (w.alloc (.cells #[.int .i64 (n : Int), .slice ao xs.length cap] 24)).alloc (optObj o0 o1 o2 o3 o4) = W0 := ⟨_, rfl⟩
  obtain ⟨hbx, hk0, hB0⟩ := two_new w (.cells #[.int .i64 (n : Int), .slice ao xs.length cap] 24) (optObj o0 o1 o2 o3 o4)
  rw [hW0] at hbx hk0 hB0
  have HW0 : Hid ((w.alloc (.cells #[.int .i64 (n : Int), .slice ao xs.length cap] 24)).alloc (.cells #[.int .i64 o0, .int .i64 o1, .int .i64 o2, .int .i64 o3, .int .i64 o4] 27) = W0) := hW0
  have HG : Hid (∀ wx, Below W0.heap.size W0 wx → (wx.cell? ⟨w.heap.size, 0, none⟩ = some (.int .i64 (n : Int)) ∧ wx.cell? ⟨w.heap.size, 1, none⟩ = some (.slice ao xs.length cap) ∧ w.heap.size < wx.heap.size) ∧ wx.heap[w.heap.size + 1]? = some (optObj o0 o1 o2 o3 o4) ∧ HasType wx ∧ Below w.heap.size w wx) := fun wx hwx => by
    have hgg := (hwx.block _ (lt_of_get hbx)).trans hbx
    have hb := hB0.trans (hwx.mono hB0.size)
    exact ⟨⟨(cell_two hgg).1, (cell_two hgg).2.1, lt_of_get hgg⟩, (hwx.block _ (lt_of_get hk0)).trans hk0, hty.keep hb hty.pos, hb⟩
  have HLA : Hid (∀ wx, Below W0.heap.size W0 wx → Calls Tryz.prog 7 #[.agg #[.int .i64 (n : Int), .slice ao xs.length cap], .slice oo ops.length oc] wx fun e w' => LaidA n wx e w') := fun wx hwx => laid_yes n ao cap xs wx (hX.keep (HG.out wx hwx).2.2.2) hxl hfew hg oo oc ops (hO.keep (HG.out wx hwx).2.2.2) h60 hwt
  have HAW : Hid (type_of% (awake13_calls W0)) := awake13_calls W0
  have HNN : Hid (n ≤ 12) := hn12
  clear hW0 hB0 hbx hk0 hX hO hfew hg hwt hty
  go_enter Tryz.func3, Tryz.ntmps3
  go_wp2_with fail
  rw [HW0.out]
  refine HAW.out.mono ?_
  rintro e w1 ⟨rfl, hb1⟩
  have HB1 : Hid (Below W0.heap.size W0 w1) := hb1
  clear hb1 HAW
  obtain ⟨⟨g0, g1, gl⟩, _⟩ := HG.out w1 HB1.out
  go_wp2_with fail
  refine (HLA.out w1 HB1.out).mono ?_
  rintro e w2 ⟨pb, PX, bs, R, zs, fo, fc, eo, ec, rfl, hB, ⟨hzb, hzl⟩, hb2⟩
  clear g0 g1 gl
  obtain ⟨W3, hW3⟩ : ∃ W3, w2.alloc (.cells #[.slice fo n fc, .slice eo zs.length ec] 33) = W3 := ⟨_, rfl⟩
  have HW3 : Hid (w2.alloc (.cells #[.slice fo n fc, .slice eo zs.length ec] 33) = W3) := hW3
  have b3 : Below w2.heap.size w2 W3 := by rw [← hW3]; exact bel_one _ _
  have k3 : W3.heap[w2.heap.size]? = some (.cells #[.slice fo n fc, .slice eo zs.length ec] 33) := by rw [← hW3]; exact heap_new _ _
  have hBW : Below W0.heap.size W0 W3 := btr HB1.out (btr hb2 b3)
  have h3b := hB.keep b3
  have HZZ : Hid (ZB zs ∧ zs.length ≤ 200000) := ⟨hzb, hzl⟩
  have HK : Hid (∀ wx, Below W3.heap.size W3 wx → (wx.cell? ⟨w2.heap.size, 0, none⟩ = some (.slice fo n fc) ∧ wx.cell? ⟨w2.heap.size, 1, none⟩ = some (.slice eo zs.length ec) ∧ w2.heap.size < wx.heap.size) ∧ wx.heap[w.heap.size + 1]? = some (optObj o0 o1 o2 o3 o4) ∧ Both PX w1.heap.size wx pb n bs R zs (.slice fo n fc) (.slice eo zs.length ec) ∧ HasType wx ∧ Below w.heap.size w wx) := fun wx hx => by
    have h := (hx.block _ (lt_of_get k3)).trans k3
    have hb := btr hBW hx
    exact ⟨⟨(cell_two h).1, (cell_two h).2.1, lt_of_get h⟩, (HG.out wx hb).2.1, h3b.keep hx, (HG.out wx hb).2.2.1, (HG.out wx hb).2.2.2⟩
  clear hB hzb hzl hb2 hW3 b3 k3 hBW h3b
  obtain ⟨_, hob, hbo, _⟩ := HK.out W3 (Below.refl _ _)
  obtain ⟨p0, p1, ps⟩ := opt_cells hob
  obtain ⟨p2, p3, p4⟩ := opt_all hob
  have HN3 : Hid (type_of% (need_doc hbo HZZ.out.1 (by have := HNN.out; omega) v o0 o1 o2 o3 o4)) := need_doc hbo HZZ.out.1 (by have := HNN.out; omega) v o0 o1 o2 o3 o4
  have HSZ : Hid (∀ wx, Below W3.heap.size W3 wx → type_of% (docNeed_calls hbo HZZ.out.2 HZZ.out.1 HNN.out v o0 o1 o2 o3 o4)) := fun wx hx => docNeed_calls hbo HZZ.out.2 HZZ.out.1 HNN.out v o0 o1 o2 o3 o4
  clear HSZ hob hbo
  have HDN : Hid (∀ wx, Below W3.heap.size W3 wx → Calls Tryz.prog 9 #[.agg #[.slice fo n fc, .slice eo zs.length ec], .int .i64 v, .agg #[.int .i64 o0, .int .i64 o1, .int .i64 o2, .int .i64 o3, .int .i64 o4]] wx fun e w' => ∃ so sc, e = .returned (.tuple #[.slice so (docN n bs R v (min (max o0 0) 1048576) (min (max o1 0) 1048576)).length sc, .agg #[.int .i64 (docE n bs v), .slice none 0 0]]) ∧ HasSs w' (.slice so (docN n bs R v (min (max o0 0) 1048576) (min (max o1 0) 1048576)).length sc) (docN n bs R v (min (max o0 0) 1048576) (min (max o1 0) 1048576)) ∧ Below wx.heap.size wx w') := fun wx hx => docNeed_calls (HK.out wx hx).2.2.1 HZZ.out.2 HZZ.out.1 HNN.out v o0 o1 o2 o3 o4
  have HDF : Hid (∀ wx, Below W3.heap.size W3 wx → Calls Tryz.prog 13 #[.pointer (some ⟨pb, 0, none⟩), .int .i64 v, .agg #[.int .i64 o0, .int .i64 o1, .int .i64 o2, .int .i64 o3, .int .i64 o4]] wx fun e w' => ∃ ev, e = .returned (.tuple #[.int .i64 (docD n bs R v (min (max o0 0) 1048576) (min (max o1 0) 1048576)), ev]) ∧ IsTold w' (docE n bs v, []) ev ∧ Below wx.heap.size wx w') := fun wx hx => diff_doc (HK.out wx hx).2.2.1 HZZ.out.1 (by have := HNN.out; omega) v o0 o1 o2 o3 o4
  have HDD : Hid (∀ wx, Below W3.heap.size W3 wx → Calls Tryz.prog 14 #[.agg #[.slice fo n fc, .slice eo zs.length ec], .int .i64 v, .agg #[.int .i64 o0, .int .i64 o1, .int .i64 o2, .int .i64 o3, .int .i64 o4]] wx fun e w' => e = .returned (.tuple #[.int .i64 (docD n bs R v (min (max o0 0) 1048576) (min (max o1 0) 1048576)), .agg #[.int .i64 (docE n bs v), .slice none 0 0]]) ∧ Below wx.heap.size wx w') := fun wx hx => docDiff_calls (HK.out wx hx).2.2.1 HZZ.out.2 HZZ.out.1 HNN.out v o0 o1 o2 o3 o4
  have HSM : Hid (∀ wx, Below W3.heap.size W3 wx → Calls Tryz.prog 15 #[.pointer (some ⟨pb, 0, none⟩), .agg #[.slice fo n fc, .slice eo zs.length ec]] wx fun e w' => e = .returned (.bool true) ∧ Below wx.heap.size wx w') := fun wx hx => same_law (HK.out wx hx).2.2.1 HZZ.out.2
  have HSE : Hid (∀ wx ev, Below W3.heap.size W3 wx → IsTold wx (docE n bs v, []) ev → Calls Tryz.prog 12 #[ev, .agg #[.int .i64 (docE n bs v), .slice none 0 0]] wx fun e w' => e = .returned (.bool true) ∧ Below wx.heap.size wx w') := fun wx ev hx ht => seen_told (docE n bs v, []) ev none 0 wx ht (places_none wx) (by simp) (HK.out wx hx).2.2.2.1
  have HDL : Hid ((docN n bs R v (min (max o0 0) 1048576) (min (max o1 0) 1048576)).length ≤ 1000000) := by
    have hbo := (HK.out W3 (Below.refl _ _)).2.2.1
    have hn := HNN.out
    have h1 := half_few hbo.ov.inv true v
    have h2 := flat_len (needI n bs R v (min (max o0 0) 1048576) (min (max o1 0) 1048576)) 12 (outM n bs R true v) (fun i => Nat.le_trans (needI_len hbo.ov.inv v _ _ i) hn)
    show _ ≤ _
    unfold docN needL
    split
    · omega
    · simp
  generalize docN n bs R v (min (max o0 0) 1048576) (min (max o1 0) 1048576) = NL at *
  generalize docD n bs R v (min (max o0 0) 1048576) (min (max o1 0) 1048576) = dd at *
  generalize docE n bs v = er at *
  go_upto_region 4 with fail
  rw [HW3.out]
  go_wp2_with fail
  refine HN3.out.mono ?_
  rintro e w4 ⟨so, sc, ev, rfl, hs4, ht4, hb4⟩
  have H4 : Hid (HasSs w4 (.slice so NL.length sc) NL ∧ IsTold w4 (er, []) ev ∧ Below W3.heap.size W3 w4) := ⟨hs4, ht4, hb4⟩
  clear hs4 ht4 hb4 HN3 p0 p1 ps p2 p3 p4
  obtain ⟨⟨c0, c1, cs⟩, hob, _⟩ := HK.out w4 H4.out.2.2
  obtain ⟨p0, p1, ps⟩ := opt_cells hob
  obtain ⟨p2, p3, p4⟩ := opt_all hob
  have HD4 : Hid (type_of% (HDN.out w4 H4.out.2.2)) := HDN.out w4 H4.out.2.2
  clear hob
  go_wp2_with fail
  refine HD4.out.mono ?_
  rintro e w5 ⟨ro, rc, rfl, hs5, hb5⟩
  obtain ⟨W6, hW6⟩ : ∃ W6, w5.alloc (.cells #[.int .i64 er, .slice none 0 0] 44) = W6 := ⟨_, rfl⟩
  have HW6 : Hid (w5.alloc (.cells #[.int .i64 er, .slice none 0 0] 44) = W6) := hW6
  have b6 : Below w5.heap.size w5 W6 := by rw [← hW6]; exact bel_one _ _
  have k6 : W6.heap[w5.heap.size]? = some (.cells #[.int .i64 er, .slice none 0 0] 44) := by rw [← hW6]; exact heap_new _ _
  have H6 : Hid (HasSs W6 (.slice so NL.length sc) NL ∧ HasSs W6 (.slice ro NL.length rc) NL ∧ IsTold W6 (er, []) ev ∧ Below W3.heap.size W3 W6 ∧ W6.heap[w5.heap.size]? = some (.cells #[.int .i64 er, .slice none 0 0] 44) ∧ Below W3.heap.size W3 w5 ∧ Below w5.heap.size w5 W6) := ⟨(H4.out.1.keep hb5).keep b6, hs5.keep b6, H4.out.2.1.keep (Below.keeps (btr hb5 b6)), btr H4.out.2.2 (btr hb5 b6), k6, btr H4.out.2.2 hb5, b6⟩
  clear hs5 hb5 hW6 b6 k6 HD4 H4 c0 c1 cs p0 p1 ps p2 p3 p4
  have HOF : Hid (type_of% (of13_calls so sc NL W6 H6.out.1 HDL.out)) := of13_calls so sc NL W6 H6.out.1 HDL.out
  go_upto_region 8 with fail
  rw [HW6.out]
  go_wp2_with fail
  refine HOF.out.mono ?_
  rintro e w7 ⟨qo, qc, rfl, ho7, hb7⟩
  have H7 : Hid (HasSs w7 (.slice qo NL.length qc) NL ∧ HasSs w7 (.slice ro NL.length rc) NL ∧ Below W6.heap.size W6 w7) := ⟨ss_of_row ho7, H6.out.2.1.keep hb7, hb7⟩
  clear ho7 hb7 HOF
  have HS7 : Hid (type_of% (same13_yes qo ro qc rc NL w7 H7.out.1 H7.out.2.1 HDL.out)) := same13_yes qo ro qc rc NL w7 H7.out.1 H7.out.2.1 HDL.out
  go_wp2_with fail
  refine HS7.out.mono ?_
  rintro e w8 ⟨rfl, hb8⟩
  have H8 : Hid (Below W6.heap.size W6 w8) := btr H7.out.2.2 hb8
  clear hb8 HS7 H7
  have HEB : Hid (∀ wx, Below W6.heap.size W6 wx → wx.heap[w5.heap.size]? = some (.cells #[.int .i64 er, .slice none 0 0] 44)) := fun wx hx => (hx.block _ (lt_of_get H6.out.2.2.2.2.1)).trans H6.out.2.2.2.2.1
  have HE8 : Hid (type_of% (HSE.out w8 ev (btr H6.out.2.2.2.1 H8.out) (H6.out.2.2.1.keep (Below.keeps H8.out)))) := HSE.out w8 ev (btr H6.out.2.2.2.1 H8.out) (H6.out.2.2.1.keep (Below.keeps H8.out))
  obtain ⟨e0, e1, _, _⟩ := cell_two (HEB.out w8 H8.out)
  have es := lt_of_get (HEB.out w8 H8.out)
  go_wp2_with fail
  refine HE8.out.mono ?_
  rintro e w9 ⟨rfl, hb9⟩
  have H9 : Hid (Below W6.heap.size W6 w9) := btr H8.out hb9
  clear hb9 HE8 H8 e0 e1 es
  obtain ⟨⟨c0, c1, cs⟩, hob, _⟩ := HK.out w9 (btr H6.out.2.2.2.1 H9.out)
  obtain ⟨p0, p1, ps⟩ := opt_cells hob
  obtain ⟨p2, p3, p4⟩ := opt_all hob
  have HF9 : Hid (type_of% (HDF.out w9 (btr H6.out.2.2.2.1 H9.out))) := HDF.out w9 (btr H6.out.2.2.2.1 H9.out)
  clear hob
  go_wp2_with fail
  refine HF9.out.mono ?_
  rintro e w10 ⟨ev2, rfl, ht10, hb10⟩
  have H10 : Hid (Below W6.heap.size W6 w10 ∧ IsTold w10 (er, []) ev2) := ⟨btr H9.out hb10, ht10⟩
  clear hb10 ht10 HF9 H9 c0 c1 cs p0 p1 ps p2 p3 p4
  obtain ⟨⟨c0, c1, cs⟩, hob, _⟩ := HK.out w10 (btr H6.out.2.2.2.1 H10.out.1)
  obtain ⟨p0, p1, ps⟩ := opt_cells hob
  obtain ⟨p2, p3, p4⟩ := opt_all hob
  have HD10 : Hid (type_of% (HDD.out w10 (btr H6.out.2.2.2.1 H10.out.1))) := HDD.out w10 (btr H6.out.2.2.2.1 H10.out.1)
  clear hob
  go_wp2_with fail
  refine HD10.out.mono ?_
  rintro e w11 ⟨rfl, hb11⟩
  have H11 : Hid (Below W6.heap.size W6 w11 ∧ Below w10.heap.size w10 w11) := ⟨btr H10.out.1 hb11, hb11⟩
  clear hb11 HD10 c0 c1 cs p0 p1 ps p2 p3 p4
  obtain ⟨e0, e1, y0, y1⟩ := cell_two (HEB.out w11 H11.out.1)
  have es := lt_of_get (HEB.out w11 H11.out.1)
  obtain ⟨W12, hW12⟩ : ∃ W12, (w11.setCell ⟨w5.heap.size, 0, none⟩ (.int .i64 er)).setCell ⟨w5.heap.size, 1, none⟩ (.slice none 0 0) = W12 := ⟨_, rfl⟩
  have HW12 : Hid ((w11.setCell ⟨w5.heap.size, 0, none⟩ (.int .i64 er)).setCell ⟨w5.heap.size, 1, none⟩ (.slice none 0 0) = W12) := hW12
  have k12 : W12.heap[w5.heap.size]? = some (.cells #[.int .i64 er, .slice none 0 0] 44) := by rw [← hW12]; exact two_set (HEB.out w11 H11.out.1)
  have b12 : Below W3.heap.size W3 W12 := by
    rw [← hW12]
    exact ((btr H6.out.2.2.2.1 H11.out.1).setCell (p := ⟨w5.heap.size, 0, none⟩) H6.out.2.2.2.2.2.1.size _).setCell (p := ⟨w5.heap.size, 1, none⟩) H6.out.2.2.2.2.2.1.size _
  have ht12 : IsTold W12 (er, []) ev2 := by
    rcases H10.out.2 with h | ⟨h1, h2⟩
    · exact Or.inl h
    · exact Or.inr ⟨h1, h2⟩
  have H12 : Hid (Below W3.heap.size W3 W12 ∧ IsTold W12 (er, []) ev2) := ⟨b12, ht12⟩
  have HE12 : Hid (type_of% (HSE.out W12 ev2 b12 ht12)) := HSE.out W12 ev2 b12 ht12
  clear hW12 b12 ht12 H10 H11 HEB H6
  go_upto_region 12 with fail
  rw [HW12.out]
  clear e0 e1 y0 y1 es
  obtain ⟨e0, e1, _, _⟩ := cell_two k12
  have es := lt_of_get k12
  clear k12
  go_wp2_with fail
  refine HE12.out.mono ?_
  rintro e w13 ⟨rfl, hb13⟩
  have H13 : Hid (Below W3.heap.size W3 w13) := btr H12.out.1 hb13
  clear hb13 HE12 e0 e1 es
  obtain ⟨⟨c0, c1, cs⟩, _⟩ := HK.out w13 H13.out
  have HM13 : Hid (type_of% (HSM.out w13 H13.out)) := HSM.out w13 H13.out
  go_wp2_with fail
  refine HM13.out.mono ?_
  rintro e w14 ⟨rfl, hb14⟩
  have HZ : Hid (Below w.heap.size w w14) := (HK.out w14 (btr H13.out hb14)).2.2.2.2
  clear hb14 HM13 c0 c1 cs
  go_wp2
  go_ret
  exact ⟨by simp, HZ.out⟩
end Go.Proofs.YtbkclhaonbjobaaGreatDoor.Wt

namespace Go.Proofs.YtbkclhaonbjobaaGreatDoor.Wt
open Go Go.RowKit Go.Extern Go.Deep

attribute [local go_sem] Oper.semAt_some

set_option maxRecDepth 100000 in
set_option maxHeartbeats 8000000 in
theorem sneed_no (N : Int) (ao : Option Addr) (cap : Nat) (xs : List (Int × Int × Int)) (w : World) (hX : HasArcs w (.slice ao xs.length cap) xs) (hxl : xs.length ≤ maxLen) (oo : Option Addr) (oc lm : Nat) (hfar : fewB N xs 12 = false ∨ 60 < lm) (v o0 o1 o2 o3 o4 : Int) :
    Calls Tryz.prog 3 #[.agg #[.int .i64 N, .slice ao xs.length cap], .slice oo lm oc, .int .i64 v, .agg #[.int .i64 o0, .int .i64 o1, .int .i64 o2, .int .i64 o3, .int .i64 o4]] w fun e w' => e = .returned (.bool true) ∧ Below w.heap.size w w' := by
  obtain ⟨W0, hW0⟩ : ∃ W0, (w.alloc (.cells #[.int .i64 N, .slice ao xs.length cap] 24)).alloc (optObj o0 o1 o2 o3 o4) = W0 := ⟨_, rfl⟩
  obtain ⟨hbx, hk0, hB0⟩ := two_new w (.cells #[.int .i64 N, .slice ao xs.length cap] 24) (optObj o0 o1 o2 o3 o4)
  rw [hW0] at hbx hk0 hB0
  have HW0 : Hid ((w.alloc (.cells #[.int .i64 N, .slice ao xs.length cap] 24)).alloc (.cells #[.int .i64 o0, .int .i64 o1, .int .i64 o2, .int .i64 o3, .int .i64 o4] 27) = W0) := hW0
  have HG : Hid (∀ wx, Below W0.heap.size W0 wx → (wx.cell? ⟨w.heap.size, 0, none⟩ = some (.int .i64 N) ∧ wx.cell? ⟨w.heap.size, 1, none⟩ = some (.slice ao xs.length cap) ∧ w.heap.size < wx.heap.size) ∧ Below w.heap.size w wx) := fun wx hwx => by
    have hgg := (hwx.block _ (lt_of_get hbx)).trans hbx
    exact ⟨⟨(cell_two hgg).1, (cell_two hgg).2.1, lt_of_get hgg⟩, hB0.trans (hwx.mono hB0.size)⟩
  have HLA : Hid (∀ wx (hwx : Below W0.heap.size W0 wx), type_of% (laid_no N ao cap xs wx (hX.keep (HG.out wx hwx).2) hxl oo oc lm hfar)) := fun wx hwx => laid_no N ao cap xs wx (hX.keep (HG.out wx hwx).2) hxl oo oc lm hfar
  have HAW : Hid (type_of% (awake13_calls W0)) := awake13_calls W0
  clear hW0 hB0 hbx hk0 hX hfar
  go_enter Tryz.func3, Tryz.ntmps3
  go_wp2_with fail
  rw [HW0.out]
  refine HAW.out.mono ?_
  rintro e w1 ⟨rfl, hb1⟩
  have HB1 : Hid (Below W0.heap.size W0 w1) := hb1
  clear hb1 HAW
  obtain ⟨⟨g0, g1, gs⟩, _⟩ := HG.out w1 HB1.out
  go_wp2_with fail
  refine (HLA.out w1 HB1.out).mono ?_
  rintro e w2 ⟨rfl, hb2⟩
  have HZ : Hid (Below w.heap.size w (w2.alloc (.cells #[.slice none 0 0, .slice none 0 0] 33))) := (HG.out _ (btr HB1.out (btr hb2 (bel_one _ _)))).2
  clear hb2 g0 g1 gs
  go_wp2
  go_ret
  exact ⟨rfl, HZ.out⟩
/-- the law, whatever it is handed. -/
theorem sneed_calls (N : Int) (ao : Option Addr) (cap : Nat) (xs : List (Int × Int × Int)) (w : World) (hX : HasArcs w (.slice ao xs.length cap) xs) (hxl : xs.length ≤ maxLen) (oo : Option Addr) (oc : Nat) (ops : List Op5) (hO : HasOp5 w (.slice oo ops.length oc) ops) (hwt : ∀ q ∈ ops, 0 ≤ q.2.2.2.1) (v o0 o1 o2 o3 o4 : Int) (hty : HasType w) :
    Calls Tryz.prog 3 #[.agg #[.int .i64 N, .slice ao xs.length cap], .slice oo ops.length oc, .int .i64 v, .agg #[.int .i64 o0, .int .i64 o1, .int .i64 o2, .int .i64 o3, .int .i64 o4]] w fun e w' => e = .returned (.bool true) ∧ Below w.heap.size w w' := by
  by_cases hfar : fewB N xs 12 = false ∨ 60 < ops.length
  · exact sneed_no N ao cap xs w hX hxl oo oc ops.length hfar v o0 o1 o2 o3 o4
  · obtain ⟨h1, h2⟩ := not_or.1 hfar
    have hb : fewB N xs 12 = true := by simpa using h1
    obtain ⟨hg, hN, _⟩ := of_decide_eq_true hb
    have hN0 := ((good_iff _ _).1 hg).1
    obtain ⟨n, rfl⟩ : ∃ n : Nat, N = (n : Int) := ⟨N.toNat, by omega⟩
    exact sneed_yes n ao cap xs w hX hxl hb hg oo oc ops hO (by omega) hwt v o0 o1 o2 o3 o4 hty
end Go.Proofs.YtbkclhaonbjobaaGreatDoor.Wt
