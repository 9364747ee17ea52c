/- ShortsFixed, walked. (Printed by gensk14.py.) -/
import Derived.Test.YtbkclhaonbjobaaGreatDoorQxX
namespace Go.Proofs.YtbkclhaonbjobaaGreatDoor.Wt
open Go Go.RowKit Go.Extern Go.Deep

attribute [local go_sem] Oper.semAt_some

theorem ss_two (w : World) (a b : S3) (T : TypeId) : HasSs (w.alloc (.cells #[.int .i64 a.1, .int .i64 a.2.1, .int .u64 a.2.2, .int .i64 b.1, .int .i64 b.2.1, .int .u64 b.2.2] T)) (.slice (some ⟨w.heap.size, 0, none⟩) 2 2) [a, b] := by
  have h := heap_new w (.cells #[.int .i64 a.1, .int .i64 a.2.1, .int .u64 a.2.2, .int .i64 b.1, .int .i64 b.2.1, .int .u64 b.2.2] T)
  generalize w.alloc (.cells #[.int .i64 a.1, .int .i64 a.2.1, .int .u64 a.2.2, .int .i64 b.1, .int .i64 b.2.1, .int .u64 b.2.2] T) = W at h ⊢
  refine ⟨some ⟨w.heap.size, 0, none⟩, 2, rfl, fun j x hj => ⟨w.heap.size, 0, rfl, lt_of_get h, ?_⟩⟩
  rcases j with _ | _ | j
  · simp at hj; subst hj; simp [World.cell?, h]
  · simp at hj; subst hj; simp [World.cell?, h]
  · simp at hj
/-- what the walk holds while the first graph is whole. -/
structure FX (w wx : World) (B pb fb : Nat) : Prop where
  ov : OvR zsQ wx B pb
  box : wx.heap[fb]? = some (optObj 5 5 0 0 0)
  below : Below w.heap.size w wx
theorem FX.keep {w wx wy : World} {B pb fb : Nat} (h : FX w wx B pb fb) (hb : Below wx.heap.size wx wy) : FX w wy B pb fb :=
  ⟨h.ov.keep hb, (hb.block _ (lt_of_get h.box)).trans h.box, h.below.trans (hb.mono h.below.size)⟩
/-- what it holds behind the contraction. -/
structure FY (w wx : World) (PX : Nat → Option Obj) (B pb fb : Nat) (bs : List Bool) (R : Bool → Nat → Rw) (Z : List A4) (ol : Value) (lv : Value) : Prop where
  ov : OvT PX B wx pb 4 bs R Z
  box : wx.heap[fb]? = some (optObj 5 5 0 0 0)
  one : HasSs wx ol [(0, 2, 5)]
  lst : HasSs wx lv [(0, 2, 5)]
  below : Below w.heap.size w wx
theorem FY.keep {w wx wy : World} {PX : Nat → Option Obj} {B pb fb : Nat} {bs : List Bool} {R : Bool → Nat → Rw} {Z : List A4} {ol lv : Value} (h : FY w wx PX B pb fb bs R Z ol lv) (hb : Below wx.heap.size wx wy) : FY w wy PX B pb fb bs R Z ol lv :=
  ⟨⟨h.ov.1.keep hb, h.ov.2⟩, (hb.block _ (lt_of_get h.box)).trans h.box, h.one.keep hb, h.lst.keep hb, h.below.trans (hb.mono h.below.size)⟩
set_option maxRecDepth 100000 in
set_option maxHeartbeats 64000000 in
theorem sfixed_calls (w : World) (hty : HasType w) : Calls Tryz.prog 5 #[] w fun e w' => e = .returned (.bool true) ∧ Below w.heap.size w w' := by
  have HTY : Hid (HasType w) := hty
  clear hty
  go_enter Tryz.func5, Tryz.ntmps5
  go_wp2_with fail
  refine (awake13_calls w).mono ?_
  rintro e wa ⟨rfl, hba⟩
  have HA : Hid (Below w.heap.size w wa) := hba
  clear hba
  obtain ⟨W1, hW1⟩ : ∃ W1, wa.alloc (optObj 5 5 0 0 0) = W1 := ⟨_, rfl⟩
  have HW1 : Hid (wa.alloc (.cells #[.int .i64 5, .int .i64 5, .int .i64 0, .int .i64 0, .int .i64 0] 27) = W1) := hW1
  have hb1 : Below wa.heap.size wa W1 := by rw [← hW1]; exact bel_one _ _
  have k1 : W1.heap[wa.heap.size]? = some (optObj 5 5 0 0 0) := by rw [← hW1]; exact heap_new _ _
  have H1 : Hid (W1.heap[wa.heap.size]? = some (optObj 5 5 0 0 0) ∧ Below w.heap.size w W1) := ⟨k1, btr HA.out hb1⟩
  obtain ⟨fb, hfb⟩ : ∃ fb, wa.heap.size = fb := ⟨_, rfl⟩
  rw [hfb] at H1
  clear hW1 hb1 k1
  go_upto_region 4 with fail
  rw [HW1.out]
  try rw [hfb]
  clear hfb HW1 HA
  go_wp2_with fail
  refine (four12_calls W1).mono ?_
  rintro e w1 ⟨ab, rfl, hA, hb1⟩
  have H2 : Hid (HasArcs w1 (.slice (some ⟨ab, 0, none⟩) 4 4) xsQ ∧ w1.heap[fb]? = some (optObj 5 5 0 0 0) ∧ Below w.heap.size w w1) := ⟨hA, (hb1.block _ (lt_of_get H1.out.1)).trans H1.out.1, btr H1.out.2 hb1⟩
  clear hA hb1 H1
  go_wp2_with fail
  refine (newR_calls H2.out.1).mono ?_
  rintro e w2 ⟨pb, rfl, hO, hb2⟩
  have HX : Hid (FX w w2 w1.heap.size pb fb) := ⟨hO, (hb2.block _ (lt_of_get H2.out.2.1)).trans H2.out.2.1, btr H2.out.2.2 hb2⟩
  have HF : Hid (fb < w1.heap.size ∧ w1.heap.size ≤ w2.heap.size ∧ w.heap.size ≤ w1.heap.size) := ⟨lt_of_get H2.out.2.1, hb2.size, H2.out.2.2.size⟩
  have H20 : Hid (OvR zsQ w2 w1.heap.size pb ∧ Below w2.heap.size w2 w2) := ⟨hO, Below.refl _ _⟩
  clear hO hb2 H2
  obtain ⟨c0, c1, cs⟩ := opt_cells HX.out.box
  obtain ⟨c2, c3, c4⟩ := opt_all HX.out.box
  have HC : Hid (type_of% (HX.out.ov.need 2 5 5 0 0 0 [(0, 3, 11), (1, 3, 3)] rfl sf_a)) := HX.out.ov.need 2 5 5 0 0 0 [(0, 3, 11), (1, 3, 3)] rfl sf_a
  go_wp2_with fail
  refine HC.out.mono ?_
  rintro e w3 ⟨hb, soA, scA, rfl, hs⟩
  have HX9 : Hid (FX w w3 w1.heap.size pb fb) := HX.out.keep hb
  have HB9 : Hid (Below w2.heap.size w2 w3) := btr H20.out.2 hb
  have HSA : Hid (HasSs w3 (.slice soA 2 scA) [(0, 3, 11), (1, 3, 3)]) := hs
  clear hs
  clear HC HX  c0 c1 c2 c3 c4 cs
  have HX : Hid (FX w w3 w1.heap.size pb fb) := HX9.out
  have H20' : Hid (OvR zsQ w2 w1.heap.size pb ∧ Below w2.heap.size w2 w3) := ⟨H20.out.1, HB9.out⟩
  clear H20
  have H20 : Hid (OvR zsQ w2 w1.heap.size pb ∧ Below w2.heap.size w2 w3) := H20'.out
  clear HX9 HB9 H20' 
  try clear hb
  obtain ⟨c0, c1, cs⟩ := opt_cells HX.out.box
  obtain ⟨c2, c3, c4⟩ := opt_all HX.out.box
  have HC : Hid (type_of% (HX.out.ov.need 0 5 5 0 0 0 [] rfl sf_b)) := HX.out.ov.need 0 5 5 0 0 0 [] rfl sf_b
  go_wp2_with fail
  refine HC.out.mono ?_
  rintro e w4 ⟨hb, soB, scB, rfl, _⟩
  have HX9 : Hid (FX w w4 w1.heap.size pb fb) := HX.out.keep hb
  have HB9 : Hid (Below w2.heap.size w2 w4) := btr H20.out.2 hb
  have HSA9 : Hid (HasSs w4 (.slice soA 2 scA) [(0, 3, 11), (1, 3, 3)]) := HSA.out.keep hb
  clear HC HX HSA c0 c1 c2 c3 c4 cs
  have HX : Hid (FX w w4 w1.heap.size pb fb) := HX9.out
  have H20' : Hid (OvR zsQ w2 w1.heap.size pb ∧ Below w2.heap.size w2 w4) := ⟨H20.out.1, HB9.out⟩
  clear H20
  have H20 : Hid (OvR zsQ w2 w1.heap.size pb ∧ Below w2.heap.size w2 w4) := H20'.out
  have HSA : Hid (HasSs w4 (.slice soA 2 scA) [(0, 3, 11), (1, 3, 3)]) := HSA9.out
  clear HX9 HB9 H20' HSA9
  try clear hb
  obtain ⟨c0, c1, cs⟩ := opt_cells HX.out.box
  obtain ⟨c2, c3, c4⟩ := opt_all HX.out.box
  have HC : Hid (type_of% (HX.out.ov.diff 0 5 5 0 0 0 (-2) rfl sf_c)) := HX.out.ov.diff 0 5 5 0 0 0 (-2) rfl sf_c
  go_wp2_with fail
  refine HC.out.mono ?_
  rintro e w5 ⟨hb, rfl⟩
  have HX9 : Hid (FX w w5 w1.heap.size pb fb) := HX.out.keep hb
  have HB9 : Hid (Below w2.heap.size w2 w5) := btr H20.out.2 hb
  have HSA9 : Hid (HasSs w5 (.slice soA 2 scA) [(0, 3, 11), (1, 3, 3)]) := HSA.out.keep hb
  clear HC HX HSA c0 c1 c2 c3 c4 cs
  have HX : Hid (FX w w5 w1.heap.size pb fb) := HX9.out
  have H20' : Hid (OvR zsQ w2 w1.heap.size pb ∧ Below w2.heap.size w2 w5) := ⟨H20.out.1, HB9.out⟩
  clear H20
  have H20 : Hid (OvR zsQ w2 w1.heap.size pb ∧ Below w2.heap.size w2 w5) := H20'.out
  have HSA : Hid (HasSs w5 (.slice soA 2 scA) [(0, 3, 11), (1, 3, 3)]) := HSA9.out
  clear HX9 HB9 H20' HSA9
  try clear hb
  obtain ⟨c0, c1, cs⟩ := opt_cells HX.out.box
  obtain ⟨c2, c3, c4⟩ := opt_all HX.out.box
  have HC : Hid (type_of% (HX.out.ov.diff 1 5 5 0 0 0 (-1) rfl sf_d)) := HX.out.ov.diff 1 5 5 0 0 0 (-1) rfl sf_d
  go_wp2_with fail
  refine HC.out.mono ?_
  rintro e w6 ⟨hb, rfl⟩
  have HX9 : Hid (FX w w6 w1.heap.size pb fb) := HX.out.keep hb
  have HB9 : Hid (Below w2.heap.size w2 w6) := btr H20.out.2 hb
  have HSA9 : Hid (HasSs w6 (.slice soA 2 scA) [(0, 3, 11), (1, 3, 3)]) := HSA.out.keep hb
  clear HC HX HSA c0 c1 c2 c3 c4 cs
  have HX : Hid (FX w w6 w1.heap.size pb fb) := HX9.out
  have H20' : Hid (OvR zsQ w2 w1.heap.size pb ∧ Below w2.heap.size w2 w6) := ⟨H20.out.1, HB9.out⟩
  clear H20
  have H20 : Hid (OvR zsQ w2 w1.heap.size pb ∧ Below w2.heap.size w2 w6) := H20'.out
  have HSA : Hid (HasSs w6 (.slice soA 2 scA) [(0, 3, 11), (1, 3, 3)]) := HSA9.out
  clear HX9 HB9 H20' HSA9
  try clear hb
  have HC : Hid (type_of% (of13_calls soA scA [(0, 3, 11), (1, 3, 3)] w6 HSA.out (by decide))) := of13_calls soA scA [(0, 3, 11), (1, 3, 3)] w6 HSA.out (by decide)
  go_wp2_with fail
  refine HC.out.mono ?_
  rintro e w7 ⟨qo, qc, rfl, ho, hb⟩
  have HX9 : Hid (FX w w7 w1.heap.size pb fb) := HX.out.keep hb
  have HB9 : Hid (Below w2.heap.size w2 w7) := btr H20.out.2 hb
  have HSQ : Hid (HasSs w7 (.slice qo 2 qc) [(0, 3, 11), (1, 3, 3)]) := ss_of_row ho
  clear ho HSA
  clear HC HX 
  have HX : Hid (FX w w7 w1.heap.size pb fb) := HX9.out
  have H20' : Hid (OvR zsQ w2 w1.heap.size pb ∧ Below w2.heap.size w2 w7) := ⟨H20.out.1, HB9.out⟩
  clear H20
  have H20 : Hid (OvR zsQ w2 w1.heap.size pb ∧ Below w2.heap.size w2 w7) := H20'.out
  clear HX9 HB9 H20' 
  try clear hb
  have hb : Below w7.heap.size w7 (w7.alloc (.cells #[.int .i64 0, .int .i64 3, .int .u64 11, .int .i64 1, .int .i64 3, .int .u64 3] 68)) := bel_one _ _
  obtain ⟨w8, hw8⟩ : ∃ w8, w7.alloc (.cells #[.int .i64 0, .int .i64 3, .int .u64 11, .int .i64 1, .int .i64 3, .int .u64 3] 68) = w8 := ⟨_, rfl⟩
  rw [hw8] at hb
  have Hw8 : Hid (w7.alloc (.cells #[.int .i64 0, .int .i64 3, .int .u64 11, .int .i64 1, .int .i64 3, .int .u64 3] 68) = w8) := hw8
  have HX9 : Hid (FX w w8 w1.heap.size pb fb) := HX.out.keep hb
  have HB9 : Hid (Below w2.heap.size w2 w8) := btr H20.out.2 hb
  have HSQ9 : Hid (HasSs w8 (.slice qo 2 qc) [(0, 3, 11), (1, 3, 3)]) := HSQ.out.keep hb
  have HST : Hid (HasSs w8 (.slice (some ⟨w7.heap.size, 0, none⟩) 2 2) [(0, 3, 11), (1, 3, 3)]) := by rw [← hw8]; exact ss_two w7 (0, 3, 11) (1, 3, 3) _
  clear HX HSQ
  have HX : Hid (FX w w8 w1.heap.size pb fb) := HX9.out
  have H20' : Hid (OvR zsQ w2 w1.heap.size pb ∧ Below w2.heap.size w2 w8) := ⟨H20.out.1, HB9.out⟩
  clear H20
  have H20 : Hid (OvR zsQ w2 w1.heap.size pb ∧ Below w2.heap.size w2 w8) := H20'.out
  have HSQ : Hid (HasSs w8 (.slice qo 2 qc) [(0, 3, 11), (1, 3, 3)]) := HSQ9.out
  clear HX9 HB9 H20' hb hw8 HSQ9
  have HC : Hid (type_of% (same13_yes qo (some ⟨w7.heap.size, 0, none⟩) qc 2 [(0, 3, 11), (1, 3, 3)] w8 HSQ.out HST.out (by decide))) := same13_yes qo (some ⟨w7.heap.size, 0, none⟩) qc 2 [(0, 3, 11), (1, 3, 3)] w8 HSQ.out HST.out (by decide)
  go_wp2_with fail
  rw [Hw8.out]
  refine HC.out.mono ?_
  rintro e w9 ⟨rfl, hb⟩
  have HX9 : Hid (FX w w9 w1.heap.size pb fb ∧ OvR zsQ w2 w1.heap.size pb ∧ Below w2.heap.size w2 w9) := ⟨HX.out.keep hb, H20.out.1, btr H20.out.2 hb⟩
  clear HC HX H20 HSQ HST Hw8 hb
  have HX : Hid (FX w w9 w1.heap.size pb fb) := HX9.out.1
  have H20 : Hid (OvR zsQ w2 w1.heap.size pb ∧ Below w2.heap.size w2 w9) := HX9.out.2
  clear HX9
  have hb : Below w9.heap.size w9 (w9.alloc (.cells #[.int .i64 0, .int .i64 1, .int .i64 4, .int .i64 1, .int .i64 2, .int .i64 1, .int .i64 0, .int .i64 3, .int .i64 1, .int .i64 3, .int .i64 2, .int .i64 4] 70)) := bel_one _ _
  obtain ⟨w10, hw10⟩ : ∃ w10, w9.alloc (.cells #[.int .i64 0, .int .i64 1, .int .i64 4, .int .i64 1, .int .i64 2, .int .i64 1, .int .i64 0, .int .i64 3, .int .i64 1, .int .i64 3, .int .i64 2, .int .i64 4] 70) = w10 := ⟨_, rfl⟩
  rw [hw10] at hb
  have Hw10 : Hid (w9.alloc (.cells #[.int .i64 0, .int .i64 1, .int .i64 4, .int .i64 1, .int .i64 2, .int .i64 1, .int .i64 0, .int .i64 3, .int .i64 1, .int .i64 3, .int .i64 2, .int .i64 4] 70) = w10) := hw10
  have HX9 : Hid (FX w w10 w1.heap.size pb fb) := HX.out.keep hb
  have HB9 : Hid (Below w2.heap.size w2 w10) := btr H20.out.2 hb
  have HAR : Hid (HasArcs w10 (.slice (some ⟨w9.heap.size, 0, none⟩) 4 4) xsG) := by rw [← hw10]; exact arcsG (heap_new _ _)
  have HSZ0 : Hid (w10.heap.size = w9.heap.size + 1) := by show _ = _; rw [← hw10]; simp
  clear HX 
  have HX : Hid (FX w w10 w1.heap.size pb fb) := HX9.out
  have H20' : Hid (OvR zsQ w2 w1.heap.size pb ∧ Below w2.heap.size w2 w10) := ⟨H20.out.1, HB9.out⟩
  clear H20
  have H20 : Hid (OvR zsQ w2 w1.heap.size pb ∧ Below w2.heap.size w2 w10) := H20'.out
  clear HX9 HB9 H20' hb hw10 
  have hb : Below w10.heap.size w10 (w10.alloc (.cells #[.int .i64 4, .slice (some ⟨w9.heap.size, 0, none⟩) 4 4] 24)) := bel_one _ _
  obtain ⟨w11, hw11⟩ : ∃ w11, w10.alloc (.cells #[.int .i64 4, .slice (some ⟨w9.heap.size, 0, none⟩) 4 4] 24) = w11 := ⟨_, rfl⟩
  rw [hw11] at hb
  have Hw11 : Hid (w10.alloc (.cells #[.int .i64 4, .slice (some ⟨w9.heap.size, 0, none⟩) 4 4] 24) = w11) := hw11
  have HX9 : Hid (FX w w11 w1.heap.size pb fb) := HX.out.keep hb
  have HB9 : Hid (Below w2.heap.size w2 w11) := btr H20.out.2 hb
  have HAR9 : Hid (HasArcs w11 (.slice (some ⟨w9.heap.size, 0, none⟩) 4 4) xsG) := HAR.out.keep hb
  have HGB : Hid (w11.heap[w10.heap.size]? = some (.cells #[.int .i64 4, .slice (some ⟨w9.heap.size, 0, none⟩) 4 4] 24)) := by rw [← hw11]; exact heap_new _ _
  clear HX HAR
  have HX : Hid (FX w w11 w1.heap.size pb fb) := HX9.out
  have H20' : Hid (OvR zsQ w2 w1.heap.size pb ∧ Below w2.heap.size w2 w11) := ⟨H20.out.1, HB9.out⟩
  clear H20
  have H20 : Hid (OvR zsQ w2 w1.heap.size pb ∧ Below w2.heap.size w2 w11) := H20'.out
  have HAR : Hid (HasArcs w11 (.slice (some ⟨w9.heap.size, 0, none⟩) 4 4) xsG) := HAR9.out
  clear HX9 HB9 H20' hb hw11 HAR9
  go_upto_region 12 with fail
  rw [Hw10.out, Hw11.out]
  obtain ⟨g0, g1, _, _⟩ := cell_two HGB.out
  have gs := lt_of_get HGB.out
  rw [HSZ0.out] at g0 g1 gs
  have HC : Hid (type_of% (newG_calls HAR.out)) := newG_calls HAR.out
  go_wp2_with fail
  refine HC.out.mono ?_
  rintro e w12 ⟨qb, rfl, hO2, hb⟩
  have HX9 : Hid (FX w w12 w1.heap.size pb fb) := HX.out.keep hb
  have HB9 : Hid (Below w2.heap.size w2 w12) := btr H20.out.2 hb
  have HG2 : Hid (OvR zsG w12 w11.heap.size qb) := hO2
  clear hO2 g0 g1 gs HGB HAR Hw10 Hw11 HSZ0
  clear HC HX 
  have HX : Hid (FX w w12 w1.heap.size pb fb) := HX9.out
  have H20' : Hid (OvR zsQ w2 w1.heap.size pb ∧ Below w2.heap.size w2 w12) := ⟨H20.out.1, HB9.out⟩
  clear H20
  have H20 : Hid (OvR zsQ w2 w1.heap.size pb ∧ Below w2.heap.size w2 w12) := H20'.out
  clear HX9 HB9 H20' 
  try clear hb
  have HC : Hid (type_of% (HG2.out.need 1 2 9 0 0 0 [] rfl sf_x)) := HG2.out.need 1 2 9 0 0 0 [] rfl sf_x
  go_wp2_with fail
  refine HC.out.mono ?_
  rintro e w13 ⟨hb, soX, scX, rfl, _⟩
  have HX9 : Hid (FX w w13 w1.heap.size pb fb) := HX.out.keep hb
  have HB9 : Hid (Below w2.heap.size w2 w13) := btr H20.out.2 hb
  have HG29 : Hid (OvR zsG w13 w11.heap.size qb) := HG2.out.keep hb
  clear HC HX HG2
  have HX : Hid (FX w w13 w1.heap.size pb fb) := HX9.out
  have H20' : Hid (OvR zsQ w2 w1.heap.size pb ∧ Below w2.heap.size w2 w13) := ⟨H20.out.1, HB9.out⟩
  clear H20
  have H20 : Hid (OvR zsQ w2 w1.heap.size pb ∧ Below w2.heap.size w2 w13) := H20'.out
  have HG2 : Hid (OvR zsG w13 w11.heap.size qb) := HG29.out
  clear HX9 HB9 H20' HG29
  try clear hb
  have HC : Hid (type_of% (HG2.out.need 1 1 9 0 0 0 [(0, 2, 5)] rfl sf_y)) := HG2.out.need 1 1 9 0 0 0 [(0, 2, 5)] rfl sf_y
  go_wp2_with fail
  refine HC.out.mono ?_
  rintro e w14 ⟨hb, soY, scY, rfl, hs⟩
  have HX9 : Hid (FX w w14 w1.heap.size pb fb) := HX.out.keep hb
  have HB9 : Hid (Below w2.heap.size w2 w14) := btr H20.out.2 hb
  have HG29 : Hid (OvR zsG w14 w11.heap.size qb) := HG2.out.keep hb
  have HSY : Hid (HasSs w14 (.slice soY 1 scY) [(0, 2, 5)]) := hs
  clear hs
  clear HC HX HG2
  have HX : Hid (FX w w14 w1.heap.size pb fb) := HX9.out
  have H20' : Hid (OvR zsQ w2 w1.heap.size pb ∧ Below w2.heap.size w2 w14) := ⟨H20.out.1, HB9.out⟩
  clear H20
  have H20 : Hid (OvR zsQ w2 w1.heap.size pb ∧ Below w2.heap.size w2 w14) := H20'.out
  have HG2 : Hid (OvR zsG w14 w11.heap.size qb) := HG29.out
  clear HX9 HB9 H20' HG29
  try clear hb
  have HC : Hid (type_of% (HG2.out.need 1 2 1 0 0 0 [(0, 2, 5)] rfl sf_z)) := HG2.out.need 1 2 1 0 0 0 [(0, 2, 5)] rfl sf_z
  go_wp2_with fail
  refine HC.out.mono ?_
  rintro e w15 ⟨hb, soZ, scZ, rfl, hs⟩
  have HX9 : Hid (FX w w15 w1.heap.size pb fb) := HX.out.keep hb
  have HB9 : Hid (Below w2.heap.size w2 w15) := btr H20.out.2 hb
  have HSY9 : Hid (HasSs w15 (.slice soY 1 scY) [(0, 2, 5)]) := HSY.out.keep hb
  have HSZ : Hid (HasSs w15 (.slice soZ 1 scZ) [(0, 2, 5)]) := hs
  clear hs HG2
  clear HC HX HSY
  have HX : Hid (FX w w15 w1.heap.size pb fb) := HX9.out
  have H20' : Hid (OvR zsQ w2 w1.heap.size pb ∧ Below w2.heap.size w2 w15) := ⟨H20.out.1, HB9.out⟩
  clear H20
  have H20 : Hid (OvR zsQ w2 w1.heap.size pb ∧ Below w2.heap.size w2 w15) := H20'.out
  have HSY : Hid (HasSs w15 (.slice soY 1 scY) [(0, 2, 5)]) := HSY9.out
  clear HX9 HB9 H20' HSY9
  try clear hb
  have hb : Below w15.heap.size w15 (w15.alloc (.cells #[.int .i64 0, .int .i64 2, .int .u64 5] 68)) := bel_one _ _
  obtain ⟨w16, hw16⟩ : ∃ w16, w15.alloc (.cells #[.int .i64 0, .int .i64 2, .int .u64 5] 68) = w16 := ⟨_, rfl⟩
  rw [hw16] at hb
  have Hw16 : Hid (w15.alloc (.cells #[.int .i64 0, .int .i64 2, .int .u64 5] 68) = w16) := hw16
  have HX9 : Hid (FX w w16 w1.heap.size pb fb) := HX.out.keep hb
  have HB9 : Hid (Below w2.heap.size w2 w16) := btr H20.out.2 hb
  have HSY9 : Hid (HasSs w16 (.slice soY 1 scY) [(0, 2, 5)]) := HSY.out.keep hb
  have HSZ9 : Hid (HasSs w16 (.slice soZ 1 scZ) [(0, 2, 5)]) := HSZ.out.keep hb
  have HS1 : Hid (HasSs w16 (.slice (some ⟨w15.heap.size, 0, none⟩) 1 1) [(0, 2, 5)]) := by rw [← hw16]; exact ss_one w15 (0, 2, 5) _
  have HK1 : Hid (w16.heap[w15.heap.size]? = some (.cells #[.int .i64 0, .int .i64 2, .int .u64 5] 68) ∧ w2.heap.size ≤ w15.heap.size) := ⟨by rw [← hw16]; exact heap_new _ _, H20.out.2.size⟩
  clear HX HSY HSZ
  have HX : Hid (FX w w16 w1.heap.size pb fb) := HX9.out
  have H20' : Hid (OvR zsQ w2 w1.heap.size pb ∧ Below w2.heap.size w2 w16) := ⟨H20.out.1, HB9.out⟩
  clear H20
  have H20 : Hid (OvR zsQ w2 w1.heap.size pb ∧ Below w2.heap.size w2 w16) := H20'.out
  have HSY : Hid (HasSs w16 (.slice soY 1 scY) [(0, 2, 5)]) := HSY9.out
  have HSZ : Hid (HasSs w16 (.slice soZ 1 scZ) [(0, 2, 5)]) := HSZ9.out
  clear HX9 HB9 H20' hb hw16 HSY9 HSZ9
  obtain ⟨ob, hob⟩ : ∃ ob, w15.heap.size = ob := ⟨_, rfl⟩
  rw [hob] at HS1 HK1
  go_upto_region 17 with fail
  rw [Hw16.out]
  try rw [hob]
  clear hob Hw16
  have HC : Hid (type_of% (of13_calls soY scY [(0, 2, 5)] w16 HSY.out (by decide))) := of13_calls soY scY [(0, 2, 5)] w16 HSY.out (by decide)
  go_wp2_with fail
  refine HC.out.mono ?_
  rintro e w17 ⟨yo, yc, rfl, ho, hb⟩
  have HX9 : Hid (FX w w17 w1.heap.size pb fb) := HX.out.keep hb
  have HB9 : Hid (Below w2.heap.size w2 w17) := btr H20.out.2 hb
  have HSZ9 : Hid (HasSs w17 (.slice soZ 1 scZ) [(0, 2, 5)]) := HSZ.out.keep hb
  have HS19 : Hid (HasSs w17 (.slice (some ⟨ob, 0, none⟩) 1 1) [(0, 2, 5)]) := HS1.out.keep hb
  have HK19 : Hid (w17.heap[ob]? = some (.cells #[.int .i64 0, .int .i64 2, .int .u64 5] 68) ∧ w2.heap.size ≤ ob) := ⟨(hb.block _ (lt_of_get HK1.out.1)).trans HK1.out.1, HK1.out.2⟩
  clear HK1
  have HK1 : Hid (w17.heap[ob]? = some (.cells #[.int .i64 0, .int .i64 2, .int .u64 5] 68) ∧ w2.heap.size ≤ ob) := HK19.out
  clear HK19
  have HSU : Hid (HasSs w17 (.slice yo 1 yc) [(0, 2, 5)]) := ss_of_row ho
  clear ho HSY
  clear HC HX HSZ HS1
  have HX : Hid (FX w w17 w1.heap.size pb fb) := HX9.out
  have H20' : Hid (OvR zsQ w2 w1.heap.size pb ∧ Below w2.heap.size w2 w17) := ⟨H20.out.1, HB9.out⟩
  clear H20
  have H20 : Hid (OvR zsQ w2 w1.heap.size pb ∧ Below w2.heap.size w2 w17) := H20'.out
  have HSZ : Hid (HasSs w17 (.slice soZ 1 scZ) [(0, 2, 5)]) := HSZ9.out
  have HS1 : Hid (HasSs w17 (.slice (some ⟨ob, 0, none⟩) 1 1) [(0, 2, 5)]) := HS19.out
  clear HX9 HB9 H20' HSZ9 HS19
  try clear hb
  have HC : Hid (type_of% (same13_yes yo (some ⟨ob, 0, none⟩) yc 1 [(0, 2, 5)] w17 HSU.out HS1.out (by decide))) := same13_yes yo (some ⟨ob, 0, none⟩) yc 1 [(0, 2, 5)] w17 HSU.out HS1.out (by decide)
  go_wp2_with fail
  refine HC.out.mono ?_
  rintro e w18 ⟨rfl, hb⟩
  have HX9 : Hid (FX w w18 w1.heap.size pb fb) := HX.out.keep hb
  have HB9 : Hid (Below w2.heap.size w2 w18) := btr H20.out.2 hb
  have HSZ9 : Hid (HasSs w18 (.slice soZ 1 scZ) [(0, 2, 5)]) := HSZ.out.keep hb
  have HS19 : Hid (HasSs w18 (.slice (some ⟨ob, 0, none⟩) 1 1) [(0, 2, 5)]) := HS1.out.keep hb
  have HK19 : Hid (w18.heap[ob]? = some (.cells #[.int .i64 0, .int .i64 2, .int .u64 5] 68) ∧ w2.heap.size ≤ ob) := ⟨(hb.block _ (lt_of_get HK1.out.1)).trans HK1.out.1, HK1.out.2⟩
  clear HK1
  have HK1 : Hid (w18.heap[ob]? = some (.cells #[.int .i64 0, .int .i64 2, .int .u64 5] 68) ∧ w2.heap.size ≤ ob) := HK19.out
  clear HK19
  clear HSU
  clear HC HX HSZ HS1
  have HX : Hid (FX w w18 w1.heap.size pb fb) := HX9.out
  have H20' : Hid (OvR zsQ w2 w1.heap.size pb ∧ Below w2.heap.size w2 w18) := ⟨H20.out.1, HB9.out⟩
  clear H20
  have H20 : Hid (OvR zsQ w2 w1.heap.size pb ∧ Below w2.heap.size w2 w18) := H20'.out
  have HSZ : Hid (HasSs w18 (.slice soZ 1 scZ) [(0, 2, 5)]) := HSZ9.out
  have HS1 : Hid (HasSs w18 (.slice (some ⟨ob, 0, none⟩) 1 1) [(0, 2, 5)]) := HS19.out
  clear HX9 HB9 H20' HSZ9 HS19
  try clear hb
  have HC : Hid (type_of% (of13_calls soZ scZ [(0, 2, 5)] w18 HSZ.out (by decide))) := of13_calls soZ scZ [(0, 2, 5)] w18 HSZ.out (by decide)
  go_wp2_with fail
  refine HC.out.mono ?_
  rintro e w19 ⟨yo2, yc2, rfl, ho, hb⟩
  have HX9 : Hid (FX w w19 w1.heap.size pb fb) := HX.out.keep hb
  have HB9 : Hid (Below w2.heap.size w2 w19) := btr H20.out.2 hb
  have HS19 : Hid (HasSs w19 (.slice (some ⟨ob, 0, none⟩) 1 1) [(0, 2, 5)]) := HS1.out.keep hb
  have HK19 : Hid (w19.heap[ob]? = some (.cells #[.int .i64 0, .int .i64 2, .int .u64 5] 68) ∧ w2.heap.size ≤ ob) := ⟨(hb.block _ (lt_of_get HK1.out.1)).trans HK1.out.1, HK1.out.2⟩
  clear HK1
  have HK1 : Hid (w19.heap[ob]? = some (.cells #[.int .i64 0, .int .i64 2, .int .u64 5] 68) ∧ w2.heap.size ≤ ob) := HK19.out
  clear HK19
  have HSU : Hid (HasSs w19 (.slice yo2 1 yc2) [(0, 2, 5)]) := ss_of_row ho
  clear ho HSZ
  clear HC HX HS1
  have HX : Hid (FX w w19 w1.heap.size pb fb) := HX9.out
  have H20' : Hid (OvR zsQ w2 w1.heap.size pb ∧ Below w2.heap.size w2 w19) := ⟨H20.out.1, HB9.out⟩
  clear H20
  have H20 : Hid (OvR zsQ w2 w1.heap.size pb ∧ Below w2.heap.size w2 w19) := H20'.out
  have HS1 : Hid (HasSs w19 (.slice (some ⟨ob, 0, none⟩) 1 1) [(0, 2, 5)]) := HS19.out
  clear HX9 HB9 H20' HS19
  try clear hb
  have HC : Hid (type_of% (same13_yes yo2 (some ⟨ob, 0, none⟩) yc2 1 [(0, 2, 5)] w19 HSU.out HS1.out (by decide))) := same13_yes yo2 (some ⟨ob, 0, none⟩) yc2 1 [(0, 2, 5)] w19 HSU.out HS1.out (by decide)
  go_wp2_with fail
  refine HC.out.mono ?_
  rintro e w20 ⟨rfl, hb⟩
  have HX9 : Hid (FX w w20 w1.heap.size pb fb) := HX.out.keep hb
  have HB9 : Hid (Below w2.heap.size w2 w20) := btr H20.out.2 hb
  have HS19 : Hid (HasSs w20 (.slice (some ⟨ob, 0, none⟩) 1 1) [(0, 2, 5)]) := HS1.out.keep hb
  have HK19 : Hid (w20.heap[ob]? = some (.cells #[.int .i64 0, .int .i64 2, .int .u64 5] 68) ∧ w2.heap.size ≤ ob) := ⟨(hb.block _ (lt_of_get HK1.out.1)).trans HK1.out.1, HK1.out.2⟩
  clear HK1
  have HK1 : Hid (w20.heap[ob]? = some (.cells #[.int .i64 0, .int .i64 2, .int .u64 5] 68) ∧ w2.heap.size ≤ ob) := HK19.out
  clear HK19
  clear HSU
  clear HC HX HS1
  have HX : Hid (FX w w20 w1.heap.size pb fb) := HX9.out
  have H20' : Hid (OvR zsQ w2 w1.heap.size pb ∧ Below w2.heap.size w2 w20) := ⟨H20.out.1, HB9.out⟩
  clear H20
  have H20 : Hid (OvR zsQ w2 w1.heap.size pb ∧ Below w2.heap.size w2 w20) := H20'.out
  have HS1 : Hid (HasSs w20 (.slice (some ⟨ob, 0, none⟩) 1 1) [(0, 2, 5)]) := HS19.out
  clear HX9 HB9 H20' HS19
  try clear hb
  obtain ⟨R, hi0, ht0, hz0, hr0⟩ := H20.out.1
  obtain ⟨hi1, _⟩ := hi0.wrap H20.out.2
  obtain ⟨PX, hPX⟩ : ∃ PX, wrapP noP w2.heap.size w20 = PX := ⟨_, rfl⟩
  rw [hPX] at hi1
  have hP1 : PX ob = some (.cells #[.int .i64 0, .int .i64 2, .int .u64 5] 68) := by rw [← hPX]; unfold wrapP; rw [if_pos HK1.out.2]; exact HK1.out.1
  have hcc := cont_calls (zs := zsQ.map asA4) ⟨by rw [sf_alive.1]; exact hi1, ht0⟩ hz0 (by decide) (by decide) 1 5 5 0 0 0
  rw [needL_new hr0, sf_l] at hcc
  have HC : Hid (type_of% hcc) := hcc
  have HZQ : Hid (ZB (zsQ.map asA4)) := hz0
  have HP1 : Hid (PX ob = some (.cells #[.int .i64 0, .int .i64 2, .int .u64 5] 68)) := hP1
  clear hi0 ht0 hz0 hr0 hi1 hPX hP1 hcc
  obtain ⟨c0, c1, cs⟩ := opt_cells HX.out.box
  obtain ⟨c2, c3, c4⟩ := opt_all HX.out.box
  go_wp2_with fail
  refine HC.out.mono ?_
  clear c0 c1 c2 c3 c4 cs
  rintro e w21 (⟨hal, _⟩ | ⟨_, so, sc, R', rfl, hs, hov, hb⟩)
  · exact absurd (sf_alive.2.1.symm.trans hal) (by simp)
  have hov' : OvT PX w1.heap.size w21 pb 4 (bsQ.set 1 false) R' (contZ 1 (zsQ.map asA4) [(0, 2, 5)]) := hov
  obtain ⟨Z, hZ⟩ : ∃ Z, contZ 1 (zsQ.map asA4) [(0, 2, 5)] = Z := ⟨_, rfl⟩
  have HZE : Hid (contZ 1 (zsQ.map asA4) [(0, 2, 5)] = Z) := hZ
  have HZB : Hid (ZB Z) := by
    rw [← hZ]
    exact putsZ_zb _ _ _ (fun a ha => HZQ.out a (remZ_mem.1 ha).1) fun s hs => by simp at hs; subst hs; exact ⟨by decide, by decide⟩
  rw [hZ] at hov'
  have hbx := (hb.block fb HF.out.1).trans HX.out.box
  have hob := hov'.1.lies _ _ HP1.out
  have hone : HasSs w21 (.slice (some ⟨ob, 0, none⟩) 1 1) [(0, 2, 5)] := ⟨some ⟨ob, 0, none⟩, 1, rfl, fun j a hj => by
    rcases j with _ | j
    · simp at hj; subst hj
      exact ⟨ob, 0, rfl, lt_of_get hob, by simp [World.cell?, hob], by simp [World.cell?, hob], by simp [World.cell?, hob]⟩
    · simp at hj⟩
  have hbw : Below w.heap.size w w21 := HX.out.below.trans (hb.mono HF.out.2.2)
  have HY : Hid (FY w w21 PX w1.heap.size pb fb (bsQ.set 1 false) R' Z (.slice (some ⟨ob, 0, none⟩) 1 1) (.slice so 1 sc)) := ⟨hov', hbx, hone, hs, hbw⟩
  have HZL : Hid (Z.length ≤ 190000) := by show _ ≤ _; rw [← hZ]; exact of_decide_eq_true (by kernel_rfl)
  clear HX H20 HC hov hov' hZ hbx hob hone hbw hs hb HK1 HS1 HZQ HP1
  obtain ⟨c0, c1, cs⟩ := opt_cells HY.out.box
  obtain ⟨c2, c3, c4⟩ := opt_all HY.out.box
  have HC : Hid (type_of% (cont_calls HY.out.ov HZB.out (by decide) HZL.out 1 5 5 0 0 0)) := cont_calls HY.out.ov HZB.out (by decide) HZL.out 1 5 5 0 0 0
  go_wp2_with fail
  refine HC.out.mono ?_
  rintro e w22 (⟨_, rfl, _, hb⟩ | ⟨hal, _⟩)
  rotate_left
  · exact absurd (sf_alive.2.2.1.symm.trans hal) (by simp)
  have HY9 : Hid (FY w w22 PX w1.heap.size pb fb (bsQ.set 1 false) R' Z (.slice (some ⟨ob, 0, none⟩) 1 1) (.slice so 1 sc)) := HY.out.keep hb
  clear HC HY hb  c0 c1 c2 c3 c4 cs 
  have HY : Hid (FY w w22 PX w1.heap.size pb fb (bsQ.set 1 false) R' Z (.slice (some ⟨ob, 0, none⟩) 1 1) (.slice so 1 sc)) := HY9.out
  clear HY9
  obtain ⟨c0, c1, cs⟩ := opt_cells HY.out.box
  obtain ⟨c2, c3, c4⟩ := opt_all HY.out.box
  have HC : Hid (type_of% (need_calls HY.out.ov.1 HY.out.ov.2 HZB.out (by decide) (-1) 5 5 0 0 0)) := need_calls HY.out.ov.1 HY.out.ov.2 HZB.out (by decide) (-1) 5 5 0 0 0
  go_wp2_with fail
  refine HC.out.mono ?_
  rintro e w23 ⟨hb, ⟨_, rfl⟩ | ⟨hal, _⟩⟩
  rotate_left
  · exact absurd (sf_alive.2.2.2.1.symm.trans hal) (by simp)
  have HY9 : Hid (FY w w23 PX w1.heap.size pb fb (bsQ.set 1 false) R' Z (.slice (some ⟨ob, 0, none⟩) 1 1) (.slice so 1 sc)) := HY.out.keep hb
  clear HC HY hb  c0 c1 c2 c3 c4 cs 
  have HY : Hid (FY w w23 PX w1.heap.size pb fb (bsQ.set 1 false) R' Z (.slice (some ⟨ob, 0, none⟩) 1 1) (.slice so 1 sc)) := HY9.out
  clear HY9
  obtain ⟨c0, c1, cs⟩ := opt_cells HY.out.box
  obtain ⟨c2, c3, c4⟩ := opt_all HY.out.box
  have HC : Hid (type_of% (diff_calls HY.out.ov.1 HY.out.ov.2 HZB.out (by decide) 4 5 5 0 0 0)) := diff_calls HY.out.ov.1 HY.out.ov.2 HZB.out (by decide) 4 5 5 0 0 0
  go_wp2_with fail
  refine HC.out.mono ?_
  rintro e w24 ⟨hb, ⟨_, rfl⟩ | ⟨hal, _⟩⟩
  rotate_left
  · exact absurd (sf_alive.2.2.2.2.symm.trans hal) (by simp)
  have HY9 : Hid (FY w w24 PX w1.heap.size pb fb (bsQ.set 1 false) R' Z (.slice (some ⟨ob, 0, none⟩) 1 1) (.slice so 1 sc)) := HY.out.keep hb
  clear HC HY hb  c0 c1 c2 c3 c4 cs 
  have HY : Hid (FY w w24 PX w1.heap.size pb fb (bsQ.set 1 false) R' Z (.slice (some ⟨ob, 0, none⟩) 1 1) (.slice so 1 sc)) := HY9.out
  clear HY9
  obtain ⟨c0, c1, cs⟩ := opt_cells HY.out.box
  obtain ⟨c2, c3, c4⟩ := opt_all HY.out.box
  have HC : Hid (type_of% (need_nil w24 0 5 5 0 0 0)) := need_nil w24 0 5 5 0 0 0
  go_wp2_with fail
  refine HC.out.mono ?_
  rintro e w25 ⟨rfl, hb⟩
  have HY9 : Hid (FY w w25 PX w1.heap.size pb fb (bsQ.set 1 false) R' Z (.slice (some ⟨ob, 0, none⟩) 1 1) (.slice so 1 sc)) := HY.out.keep hb
  clear HC HY hb  c0 c1 c2 c3 c4 cs 
  have HY : Hid (FY w w25 PX w1.heap.size pb fb (bsQ.set 1 false) R' Z (.slice (some ⟨ob, 0, none⟩) 1 1) (.slice so 1 sc)) := HY9.out
  clear HY9
  obtain ⟨c0, c1, cs⟩ := opt_cells HY.out.box
  obtain ⟨c2, c3, c4⟩ := opt_all HY.out.box
  have HC : Hid (type_of% (diff_nil w25 0 5 5 0 0 0)) := diff_nil w25 0 5 5 0 0 0
  go_wp2_with fail
  refine HC.out.mono ?_
  rintro e w26 ⟨rfl, hb⟩
  have HY9 : Hid (FY w w26 PX w1.heap.size pb fb (bsQ.set 1 false) R' Z (.slice (some ⟨ob, 0, none⟩) 1 1) (.slice so 1 sc)) := HY.out.keep hb
  clear HC HY hb  c0 c1 c2 c3 c4 cs 
  have HY : Hid (FY w w26 PX w1.heap.size pb fb (bsQ.set 1 false) R' Z (.slice (some ⟨ob, 0, none⟩) 1 1) (.slice so 1 sc)) := HY9.out
  clear HY9
  obtain ⟨c0, c1, cs⟩ := opt_cells HY.out.box
  obtain ⟨c2, c3, c4⟩ := opt_all HY.out.box
  have HC : Hid (type_of% (cont_nil w26 9 5 5 0 0 0)) := cont_nil w26 9 5 5 0 0 0
  go_wp2_with fail
  refine HC.out.mono ?_
  rintro e w27 ⟨rfl, hb⟩
  have HY9 : Hid (FY w w27 PX w1.heap.size pb fb (bsQ.set 1 false) R' Z (.slice (some ⟨ob, 0, none⟩) 1 1) (.slice so 1 sc)) := HY.out.keep hb
  clear HC HY hb  c0 c1 c2 c3 c4 cs 
  have HY : Hid (FY w w27 PX w1.heap.size pb fb (bsQ.set 1 false) R' Z (.slice (some ⟨ob, 0, none⟩) 1 1) (.slice so 1 sc)) := HY9.out
  clear HY9
  have hout : outM 4 (bsQ.set 1 false) R' false 0 = [(2, 5, 1)] := by
    rw [← HY.out.ov.2.outM HY.out.ov.1.inv, ← HZE.out]
    exact sf_out
  have hoo := HY.out.ov.1.outM 0
  rw [hout] at hoo
  have HOO : Hid (type_of% hoo) := hoo
  clear hoo hout
  have HC : Hid (type_of% (HOO.out)) := HOO.out
  go_wp2_with fail
  refine HC.out.mono ?_
  rintro e w28 ⟨ho, hc, rfl, hh, hb⟩
  have HHH : Hid (HasHs w28 (.slice ho 1 hc) [(2, 5, 1)]) := hh
  clear hh HOO
  have HY9 : Hid (FY w w28 PX w1.heap.size pb fb (bsQ.set 1 false) R' Z (.slice (some ⟨ob, 0, none⟩) 1 1) (.slice so 1 sc)) := HY.out.keep hb
  clear HC HY hb  
  have HY : Hid (FY w w28 PX w1.heap.size pb fb (bsQ.set 1 false) R' Z (.slice (some ⟨ob, 0, none⟩) 1 1) (.slice so 1 sc)) := HY9.out
  clear HY9
  have HC : Hid (type_of% (of13_calls so sc [(0, 2, 5)] w28 HY.out.lst (by decide))) := of13_calls so sc [(0, 2, 5)] w28 HY.out.lst (by decide)
  go_wp2_with fail
  refine HC.out.mono ?_
  rintro e w29 ⟨yo3, yc3, rfl, ho3, hb⟩
  have HSU : Hid (HasSs w29 (.slice yo3 1 yc3) [(0, 2, 5)]) := ss_of_row ho3
  clear ho3
  have HY9 : Hid (FY w w29 PX w1.heap.size pb fb (bsQ.set 1 false) R' Z (.slice (some ⟨ob, 0, none⟩) 1 1) (.slice so 1 sc)) := HY.out.keep hb
  have HHH9 : Hid (HasHs w29 (.slice ho 1 hc) [(2, 5, 1)]) := HHH.out.keep hb
  clear HC HY hb HHH 
  have HY : Hid (FY w w29 PX w1.heap.size pb fb (bsQ.set 1 false) R' Z (.slice (some ⟨ob, 0, none⟩) 1 1) (.slice so 1 sc)) := HY9.out
  clear HY9
  have HHH : Hid (HasHs w29 (.slice ho 1 hc) [(2, 5, 1)]) := HHH9.out
  clear HHH9
  have HC : Hid (type_of% (same13_yes yo3 (some ⟨ob, 0, none⟩) yc3 1 [(0, 2, 5)] w29 HSU.out HY.out.one (by decide))) := same13_yes yo3 (some ⟨ob, 0, none⟩) yc3 1 [(0, 2, 5)] w29 HSU.out HY.out.one (by decide)
  go_wp2_with fail
  refine HC.out.mono ?_
  rintro e w30 ⟨rfl, hb⟩
  have HY9 : Hid (FY w w30 PX w1.heap.size pb fb (bsQ.set 1 false) R' Z (.slice (some ⟨ob, 0, none⟩) 1 1) (.slice so 1 sc)) := HY.out.keep hb
  have HHH9 : Hid (HasHs w30 (.slice ho 1 hc) [(2, 5, 1)]) := HHH.out.keep hb
  clear HC HY hb HHH HSU
  have HY : Hid (FY w w30 PX w1.heap.size pb fb (bsQ.set 1 false) R' Z (.slice (some ⟨ob, 0, none⟩) 1 1) (.slice so 1 sc)) := HY9.out
  clear HY9
  have HHH : Hid (HasHs w30 (.slice ho 1 hc) [(2, 5, 1)]) := HHH9.out
  clear HHH9
  have HC : Hid (type_of% (E_calls 7 w30)) := E_calls 7 w30
  go_wp2_with fail
  refine HC.out.mono ?_
  rintro e w31 ⟨rfl, hb⟩
  have HY9 : Hid (FY w w31 PX w1.heap.size pb fb (bsQ.set 1 false) R' Z (.slice (some ⟨ob, 0, none⟩) 1 1) (.slice so 1 sc)) := HY.out.keep hb
  have HHH9 : Hid (HasHs w31 (.slice ho 1 hc) [(2, 5, 1)]) := HHH.out.keep hb
  clear HC HY hb HHH 
  have HY : Hid (FY w w31 PX w1.heap.size pb fb (bsQ.set 1 false) R' Z (.slice (some ⟨ob, 0, none⟩) 1 1) (.slice so 1 sc)) := HY9.out
  clear HY9
  have HHH : Hid (HasHs w31 (.slice ho 1 hc) [(2, 5, 1)]) := HHH9.out
  clear HHH9
  have HC : Hid (type_of% (seen_bare 7 (by decide) w31 (HTY.out.keep HY.out.below HTY.out.pos))) := seen_bare 7 (by decide) w31 (HTY.out.keep HY.out.below HTY.out.pos)
  go_wp2_with fail
  refine HC.out.mono ?_
  rintro e w32 ⟨rfl, hb⟩
  have HY9 : Hid (FY w w32 PX w1.heap.size pb fb (bsQ.set 1 false) R' Z (.slice (some ⟨ob, 0, none⟩) 1 1) (.slice so 1 sc)) := HY.out.keep hb
  have HHH9 : Hid (HasHs w32 (.slice ho 1 hc) [(2, 5, 1)]) := HHH.out.keep hb
  clear HC HY hb HHH 
  have HY : Hid (FY w w32 PX w1.heap.size pb fb (bsQ.set 1 false) R' Z (.slice (some ⟨ob, 0, none⟩) 1 1) (.slice so 1 sc)) := HY9.out
  clear HY9
  have HHH : Hid (HasHs w32 (.slice ho 1 hc) [(2, 5, 1)]) := HHH9.out
  clear HHH9
  have HC : Hid (type_of% (E_calls 7 w32)) := E_calls 7 w32
  go_wp2_with fail
  refine HC.out.mono ?_
  rintro e w33 ⟨rfl, hb⟩
  have HY9 : Hid (FY w w33 PX w1.heap.size pb fb (bsQ.set 1 false) R' Z (.slice (some ⟨ob, 0, none⟩) 1 1) (.slice so 1 sc)) := HY.out.keep hb
  have HHH9 : Hid (HasHs w33 (.slice ho 1 hc) [(2, 5, 1)]) := HHH.out.keep hb
  clear HC HY hb HHH 
  have HY : Hid (FY w w33 PX w1.heap.size pb fb (bsQ.set 1 false) R' Z (.slice (some ⟨ob, 0, none⟩) 1 1) (.slice so 1 sc)) := HY9.out
  clear HY9
  have HHH : Hid (HasHs w33 (.slice ho 1 hc) [(2, 5, 1)]) := HHH9.out
  clear HHH9
  have HC : Hid (type_of% (seen_bare 7 (by decide) w33 (HTY.out.keep HY.out.below HTY.out.pos))) := seen_bare 7 (by decide) w33 (HTY.out.keep HY.out.below HTY.out.pos)
  go_wp2_with fail
  refine HC.out.mono ?_
  rintro e w34 ⟨rfl, hb⟩
  have HY9 : Hid (FY w w34 PX w1.heap.size pb fb (bsQ.set 1 false) R' Z (.slice (some ⟨ob, 0, none⟩) 1 1) (.slice so 1 sc)) := HY.out.keep hb
  have HHH9 : Hid (HasHs w34 (.slice ho 1 hc) [(2, 5, 1)]) := HHH.out.keep hb
  clear HC HY hb HHH 
  have HY : Hid (FY w w34 PX w1.heap.size pb fb (bsQ.set 1 false) R' Z (.slice (some ⟨ob, 0, none⟩) 1 1) (.slice so 1 sc)) := HY9.out
  clear HY9
  have HHH : Hid (HasHs w34 (.slice ho 1 hc) [(2, 5, 1)]) := HHH9.out
  clear HHH9
  have HC : Hid (type_of% (E_calls 7 w34)) := E_calls 7 w34
  go_wp2_with fail
  refine HC.out.mono ?_
  rintro e w35 ⟨rfl, hb⟩
  have HY9 : Hid (FY w w35 PX w1.heap.size pb fb (bsQ.set 1 false) R' Z (.slice (some ⟨ob, 0, none⟩) 1 1) (.slice so 1 sc)) := HY.out.keep hb
  have HHH9 : Hid (HasHs w35 (.slice ho 1 hc) [(2, 5, 1)]) := HHH.out.keep hb
  clear HC HY hb HHH 
  have HY : Hid (FY w w35 PX w1.heap.size pb fb (bsQ.set 1 false) R' Z (.slice (some ⟨ob, 0, none⟩) 1 1) (.slice so 1 sc)) := HY9.out
  clear HY9
  have HHH : Hid (HasHs w35 (.slice ho 1 hc) [(2, 5, 1)]) := HHH9.out
  clear HHH9
  have HC : Hid (type_of% (seen_bare 7 (by decide) w35 (HTY.out.keep HY.out.below HTY.out.pos))) := seen_bare 7 (by decide) w35 (HTY.out.keep HY.out.below HTY.out.pos)
  go_wp2_with fail
  refine HC.out.mono ?_
  rintro e w36 ⟨rfl, hb⟩
  have HY9 : Hid (FY w w36 PX w1.heap.size pb fb (bsQ.set 1 false) R' Z (.slice (some ⟨ob, 0, none⟩) 1 1) (.slice so 1 sc)) := HY.out.keep hb
  have HHH9 : Hid (HasHs w36 (.slice ho 1 hc) [(2, 5, 1)]) := HHH.out.keep hb
  clear HC HY hb HHH 
  have HY : Hid (FY w w36 PX w1.heap.size pb fb (bsQ.set 1 false) R' Z (.slice (some ⟨ob, 0, none⟩) 1 1) (.slice so 1 sc)) := HY9.out
  clear HY9
  have HHH : Hid (HasHs w36 (.slice ho 1 hc) [(2, 5, 1)]) := HHH9.out
  clear HHH9
  have HC : Hid (type_of% (E_calls 19 w36)) := E_calls 19 w36
  go_wp2_with fail
  refine HC.out.mono ?_
  rintro e w37 ⟨rfl, hb⟩
  have HY9 : Hid (FY w w37 PX w1.heap.size pb fb (bsQ.set 1 false) R' Z (.slice (some ⟨ob, 0, none⟩) 1 1) (.slice so 1 sc)) := HY.out.keep hb
  have HHH9 : Hid (HasHs w37 (.slice ho 1 hc) [(2, 5, 1)]) := HHH.out.keep hb
  clear HC HY hb HHH 
  have HY : Hid (FY w w37 PX w1.heap.size pb fb (bsQ.set 1 false) R' Z (.slice (some ⟨ob, 0, none⟩) 1 1) (.slice so 1 sc)) := HY9.out
  clear HY9
  have HHH : Hid (HasHs w37 (.slice ho 1 hc) [(2, 5, 1)]) := HHH9.out
  clear HHH9
  have HC : Hid (type_of% (seen_bare 19 (by decide) w37 (HTY.out.keep HY.out.below HTY.out.pos))) := seen_bare 19 (by decide) w37 (HTY.out.keep HY.out.below HTY.out.pos)
  go_wp2_with fail
  refine HC.out.mono ?_
  rintro e w38 ⟨rfl, hb⟩
  have HY9 : Hid (FY w w38 PX w1.heap.size pb fb (bsQ.set 1 false) R' Z (.slice (some ⟨ob, 0, none⟩) 1 1) (.slice so 1 sc)) := HY.out.keep hb
  have HHH9 : Hid (HasHs w38 (.slice ho 1 hc) [(2, 5, 1)]) := HHH.out.keep hb
  clear HC HY hb HHH 
  have HY : Hid (FY w w38 PX w1.heap.size pb fb (bsQ.set 1 false) R' Z (.slice (some ⟨ob, 0, none⟩) 1 1) (.slice so 1 sc)) := HY9.out
  clear HY9
  have HHH : Hid (HasHs w38 (.slice ho 1 hc) [(2, 5, 1)]) := HHH9.out
  clear HHH9
  have HC : Hid (type_of% (E_calls 19 w38)) := E_calls 19 w38
  go_wp2_with fail
  refine HC.out.mono ?_
  rintro e w39 ⟨rfl, hb⟩
  have HY9 : Hid (FY w w39 PX w1.heap.size pb fb (bsQ.set 1 false) R' Z (.slice (some ⟨ob, 0, none⟩) 1 1) (.slice so 1 sc)) := HY.out.keep hb
  have HHH9 : Hid (HasHs w39 (.slice ho 1 hc) [(2, 5, 1)]) := HHH.out.keep hb
  clear HC HY hb HHH 
  have HY : Hid (FY w w39 PX w1.heap.size pb fb (bsQ.set 1 false) R' Z (.slice (some ⟨ob, 0, none⟩) 1 1) (.slice so 1 sc)) := HY9.out
  clear HY9
  have HHH : Hid (HasHs w39 (.slice ho 1 hc) [(2, 5, 1)]) := HHH9.out
  clear HHH9
  have HC : Hid (type_of% (seen_bare 19 (by decide) w39 (HTY.out.keep HY.out.below HTY.out.pos))) := seen_bare 19 (by decide) w39 (HTY.out.keep HY.out.below HTY.out.pos)
  go_wp2_with fail
  refine HC.out.mono ?_
  rintro e w40 ⟨rfl, hb⟩
  have HY9 : Hid (FY w w40 PX w1.heap.size pb fb (bsQ.set 1 false) R' Z (.slice (some ⟨ob, 0, none⟩) 1 1) (.slice so 1 sc)) := HY.out.keep hb
  have HHH9 : Hid (HasHs w40 (.slice ho 1 hc) [(2, 5, 1)]) := HHH.out.keep hb
  clear HC HY hb HHH 
  have HY : Hid (FY w w40 PX w1.heap.size pb fb (bsQ.set 1 false) R' Z (.slice (some ⟨ob, 0, none⟩) 1 1) (.slice so 1 sc)) := HY9.out
  clear HY9
  have HHH : Hid (HasHs w40 (.slice ho 1 hc) [(2, 5, 1)]) := HHH9.out
  clear HHH9
  have HC : Hid (type_of% (E_calls 19 w40)) := E_calls 19 w40
  go_wp2_with fail
  refine HC.out.mono ?_
  rintro e w41 ⟨rfl, hb⟩
  have HY9 : Hid (FY w w41 PX w1.heap.size pb fb (bsQ.set 1 false) R' Z (.slice (some ⟨ob, 0, none⟩) 1 1) (.slice so 1 sc)) := HY.out.keep hb
  have HHH9 : Hid (HasHs w41 (.slice ho 1 hc) [(2, 5, 1)]) := HHH.out.keep hb
  clear HC HY hb HHH 
  have HY : Hid (FY w w41 PX w1.heap.size pb fb (bsQ.set 1 false) R' Z (.slice (some ⟨ob, 0, none⟩) 1 1) (.slice so 1 sc)) := HY9.out
  clear HY9
  have HHH : Hid (HasHs w41 (.slice ho 1 hc) [(2, 5, 1)]) := HHH9.out
  clear HHH9
  have HC : Hid (type_of% (seen_bare 19 (by decide) w41 (HTY.out.keep HY.out.below HTY.out.pos))) := seen_bare 19 (by decide) w41 (HTY.out.keep HY.out.below HTY.out.pos)
  go_wp2_with fail
  refine HC.out.mono ?_
  rintro e w42 ⟨rfl, hb⟩
  have HY9 : Hid (FY w w42 PX w1.heap.size pb fb (bsQ.set 1 false) R' Z (.slice (some ⟨ob, 0, none⟩) 1 1) (.slice so 1 sc)) := HY.out.keep hb
  have HHH9 : Hid (HasHs w42 (.slice ho 1 hc) [(2, 5, 1)]) := HHH.out.keep hb
  clear HC HY hb HHH 
  have HY : Hid (FY w w42 PX w1.heap.size pb fb (bsQ.set 1 false) R' Z (.slice (some ⟨ob, 0, none⟩) 1 1) (.slice so 1 sc)) := HY9.out
  clear HY9
  have HHH : Hid (HasHs w42 (.slice ho 1 hc) [(2, 5, 1)]) := HHH9.out
  clear HHH9
  obtain ⟨hbk, hof, hho, hl, x0, x1, x2⟩ := HHH.out.at (k := 0) rfl
  subst hho
  simp only [Nat.zero_mul, Nat.add_zero] at x0 x1 x2
  have HZ : Hid (Below w.heap.size w w42) := HY.out.below
  clear HY HHH
  go_wp2
  go_ret
  exact ⟨by simp, HZ.out⟩
end Go.Proofs.YtbkclhaonbjobaaGreatDoor.Wt
