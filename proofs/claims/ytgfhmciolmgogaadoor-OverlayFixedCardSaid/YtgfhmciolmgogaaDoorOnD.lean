/- the law OverlayFixed. -/
import Derived.Test.YtgfhmciolmgogaaDoorOnC
namespace Go.Proofs.YtgfhmciolmgogaaDoor
open Go.RowKit Go.Extern Go.Sort

attribute [local go_sem] Oper.semAt_some

theorem btrO {a b c : World} (h : Below a.heap.size a b) (k : Below b.heap.size b c) : Below a.heap.size a c := h.trans (k.mono h.size)

set_option maxRecDepth 100000 in
set_option maxHeartbeats 16000000 in
theorem fixed11_calls (w : World) (hty : HasType w) : Calls Tryd.prog 3 #[] w fun e w' => e = .returned (.bool true) ∧ Below w.heap.size w w' := by
  have HTY : Hid (∀ wx, Below w.heap.size w wx → HasType wx) := fun wx h => hty.keep h hty.pos
  clear hty
  go_enter Tryd.func3, Tryd.ntmps3
  go_wp2_with fail
  refine (awake11_calls w).mono ?_
  rintro e w0 ⟨rfl, hb⟩
  have HNW : Hid (type_of% (new_four w w0 hb)) := new_four w w0 hb
  clear hb
  go_wp2_with fail
  refine HNW.out.mono ?_
  rintro e w1 ⟨pb, R, rfl, hO, hR, hb⟩
  have HO1 : Hid (IsOv noP w.heap.size w1 pb 3 (List.replicate 3 true) R 3 2) := hO
  have HR1 : Hid (type_of% hR) := hR
  have HB1 : Hid (Below w.heap.size w w1) := hb
  clear hO hR hb HNW
  go_wp2_with fail
  refine (HO1.out.outIs 0 (by kernel_rfl) [(1, 3, -1)] (rows0 HR1.out).1).mono ?_
  rintro e w2 ⟨so, sc, rfl, hs, hb⟩
  have HO2 : Hid (IsOv noP w.heap.size w2 pb 3 (List.replicate 3 true) R 3 2) := HO1.out.keep hb
  have HS : Hid (type_of% (same_one _ so sc w2 hs)) := same_one _ so sc w2 hs
  have HB2 : Hid (Below w.heap.size w w2) := btrO HB1.out hb
  clear hs hb HO1 HB1
  go_wp2_with fail
  refine HS.out.mono ?_
  rintro e w3 ⟨rfl, hb⟩
  have HO3 : Hid (IsOv noP w.heap.size w3 pb 3 (List.replicate 3 true) R 3 2) := HO2.out.keep hb
  have HB3 : Hid (Below w.heap.size w w3) := btrO HB2.out hb
  clear hb HO2 HB2 HS
  go_wp2_with fail
  refine (HO3.out.inIs 2 (by kernel_rfl) [(1, 1, -1)] (rows0 HR1.out).2.1).mono ?_
  rintro e w4 ⟨so2, sc2, rfl, hs, hb⟩
  have HO4 : Hid (IsOv noP w.heap.size w4 pb 3 (List.replicate 3 true) R 3 2) := HO3.out.keep hb
  have HS : Hid (type_of% (same_one _ so2 sc2 w4 hs)) := same_one _ so2 sc2 w4 hs
  have HB4 : Hid (Below w.heap.size w w4) := btrO HB3.out hb
  clear hs hb HO3 HB3
  go_wp2_with fail
  refine HS.out.mono ?_
  rintro e w5 ⟨rfl, hb⟩
  have HO5 : Hid (IsOv noP w.heap.size w5 pb 3 (List.replicate 3 true) R 3 2) := HO4.out.keep hb
  have HB5 : Hid (Below w.heap.size w w5) := btrO HB4.out hb
  clear hb HO4 HB4 HS
  go_wp2_with fail
  refine HO5.out.narcs.mono ?_
  rintro e w5' ⟨rfl, hw⟩
  subst hw
  go_wp2_with fail
  refine (HO5.out.removeYes 1 1 rfl (by kernel_rfl) (by omega) (by omega)).mono ?_
  rintro e w6 ⟨R', rfl, hO, hL, hb⟩
  rw [(rows0 HR1.out).2.2.1, (rows0 HR1.out).2.2.2] at hO
  have HO6 : Hid (IsOv noP w.heap.size w6 pb 3 bsO R' 2 0) := hO
  have HQ1 : Hid (Row0 R' []) := row1 HR1.out hL
  have HB6 : Hid (Below w.heap.size w w6) := HB5.out.trans hb
  clear hO hL hb HR1 HO5 HB5
  go_wp2_with fail
  refine (HO6.out.outIs 0 (by kernel_rfl) [] (row0_out HQ1.out)).mono ?_
  rintro e w7 ⟨so3, sc3, rfl, _, hb⟩
  have HO7 : Hid (IsOv noP w.heap.size w7 pb 3 bsO R' 2 0) := HO6.out.keep hb
  have HB7 : Hid (Below w.heap.size w w7) := btrO HB6.out hb
  clear hb HO6 HB6
  go_wp2_with fail
  refine HO7.out.narcs.mono ?_
  rintro e w7' ⟨rfl, hw⟩
  subst hw
  go_wp2_with fail
  refine (HO7.out.putYes 0 2 4 1 0 2 rfl rfl (by kernel_rfl) none (row0_w0 HQ1.out) (fun k hk => by cases hk) (by omega)).mono ?_
  rintro e w8 ⟨v1, v2, rfl, hO, hb⟩
  have hq : Row0 (putRows R' 0 2 4 1 v1 v2) [(2, 4, 1)] := row2 HQ1.out
  generalize putRows R' 0 2 4 1 v1 v2 = R2 at hq hO
  have HO8 : Hid (IsOv noP w.heap.size w8 pb 3 bsO R2 2 1) := hO
  have HQ2 : Hid (Row0 R2 [(2, 4, 1)]) := hq
  have HB8 : Hid (Below w.heap.size w w8) := HB7.out.trans hb
  clear hO hq hb HO7 HB7 HQ1
  go_wp2_with fail
  refine (HO8.out.putKeep 0 2 4 1 (by kernel_rfl) 4 (row0_w4 HQ2.out) (by omega)).mono ?_
  rintro e w9 ⟨rfl, hb⟩
  have HO9 : Hid (IsOv noP w.heap.size w9 pb 3 bsO R2 2 1) := HO8.out.keep hb
  have HB9 : Hid (Below w.heap.size w w9) := btrO HB8.out hb
  clear hb HO8 HB8
  go_wp2_with fail
  refine (HO9.out.putKeep 0 2 5 (-1) (by kernel_rfl) 4 (row0_w4 HQ2.out) (by omega)).mono ?_
  rintro e w10 ⟨rfl, hb⟩
  have HO10 : Hid (IsOv noP w.heap.size w10 pb 3 bsO R2 2 1) := HO9.out.keep hb
  have HB10 : Hid (Below w.heap.size w w10) := btrO HB9.out hb
  clear hb HO9 HB9
  go_wp2_with fail
  refine (HO10.out.putYes 0 2 3 (-1) 0 2 rfl rfl (by kernel_rfl) (some 4) (row0_w4 HQ2.out) (fun k hk => by cases hk; omega) (by omega)).mono ?_
  rintro e w11 ⟨v3, v4, rfl, hO, hb⟩
  have hq : Row0 (putRows R2 0 2 3 (-1) v3 v4) [(2, 3, -1)] := row2 HQ2.out
  generalize putRows R2 0 2 3 (-1) v3 v4 = R3 at hq hO
  have HO11 : Hid (IsOv noP w.heap.size w11 pb 3 bsO R3 2 1) := hO
  have HQ3 : Hid (Row0 R3 [(2, 3, -1)]) := hq
  have HB11 : Hid (Below w.heap.size w w11) := HB10.out.trans hb
  clear hO hq hb HO10 HB10 HQ2
  go_wp2_with fail
  refine (HO11.out.outIs 0 (by kernel_rfl) [(2, 3, -1)] (row0_out HQ3.out)).mono ?_
  rintro e w12 ⟨so4, sc4, rfl, hs, hb⟩
  have HO12 : Hid (IsOv noP w.heap.size w12 pb 3 bsO R3 2 1) := HO11.out.keep hb
  have HS : Hid (type_of% (same_one _ so4 sc4 w12 hs)) := same_one _ so4 sc4 w12 hs
  have HB12 : Hid (Below w.heap.size w w12) := btrO HB11.out hb
  clear hs hb HO11 HB11
  go_wp2_with fail
  refine HS.out.mono ?_
  rintro e w13 ⟨rfl, hb⟩
  have HO13 : Hid (IsOv noP w.heap.size w13 pb 3 bsO R3 2 1) := HO12.out.keep hb
  have HB13 : Hid (Below w.heap.size w w13) := btrO HB12.out hb
  clear hb HO12 HB12 HS
  go_wp2_with fail
  refine (HO13.out.putNo 0 1 1125899906842624 7 7 (by kernel_rfl) (by decide)).mono ?_
  rintro e wx ⟨rfl, hw0⟩
  have hw := hw0.symm
  clear hw0
  subst hw
  go_wp2_with fail
  refine (HO13.out.putNo 0 0 1125899906842624 7 1 (by kernel_rfl) (by decide)).mono ?_
  rintro e wx ⟨rfl, hw0⟩
  have hw := hw0.symm
  clear hw0
  subst hw
  go_wp2_with fail
  refine (HO13.out.putNo 0 2 1 2 1 (by kernel_rfl) (by decide)).mono ?_
  rintro e wx ⟨rfl, hw0⟩
  have hw := hw0.symm
  clear hw0
  subst hw
  go_wp2_with fail
  refine (HO13.out.putNo 0 2 140737488355329 9 8 (by kernel_rfl) (by decide)).mono ?_
  rintro e wx ⟨rfl, hw0⟩
  have hw := hw0.symm
  clear hw0
  subst hw
  go_wp2_with fail
  refine (HO13.out.putNo 0 2 140737488355328 3 1 (by kernel_rfl) (by decide)).mono ?_
  rintro e wx ⟨rfl, hw0⟩
  have hw := hw0.symm
  clear hw0
  subst hw
  go_wp2_with fail
  refine (HO13.out.putNo 0 2 1 (-2) 1 (by kernel_rfl) (by decide)).mono ?_
  rintro e wx ⟨rfl, hw0⟩
  have hw := hw0.symm
  clear hw0
  subst hw
  go_wp2_with fail
  refine (HO13.out.putYes 2 0 140737488355328 1 2 0 rfl rfl (by kernel_rfl) none (row0_w HQ3.out) (fun k hk => by cases hk) (by omega)).mono ?_
  rintro e w14 ⟨v5, v6, rfl, hO, hb⟩
  generalize putRows R3 2 0 140737488355328 1 v5 v6 = R4 at hO
  have HO14 : Hid (IsOv noP w.heap.size w14 pb 3 bsO R4 2 2) := hO
  have HB14 : Hid (Below w.heap.size w w14) := HB13.out.trans hb
  clear hO hb HO13 HB13 HQ3
  go_wp2_with fail
  refine (E_calls 7 w14).mono ?_
  rintro e w15 ⟨rfl, hb⟩
  have HO15 : Hid (IsOv noP w.heap.size w15 pb 3 bsO R4 2 2) := HO14.out.keep hb
  have HB15 : Hid (Below w.heap.size w w15) := btrO HB14.out hb
  clear hb HO14 HB14
  go_wp2_with fail
  refine (seen_bare 7 (by decide) w15 (HTY.out _ HB15.out)).mono ?_
  rintro e w16 ⟨rfl, hb⟩
  have HO16 : Hid (IsOv noP w.heap.size w16 pb 3 bsO R4 2 2) := HO15.out.keep hb
  have HB16 : Hid (Below w.heap.size w w16) := btrO HB15.out hb
  clear hb HO15 HB15
  go_wp2_with fail
  refine (E_calls 1 w16).mono ?_
  rintro e w17 ⟨rfl, hb⟩
  have HO17 : Hid (IsOv noP w.heap.size w17 pb 3 bsO R4 2 2) := HO16.out.keep hb
  have HB17 : Hid (Below w.heap.size w w17) := btrO HB16.out hb
  clear hb HO16 HB16
  go_wp2_with fail
  refine (seen_bare 1 (by decide) w17 (HTY.out _ HB17.out)).mono ?_
  rintro e w18 ⟨rfl, hb⟩
  have HO18 : Hid (IsOv noP w.heap.size w18 pb 3 bsO R4 2 2) := HO17.out.keep hb
  have HB18 : Hid (Below w.heap.size w w18) := btrO HB17.out hb
  clear hb HO17 HB17
  go_wp2_with fail
  refine (E_calls 1 w18).mono ?_
  rintro e w19 ⟨rfl, hb⟩
  have HO19 : Hid (IsOv noP w.heap.size w19 pb 3 bsO R4 2 2) := HO18.out.keep hb
  have HB19 : Hid (Below w.heap.size w w19) := btrO HB18.out hb
  clear hb HO18 HB18
  go_wp2_with fail
  refine (seen_bare 1 (by decide) w19 (HTY.out _ HB19.out)).mono ?_
  rintro e w20 ⟨rfl, hb⟩
  have HO20 : Hid (IsOv noP w.heap.size w20 pb 3 bsO R4 2 2) := HO19.out.keep hb
  have HB20 : Hid (Below w.heap.size w w20) := btrO HB19.out hb
  clear hb HO19 HB19
  go_wp2_with fail
  refine (E_calls 8 w20).mono ?_
  rintro e w21 ⟨rfl, hb⟩
  have HO21 : Hid (IsOv noP w.heap.size w21 pb 3 bsO R4 2 2) := HO20.out.keep hb
  have HB21 : Hid (Below w.heap.size w w21) := btrO HB20.out hb
  clear hb HO20 HB20
  go_wp2_with fail
  refine (seen_bare 8 (by decide) w21 (HTY.out _ HB21.out)).mono ?_
  rintro e w22 ⟨rfl, hb⟩
  have HO22 : Hid (IsOv noP w.heap.size w22 pb 3 bsO R4 2 2) := HO21.out.keep hb
  have HB22 : Hid (Below w.heap.size w w22) := btrO HB21.out hb
  clear hb HO21 HB21
  go_wp2_with fail
  refine (E_calls 1 w22).mono ?_
  rintro e w23 ⟨rfl, hb⟩
  have HO23 : Hid (IsOv noP w.heap.size w23 pb 3 bsO R4 2 2) := HO22.out.keep hb
  have HB23 : Hid (Below w.heap.size w w23) := btrO HB22.out hb
  clear hb HO22 HB22
  go_wp2_with fail
  refine (seen_bare 1 (by decide) w23 (HTY.out _ HB23.out)).mono ?_
  rintro e w24 ⟨rfl, hb⟩
  have HO24 : Hid (IsOv noP w.heap.size w24 pb 3 bsO R4 2 2) := HO23.out.keep hb
  have HB24 : Hid (Below w.heap.size w w24) := btrO HB23.out hb
  clear hb HO23 HB23
  go_wp2_with fail
  refine (E_calls 1 w24).mono ?_
  rintro e w25 ⟨rfl, hb⟩
  have HO25 : Hid (IsOv noP w.heap.size w25 pb 3 bsO R4 2 2) := HO24.out.keep hb
  have HB25 : Hid (Below w.heap.size w w25) := btrO HB24.out hb
  clear hb HO24 HB24
  go_wp2_with fail
  refine (seen_bare 1 (by decide) w25 (HTY.out _ HB25.out)).mono ?_
  rintro e w26 ⟨rfl, hb⟩
  have HO26 : Hid (IsOv noP w.heap.size w26 pb 3 bsO R4 2 2) := HO25.out.keep hb
  have HB26 : Hid (Below w.heap.size w w26) := btrO HB25.out hb
  clear hb HO25 HB25
  go_wp2_with fail
  refine (HO26.out.removeNo 1 (by kernel_rfl)).mono ?_
  rintro e wx ⟨rfl, hw0⟩
  have hw := hw0.symm
  clear hw0
  subst hw
  go_wp2_with fail
  refine (E_calls 7 w26).mono ?_
  rintro e w27 ⟨rfl, hb⟩
  have HO27 : Hid (IsOv noP w.heap.size w27 pb 3 bsO R4 2 2) := HO26.out.keep hb
  have HB27 : Hid (Below w.heap.size w w27) := btrO HB26.out hb
  clear hb HO26 HB26
  go_wp2_with fail
  refine (seen_bare 7 (by decide) w27 (HTY.out _ HB27.out)).mono ?_
  rintro e w28 ⟨rfl, hb⟩
  have HO28 : Hid (IsOv noP w.heap.size w28 pb 3 bsO R4 2 2) := HO27.out.keep hb
  have HB28 : Hid (Below w.heap.size w w28) := btrO HB27.out hb
  clear hb HO27 HB27
  go_wp2_with fail
  refine (HO28.out.removeNo 7 (by kernel_rfl)).mono ?_
  rintro e wx ⟨rfl, hw0⟩
  have hw := hw0.symm
  clear hw0
  subst hw
  go_wp2_with fail
  refine (E_calls 7 w28).mono ?_
  rintro e w29 ⟨rfl, hb⟩
  have HO29 : Hid (IsOv noP w.heap.size w29 pb 3 bsO R4 2 2) := HO28.out.keep hb
  have HB29 : Hid (Below w.heap.size w w29) := btrO HB28.out hb
  clear hb HO28 HB28
  go_wp2_with fail
  refine (seen_bare 7 (by decide) w29 (HTY.out _ HB29.out)).mono ?_
  rintro e w30 ⟨rfl, hb⟩
  have HO30 : Hid (IsOv noP w.heap.size w30 pb 3 bsO R4 2 2) := HO29.out.keep hb
  have HB30 : Hid (Below w.heap.size w w30) := btrO HB29.out hb
  clear hb HO29 HB29
  go_wp2_with fail
  refine (put_nil (w := w30) 0 0 0 9).mono ?_
  rintro e wx ⟨rfl, hw0⟩
  have hw := hw0.symm
  clear hw0
  subst hw
  go_wp2_with fail
  refine (weight_nil (w := w30) 0 1).mono ?_
  rintro e wx ⟨rfl, hw0⟩
  have hw := hw0.symm
  clear hw0
  subst hw
  go_wp2_with fail
  refine (new_one w30).mono ?_
  rintro e w31 ⟨vN, rfl, hT, hb⟩
  have HT31 : Hid (IsTold w31 (7, [(4, 0)]) vN) := hT
  have HB31 : Hid (Below w.heap.size w w31) := btrO HB30.out hb
  clear hb hT HO30 HB30
  go_wp2_with fail
  refine (E_calls 19 w31).mono ?_
  rintro e w32 ⟨rfl, hb⟩
  have HT32 : Hid (IsTold w32 (7, [(4, 0)]) vN) := HT31.out.keep (Below.keeps hb)
  have HB32 : Hid (Below w.heap.size w w32) := btrO HB31.out hb
  clear hb HT31 HB31
  go_wp2_with fail
  refine (seen_bare 19 (by decide) w32 (HTY.out _ HB32.out)).mono ?_
  rintro e w33 ⟨rfl, hb⟩
  have HT33 : Hid (IsTold w33 (7, [(4, 0)]) vN) := HT32.out.keep (Below.keeps hb)
  have HB33 : Hid (Below w.heap.size w w33) := btrO HB32.out hb
  clear hb HT32 HB32
  go_wp2_with fail
  refine (remove_nil (w := w33) 0).mono ?_
  rintro e wx ⟨rfl, hw0⟩
  have hw := hw0.symm
  clear hw0
  subst hw
  go_wp2_with fail
  refine (E_calls 19 w33).mono ?_
  rintro e w34 ⟨rfl, hb⟩
  have HT34 : Hid (IsTold w34 (7, [(4, 0)]) vN) := HT33.out.keep (Below.keeps hb)
  have HB34 : Hid (Below w.heap.size w w34) := btrO HB33.out hb
  clear hb HT33 HB33
  go_wp2_with fail
  refine (seen_bare 19 (by decide) w34 (HTY.out _ HB34.out)).mono ?_
  rintro e w35 ⟨rfl, hb⟩
  have HT35 : Hid (IsTold w35 (7, [(4, 0)]) vN) := HT34.out.keep (Below.keeps hb)
  have HB35 : Hid (Below w.heap.size w w35) := btrO HB34.out hb
  clear hb HT34 HB34
  go_wp2_with fail
  refine (out_nil (w := w35) 0).mono ?_
  rintro e wx ⟨rfl, hw0⟩
  have hw := hw0.symm
  clear hw0
  subst hw
  go_wp2_with fail
  refine (in_nil (w := w35) 0).mono ?_
  rintro e wx ⟨rfl, hw0⟩
  have hw := hw0.symm
  clear hw0
  subst hw
  go_wp2_with fail
  refine (alive_nil (w := w35) 0).mono ?_
  rintro e wx ⟨rfl, hw0⟩
  have hw := hw0.symm
  clear hw0
  subst hw
  go_wp2_with fail
  refine (len_nil (w := w35)).mono ?_
  rintro e wx ⟨rfl, hw0⟩
  have hw := hw0.symm
  clear hw0
  subst hw
  go_wp2_with fail
  refine (arcs_nil (w := w35)).mono ?_
  rintro e wx ⟨rfl, hw0⟩
  have hw := hw0.symm
  clear hw0
  subst hw
  go_wp2_with fail
  refine (E_calls 7 w35).mono ?_
  rintro e w36 ⟨rfl, hb⟩
  have HT36 : Hid (IsTold w36 (7, [(4, 0)]) vN) := HT35.out.keep (Below.keeps hb)
  have HB36 : Hid (Below w.heap.size w w36) := btrO HB35.out hb
  clear hb HT35 HB35
  go_wp2_with fail
  refine (refAt_calls 4 0 7 w36).mono ?_
  rintro e w37 ⟨g, rfl, hg, hb⟩
  have HP : Hid (HasPlaces w37 (.slice (some ⟨g, 0, none⟩) 1 1) [(4, 0)]) := pl_oneO hg
  have HT37 : Hid (IsTold w37 (7, [(4, 0)]) vN) := HT36.out.keep (Below.keeps hb)
  have HB37 : Hid (Below w.heap.size w w37) := btrO HB36.out hb
  clear hb hg HT36 HB36
  go_wp2_with fail
  refine (seen_told (7, [(4, 0)]) vN (some ⟨g, 0, none⟩) 1 w37 HT37.out HP.out (by simp [maxLen]) (HTY.out _ HB37.out)).mono ?_
  rintro e wz ⟨rfl, hb⟩
  have HBZ : Hid (Below w.heap.size w wz) := btrO HB37.out hb
  clear hb HP HT37 HB37
  go_wp2
  go_ret
  exact ⟨rfl, HBZ.out⟩
end Go.Proofs.YtgfhmciolmgogaaDoor
