/- the law SearchFixed. -/
import Derived.Test.YtbaahjppofbdlaaGreatDoorSyX
import Derived.Test.YtbaahjppofbdlaaGreatDoorSeen
import Derived.Test.YtbaahjppofbdlaaGreatDoorDocCheck
import Derived.Test.YtbaahjppofbdlaaGreatDoorSrG
namespace Go.Proofs.YtbaahjppofbdlaaGreatDoor
open Go.RowKit Go.Extern

attribute [local go_sem] Oper.semAt_some

/-- the line, as far as it is made. -/
structure LB (B gb : Nat) (so : Option Addr) (sc v : Nat) (w : World) : Prop where
  box : w.heap[gb]? = some (.cells #[.int .i64 1000, .slice so v sc] 24)
  own : w.ownsRow B 61 3 (.slice so v sc) v (flatC (lineA v))
theorem LB.next {B gb v : Nat} {so po : Option Addr} {sc pc : Nat} {wr w2 w3 : World} (h : LB B gb so sc v wr) (hb : Below wr.heap.size wr w2) (ho : w3.ownsRow B 61 3 (.slice po (v + 1) pc) (v + 1) (flatC (lineA (v + 1)))) (hg : w2.grownBy w3 (Value.slice so v sc).ownBlock) : w3.heap[gb]? = some (.cells #[.int .i64 1000, .slice so v sc] 24) ∧ LB B gb po pc (v + 1) (w3.setCell ⟨gb, 1, none⟩ (.slice po (v + 1) pc)) := by
  have hbx := (hb.block _ (lt_of_get h.box)).trans h.box
  have hg3 := (hg.block _ (lt_of_get hbx) (own_not_box (rowC_keep h.own hb) hbx (by decide))).trans hbx
  have hne := own_not_box ho hg3 (by decide)
  refine ⟨hg3, Go.heap_setCell_same w3 gb 1 _ 24 _ hg3, ?_⟩
  obtain ⟨h1, h2⟩ := ho
  refine ⟨h1, ?_⟩
  rcases h2 with h2 | ⟨g, cap, cur, e, hb, hh, r⟩
  · exact Or.inl h2
  · exact Or.inr ⟨g, cap, cur, e, hb, (heap_setCell_other _ _ _ _ (fun e2 => hne (by rw [e]; exact congrArg some (Eq.symm e2)))).trans hh, r⟩

set_option maxRecDepth 100000 in
set_option maxHeartbeats 16000000 in
theorem fixed8_calls (w : World) (hty : HasType w) : Calls Tryz.prog 4 #[] w fun e w' => e = .returned (.bool true) ∧ Below w.heap.size w w' := by
  have HTY : Hid (∀ wx, Below w.heap.size w wx → HasType wx) := fun wx h => hty.keep h hty.pos
  have HSE : Hid (∀ wx (n : Int), n ≠ 0 → Below w.heap.size w wx → Calls Tryz.prog 13 #[.iface 53 (.int .i64 n), .agg #[.int .i64 n, .slice none 0 0]] wx fun r w' => r = .returned (.bool true) ∧ Below wx.heap.size wx w') := fun wx n hn hb => seen_told (n, []) (.iface 53 (.int .i64 n)) none 0 wx (Or.inr ⟨hn, rfl⟩) ⟨_, _, rfl, fun j p hj => by simp at hj⟩ (Nat.zero_le _) (HTY.out wx hb)
  clear hty
  go_enter Tryz.func4, Tryz.ntmps4
  go_wp2_with fail
  refine (awake8_calls w).mono ?_
  rintro e w1 ⟨rfl, hb⟩
  have H1 : Hid (Below w.heap.size w w1) := hb
  clear hb
  go_wp2_with fail
  refine (four8_calls w1).mono ?_
  rintro e w2 ⟨fo, fc, uo, tc, wo, wc, rfl, hI, hb⟩
  have H2 : Hid (CsrIn w2 4 Z8 fo uo wo fc tc wc ∧ Below w.heap.size w w2) := ⟨hI, btr H1.out hb⟩
  clear hI hb H1
  go_wp2_with fail
  refine (of8z_calls fo uo wo fc tc wc w2 H2.out.1).mono ?_
  rintro e w3 ⟨fo2, fc2, uo2, tc2, wo2, wc2, rfl, hI, hb⟩
  have hal := below1 w3 (.cells #[.slice fo2 5 fc2, .slice uo2 4 tc2, .slice wo2 4 wc2] 29)
  have H3 : Hid (Below w.heap.size w (w3.alloc (.cells #[.slice fo2 5 fc2, .slice uo2 4 tc2, .slice wo2 4 wc2] 29)) ∧ CsrIn (w3.alloc (.cells #[.slice fo2 5 fc2, .slice uo2 4 tc2, .slice wo2 4 wc2] 29)) 4 Z8 fo2 uo2 wo2 fc2 tc2 wc2 ∧ (w3.alloc (.cells #[.slice fo2 5 fc2, .slice uo2 4 tc2, .slice wo2 4 wc2] 29)).heap[w3.heap.size]? = some (.cells #[.slice fo2 5 fc2, .slice uo2 4 tc2, .slice wo2 4 wc2] 29)) := ⟨btr (btr H2.out.2 hb) hal, hI.keep hal, heap_new _ _⟩
  clear hI hb hal H2
  go_upto_region 4 with fail
  generalize w3.alloc (.cells #[.slice fo2 5 fc2, .slice uo2 4 tc2, .slice wo2 4 wc2] 29) = w4 at *
  generalize w3.heap.size = xb at *
  have HXK : Hid (∀ wx, Below w4.heap.size w4 wx → (wx.cell? ⟨xb, 0, none⟩ = some (.slice fo2 5 fc2) ∧ wx.cell? ⟨xb, 1, none⟩ = some (.slice uo2 4 tc2) ∧ wx.cell? ⟨xb, 2, none⟩ = some (.slice wo2 4 wc2)) ∧ xb < wx.heap.size ∧ CsrIn wx 4 Z8 fo2 uo2 wo2 fc2 tc2 wc2) := fun wx hwx => by
    have hg := (hwx.block _ (lt_of_get H3.out.2.2)).trans H3.out.2.2
    exact ⟨box3 hg, lt_of_get hg, H3.out.2.1.keep hwx⟩
  have HUP : Hid (∀ wx, Below w4.heap.size w4 wx → Below w.heap.size w wx) := fun wx h => btr H3.out.1 h
  clear H3
  obtain ⟨⟨x0, x1, x2⟩, xl, xC⟩ := HXK.out w4 (Below.refl _ _)
  go_wp2_with fail
  refine (from8_3 fo2 uo2 wo2 fc2 tc2 wc2 w4 xC).mono ?_
  rintro e w5 ⟨db, rfl, hU, hb⟩
  have H5 : Hid (Below w4.heap.size w4 w5 ∧ U64s w5 db [18446744073709551615, 18446744073709551615, 18446744073709551615, 0]) := ⟨hb, hU⟩
  clear hb hU x0 x1 x2 xl xC
  obtain ⟨⟨x0, x1, x2⟩, xl, xC⟩ := HXK.out w5 H5.out.1
  go_wp2_with fail
  refine (path8_22 fo2 uo2 wo2 fc2 tc2 wc2 w5 xC).mono ?_
  rintro e w6 ⟨g, pc, rfl, hP, hb⟩
  have H6 : Hid (Below w5.heap.size w5 w6 ∧ HasInts w6 (.slice (some ⟨g, 0, none⟩) 1 pc) [2] ∧ Below w4.heap.size w4 w6) := ⟨hb, hP, btr H5.out.1 hb⟩
  clear hb hP x0 x1 x2 xl xC
  obtain ⟨⟨x0, x1, x2⟩, xl, xC⟩ := HXK.out w6 H6.out.2.2
  go_wp2_with fail
  refine (path8_30 fo2 uo2 wo2 fc2 tc2 wc2 w6 xC).mono ?_
  rintro e w7 ⟨rfl, hb⟩
  have H7 : Hid (Below w6.heap.size w6 w7 ∧ Below w4.heap.size w4 w7) := ⟨hb, btr H6.out.2.2 hb⟩
  clear hb x0 x1 x2 xl xC
  obtain ⟨⟨x0, x1, x2⟩, xl, xC⟩ := HXK.out w7 H7.out.2
  go_wp2_with fail
  refine (from8_4 fo2 uo2 wo2 fc2 tc2 wc2 w7 xC).mono ?_
  rintro e w8 ⟨rfl, hb⟩
  have H8 : Hid (Below w6.heap.size w6 w8 ∧ Below w4.heap.size w4 w8) := ⟨btr H7.out.1 hb, btr H7.out.2 hb⟩
  clear hb x0 x1 x2 xl xC
  have HSH : Hid (Calls Tryz.prog 9 #[.agg #[.slice (some ⟨w8.heap.size, 0, none⟩) 1 1, .slice none 0 0, .slice none 0 0], .int .i64 0] (w8.alloc (.cells #[.int .i64 1] 3)) fun e w' => e = .returned (.tuple #[.slice none 0 0, .iface 53 (.int .i64 14)]) ∧ Below w8.heap.size w8 w') := (from_shape w8.heap.size _ (heap_new w8 (.cells #[.int .i64 1] 3))).mono fun e w' ⟨he, hb⟩ => ⟨he, btr (below1 _ _) hb⟩
  go_wp2_with fail
  refine HSH.out.mono ?_
  rintro e w9 ⟨rfl, hb⟩
  have H9 : Hid (Below w6.heap.size w6 w9 ∧ Below w4.heap.size w4 w9) := ⟨btr H8.out.1 hb, btr H8.out.2 hb⟩
  clear hb HSH
  obtain ⟨⟨x0, x1, x2⟩, xl, xC⟩ := HXK.out w9 H9.out.2
  go_wp2_with fail
  refine (path8_4 fo2 uo2 wo2 fc2 tc2 wc2 w9 xC).mono ?_
  rintro e w10 ⟨rfl, hb⟩
  have H10 : Hid (Below w6.heap.size w6 w10 ∧ Below w4.heap.size w4 w10) := ⟨btr H9.out.1 hb, btr H9.out.2 hb⟩
  clear hb x0 x1 x2 xl xC
  obtain ⟨⟨x0, x1, x2⟩, xl, xC⟩ := HXK.out w10 H10.out.2
  go_wp2_with fail
  refine (path8_0 fo2 uo2 wo2 fc2 tc2 wc2 w10 xC).mono ?_
  rintro e w11 ⟨rfl, hb⟩
  have H11 : Hid (Below w6.heap.size w6 w11 ∧ Below w4.heap.size w4 w11) := ⟨btr H10.out.1 hb, btr H10.out.2 hb⟩
  clear hb x0 x1 x2 xl xC
  have HSR : Hid (Calls Tryz.prog 18 #[.slice (some ⟨db, 0, none⟩) 4 4, .slice (some ⟨w11.heap.size, 0, none⟩) 4 4] (w11.alloc (.cells #[.int .u64 18446744073709551615, .int .u64 18446744073709551615, .int .u64 18446744073709551615, .int .u64 0] 43)) fun e w' => e = .returned (.bool true) ∧ Below w11.heap.size w11 w') := by
    have hal := below1 w11 (.cells #[.int .u64 18446744073709551615, .int .u64 18446744073709551615, .int .u64 18446744073709551615, .int .u64 0] 43)
    refine (sameRow_yes (some ⟨db, 0, none⟩) (some ⟨w11.heap.size, 0, none⟩) 4 4 [18446744073709551615, 18446744073709551615, 18446744073709551615, 0] _ ?_ ?_ (by decide)).mono fun e w' ⟨he, hb⟩ => ⟨he, btr hal hb⟩
    · exact URow.keep (URow.keep (Or.inr ⟨db, rfl, H5.out.2⟩) (btr H6.out.1 H11.out.1)) hal
    · exact Or.inr ⟨w11.heap.size, rfl, heap_new _ _⟩
  go_wp2_with fail
  refine HSR.out.mono ?_
  rintro e w12 ⟨rfl, hb⟩
  have H12 : Hid (Below w4.heap.size w4 w12) := btr H11.out.2 hb
  obtain ⟨b0, off0, e0, pl, p0⟩ := (H6.out.2.1.keep (btr H11.out.1 hb)).at (k := 0) (a := 2) rfl
  injection e0 with e0
  injection e0 with e1 e2
  subst e1
  subst e2
  clear hb HSR H5 H6 H7 H8 H9 H10 H11
  go_wp2_with fail
  refine (E_calls 16 w12).mono ?_
  rintro e w13 ⟨rfl, hb⟩
  have H13 : Hid (Below w4.heap.size w4 w13) := btr H12.out hb
  clear hb
  clear p0 pl
  go_wp2_with fail
  refine (HSE.out w13 16 (by decide) (HUP.out w13 H13.out)).mono ?_
  rintro e w14 ⟨rfl, hb⟩
  have H14 : Hid (Below w4.heap.size w4 w14) := btr H13.out hb
  clear hb
  go_wp2_with fail
  refine (E_calls 7 w14).mono ?_
  rintro e w15 ⟨rfl, hb⟩
  have H15 : Hid (Below w4.heap.size w4 w15) := btr H14.out hb
  clear hb
  go_wp2_with fail
  refine (HSE.out w15 7 (by decide) (HUP.out w15 H15.out)).mono ?_
  rintro e w16 ⟨rfl, hb⟩
  have H16 : Hid (Below w4.heap.size w4 w16) := btr H15.out hb
  clear hb
  go_wp2_with fail
  refine (E_calls 14 w16).mono ?_
  rintro e w17 ⟨rfl, hb⟩
  have H17 : Hid (Below w4.heap.size w4 w17) := btr H16.out hb
  clear hb
  go_wp2_with fail
  refine (HSE.out w17 14 (by decide) (HUP.out w17 H17.out)).mono ?_
  rintro e w18 ⟨rfl, hb⟩
  have H18 : Hid (Below w4.heap.size w4 w18) := btr H17.out hb
  clear hb
  go_wp2_with fail
  refine (E_calls 7 w18).mono ?_
  rintro e w19 ⟨rfl, hb⟩
  have H19 : Hid (Below w4.heap.size w4 w19) := btr H18.out hb
  clear hb
  go_wp2_with fail
  refine (HSE.out w19 7 (by decide) (HUP.out w19 H19.out)).mono ?_
  rintro e w20 ⟨rfl, hb⟩
  have H20 : Hid (Below w4.heap.size w4 w20) := btr H19.out hb
  clear hb
  go_wp2_with fail
  refine (E_calls 7 w20).mono ?_
  rintro e w21 ⟨rfl, hb⟩
  have H21 : Hid (Below w4.heap.size w4 w21) := btr H20.out hb
  clear hb
  go_wp2_with fail
  refine (HSE.out w21 7 (by decide) (HUP.out w21 H21.out)).mono ?_
  rintro e w22 ⟨rfl, hb⟩
  have H22 : Hid (Below w4.heap.size w4 w22) := btr H21.out hb
  clear hb
  obtain ⟨⟨x0, x1, x2⟩, xl, xC⟩ := HXK.out w22 H22.out
  go_wp2_with fail
  refine (bounded8_1 fo2 uo2 wo2 fc2 tc2 wc2 w22 xC).mono ?_
  rintro e w23 ⟨l1, lc1, rfl, hl1, hb⟩
  have H23 : Hid (Below w4.heap.size w4 w23) := btr H22.out hb
  have HL1 : Hid (type_of% hl1) := hl1
  clear hb hl1 x0 x1 x2 xl xC
  obtain ⟨⟨x0, x1, x2⟩, xl, xC⟩ := HXK.out w23 H23.out
  go_wp2_with fail
  refine (bounded8_2 fo2 uo2 wo2 fc2 tc2 wc2 w23 xC).mono ?_
  rintro e w24 ⟨l2, lc2, rfl, hl2, hb⟩
  have H24 : Hid (Below w4.heap.size w4 w24 ∧ Below w23.heap.size w23 w24) := ⟨btr H23.out hb, hb⟩
  have HL2 : Hid (type_of% hl2) := hl2
  clear hb hl2 x0 x1 x2 xl xC
  obtain ⟨⟨x0, x1, x2⟩, xl, xC⟩ := HXK.out w24 H24.out.1
  go_wp2_with fail
  refine (bounded8_3 fo2 uo2 wo2 fc2 tc2 wc2 w24 xC).mono ?_
  rintro e w25 ⟨l3, lc3, rfl, hl3, hb⟩
  have H25 : Hid (Below w4.heap.size w4 w25) := btr H24.out.1 hb
  obtain ⟨m1, hm1⟩ := HL1.out w25 (btr H24.out.2 hb)
  obtain ⟨m2, hm2⟩ := HL2.out w25 hb
  obtain ⟨m3, hm3⟩ := hl3 w25 (Below.refl _ _)
  obtain ⟨a0, a1, a2, a3⟩ := hm1 2 _ rfl
  obtain ⟨b0, b1, b2, b3⟩ := hm2 0 _ rfl
  obtain ⟨c0, c1, c2, c3⟩ := hm3 2 _ rfl
  clear hb hl3 hm1 hm2 hm3 x0 x1 x2 xl xC HL1 HL2
  simp only [Nat.reduceMul, Nat.reduceAdd, Nat.zero_mul, Nat.zero_add] at a0 a1 a2 a3 b0 b1 b2 b3 c0 c1 c2 c3
  have H26 : Hid (LB w25.heap.size w25.heap.size none 0 0 (w25.alloc (.cells #[.int .i64 1000, .slice none 0 0] 24)) ∧ Below w25.heap.size w25 (w25.alloc (.cells #[.int .i64 1000, .slice none 0 0] 24))) := ⟨⟨heap_new _ _, World.ownsRow_nil _ _ _ _⟩, below1 _ _⟩
  have HUX : Hid (∀ wx, Below w25.heap.size w25 wx → Below w.heap.size w wx ∧ w25.heap.size ≤ wx.heap.size) := fun wx h => ⟨HUP.out wx (btr H25.out h), h.size⟩
  go_wp2_with fail
  generalize w25.alloc (.cells #[.int .i64 1000, .slice none 0 0] 24) = w26 at *
  generalize w25.heap.size = gb at *
  clear a0 a1 a2 a3 b0 b1 b2 b3 c0 c1 c2 c3 m1 m2 m3 HXK H12 H13 H14 H15 H16 H17 H18 H19 H20 H21 H22 H23 H24
  go_loopw [178] (fun iv wr => ∃ v : Nat, v ≤ 999 ∧ iv = .int .i64 v ∧ ∃ so sc, LB gb gb so sc v wr ∧ Below gb w25 wr) (fun iv _ => 999 - (intOf iv).toNat)
  case atStart => exact ⟨0, by omega, rfl, none, 0, H26.out⟩
  case round =>
    obtain ⟨v, hv, rfl, so, sc, hLB, hbw⟩ := hrel
    have HL : Hid (LB gb gb so sc v wr ∧ Below gb w25 wr) := ⟨hLB, hbw⟩
    obtain ⟨g0, g1, _, _⟩ := cell_two hLB.box
    have gs := lt_of_get hLB.box
    clear hLB hbw
    by_cases hlt : v < 999
    · have v0 : IntKind.i64.wrap ((v : Int) + 1) = (v : Int) + 1 := by rw [IntKind.wrap_i64] <;> omega
      have v1 : (v : Int) < 999 := by omega
      have HSZ : Hid (gb ≤ wr.heap.size) := (HUX.out wr HL.out.2).2
      go_wp2_with (at_builtin; refine wpList_append_arcs rfl _ _ rfl gb (.slice so v sc) (lineA v) rfl (by rw [lineA_len]; exact rowC_keep HL.out.1.own (below1 _ _)) (some ⟨wr.heap.size, 0, none⟩) 1 [((v : Int), (v : Int) + 1, 2147483647)] rfl (arcs_one wr ((v : Int), (v : Int) + 1, 2147483647) 61) (fun e => by cases e) (by rw [lineA_len]; simp; omega) (Nat.le_trans HSZ.out (below1 _ _).size) ?_; intro av w3 hown3 hgr3; rw [← lineA_succ, lineA_len] at hown3; obtain ⟨po, pc, hv3⟩ := rowC_slice hown3; subst hv3; have hnx := LB.next HL.out.1 (below1 wr _) hown3 hgr3; have H3 : Hid (LB gb gb po pc (v + 1) (w3.setCell ⟨gb, 1, none⟩ (.slice po (v + 1) pc)) ∧ Below gb w25 (w3.setCell ⟨gb, 1, none⟩ (.slice po (v + 1) pc))) := ⟨hnx.2, (below_grown (HL.out.2.alloc HSZ.out _) (rowC_keep HL.out.1.own (below1 wr _)) hgr3 (Nat.le_trans HSZ.out (below1 wr _).size)).setCell (p := ⟨gb, 1, none⟩) (Nat.le_refl _) _⟩; obtain ⟨k0, k1, k2, k3⟩ := cell_two hnx.1; have ks := lt_of_get hnx.1; clear hown3 hgr3 hnx g0 g1 gs)
      go_roundw
      case rel => exact ⟨v + 1, by omega, by go_num, po, pc, H3.out⟩
      case measure => simp [intOf]; omega
    · obtain rfl : v = 999 := by omega
      have HA : Hid (HasArcs wr (.slice so 999 sc) (lineA 999)) := arcs_of_rowC (l := lineA 999) (by rw [lineA_len]; exact HL.out.1.own)
      have HBR : Hid (Below w.heap.size w wr) := (HUX.out wr HL.out.2).1
      go_wp2_with fail
      refine (line_build HA.out).mono ?_
      rintro e w27 ⟨F, T, V, rfl, hC, hb⟩
      have hal := below1 w27 (.cells #[.slice (some ⟨F, 0, none⟩) 1001 1001, .slice (some ⟨T, 0, none⟩) 999 999, .slice (some ⟨V, 0, none⟩) 999 999] 29)
      have H28 : Hid (Below w.heap.size w (w27.alloc (.cells #[.slice (some ⟨F, 0, none⟩) 1001 1001, .slice (some ⟨T, 0, none⟩) 999 999, .slice (some ⟨V, 0, none⟩) 999 999] 29)) ∧ CsrIn (w27.alloc (.cells #[.slice (some ⟨F, 0, none⟩) 1001 1001, .slice (some ⟨T, 0, none⟩) 999 999, .slice (some ⟨V, 0, none⟩) 999 999] 29)) 1000 (lineA 999) (some ⟨F, 0, none⟩) (some ⟨T, 0, none⟩) (some ⟨V, 0, none⟩) 1001 999 999 ∧ (w27.alloc (.cells #[.slice (some ⟨F, 0, none⟩) 1001 1001, .slice (some ⟨T, 0, none⟩) 999 999, .slice (some ⟨V, 0, none⟩) 999 999] 29)).heap[w27.heap.size]? = some (.cells #[.slice (some ⟨F, 0, none⟩) 1001 1001, .slice (some ⟨T, 0, none⟩) 999 999, .slice (some ⟨V, 0, none⟩) 999 999] 29)) := ⟨btr (btr HBR.out hb) hal, hC.keep hal, heap_new _ _⟩
      clear hb hC hal g0 g1 gs HL HA HBR HUX H26
      go_upto_region 25 with fail
      generalize w27.alloc (.cells #[.slice (some ⟨F, 0, none⟩) 1001 1001, .slice (some ⟨T, 0, none⟩) 999 999, .slice (some ⟨V, 0, none⟩) 999 999] 29) = w28 at *
      generalize w27.heap.size = yb at *
      have HYK : Hid (∀ wx, Below w28.heap.size w28 wx → (wx.cell? ⟨yb, 0, none⟩ = some (.slice (some ⟨F, 0, none⟩) 1001 1001) ∧ wx.cell? ⟨yb, 1, none⟩ = some (.slice (some ⟨T, 0, none⟩) 999 999) ∧ wx.cell? ⟨yb, 2, none⟩ = some (.slice (some ⟨V, 0, none⟩) 999 999)) ∧ yb < wx.heap.size ∧ CsrIn wx 1000 (lineA 999) (some ⟨F, 0, none⟩) (some ⟨T, 0, none⟩) (some ⟨V, 0, none⟩) 1001 999 999) := fun wx hwx => by
        have hg := (hwx.block _ (lt_of_get H28.out.2.2)).trans H28.out.2.2
        exact ⟨box3 hg, lt_of_get hg, H28.out.2.1.keep hwx⟩
      obtain ⟨⟨y0, y1, y2⟩, yl, yC⟩ := HYK.out w28 (Below.refl _ _)
      go_wp2_with fail
      refine (line_from _ _ _ _ _ _ w28 yC).mono ?_
      rintro e w29 ⟨dl, rfl, hd, hb⟩
      have H29 : Hid (Below w28.heap.size w28 w29) := hb
      have HDL : Hid (type_of% hd) := hd
      clear hb hd y0 y1 y2 yl yC
      obtain ⟨⟨y0, y1, y2⟩, yl, yC⟩ := HYK.out w29 H29.out
      go_wp2_with fail
      refine (line_way _ _ _ _ _ _ w29 yC).mono ?_
      rintro e w30 ⟨qo, qc, rfl, hb⟩
      have H30 : Hid (Below w29.heap.size w29 w30 ∧ Below w.heap.size w w30) := ⟨hb, btr (btr H28.out.1 H29.out) hb⟩
      clear hb y0 y1 y2 yl yC
      go_wp2_with fail
      refine (none_build w30).mono ?_
      rintro e w31 ⟨F2, T2, V2, rfl, hC, hb⟩
      have hal := below1 w31 (.cells #[.slice (some ⟨F2, 0, none⟩) 1026 1026, .slice (some ⟨T2, 0, none⟩) 0 0, .slice (some ⟨V2, 0, none⟩) 0 0] 29)
      have H32 : Hid ((Below w29.heap.size w29 (w31.alloc (.cells #[.slice (some ⟨F2, 0, none⟩) 1026 1026, .slice (some ⟨T2, 0, none⟩) 0 0, .slice (some ⟨V2, 0, none⟩) 0 0] 29)) ∧ Below w.heap.size w (w31.alloc (.cells #[.slice (some ⟨F2, 0, none⟩) 1026 1026, .slice (some ⟨T2, 0, none⟩) 0 0, .slice (some ⟨V2, 0, none⟩) 0 0] 29))) ∧ CsrIn (w31.alloc (.cells #[.slice (some ⟨F2, 0, none⟩) 1026 1026, .slice (some ⟨T2, 0, none⟩) 0 0, .slice (some ⟨V2, 0, none⟩) 0 0] 29)) 1025 [] (some ⟨F2, 0, none⟩) (some ⟨T2, 0, none⟩) (some ⟨V2, 0, none⟩) 1026 0 0 ∧ (w31.alloc (.cells #[.slice (some ⟨F2, 0, none⟩) 1026 1026, .slice (some ⟨T2, 0, none⟩) 0 0, .slice (some ⟨V2, 0, none⟩) 0 0] 29)).heap[w31.heap.size]? = some (.cells #[.slice (some ⟨F2, 0, none⟩) 1026 1026, .slice (some ⟨T2, 0, none⟩) 0 0, .slice (some ⟨V2, 0, none⟩) 0 0] 29)) := ⟨⟨btr (btr H30.out.1 hb) hal, btr (btr H30.out.2 hb) hal⟩, hC.keep hal, heap_new _ _⟩
      clear hb hC hal
      go_upto_region 28 with fail
      generalize w31.alloc (.cells #[.slice (some ⟨F2, 0, none⟩) 1026 1026, .slice (some ⟨T2, 0, none⟩) 0 0, .slice (some ⟨V2, 0, none⟩) 0 0] 29) = w32 at *
      generalize w31.heap.size = zb at *
      obtain ⟨z0, z1, z2⟩ := box3 H32.out.2.2
      have zl := lt_of_get H32.out.2.2
      go_wp2_with fail
      refine (none_matrix _ _ _ _ _ _ w32 H32.out.2.1).mono ?_
      rintro e w33 ⟨rfl, hb⟩
      have H33 : Hid (Below w.heap.size w w33) := btr H32.out.1.2 hb
      obtain ⟨d0, dls⟩ := HDL.out w33 (btr H32.out.1.1 hb)
      clear hb z0 z1 z2 zl
      go_wp2_with fail
      refine (E_calls 9 w33).mono ?_
      rintro e w34 ⟨rfl, hb⟩
      have H34 : Hid (Below w.heap.size w w34) := btr H33.out hb
      clear hb d0 dls
      go_wp2_with fail
      refine (HSE.out w34 9 (by decide) H34.out).mono ?_
      rintro e w35 ⟨rfl, hb⟩
      have H35 : Hid (Below w.heap.size w w35) := btr H34.out hb
      clear hb
      go_wp2
      go_ret
      exact ⟨rfl, H35.out⟩
end Go.Proofs.YtbaahjppofbdlaaGreatDoor
