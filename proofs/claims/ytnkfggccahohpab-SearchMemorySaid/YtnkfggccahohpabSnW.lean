/- the law SearchMemory: its walk. -/
import Derived.Test.YtnkfggccahohpabSnX
import Derived.ArgAppend
namespace Go.Proofs.Ytnkfggccahohpab
open Go.RowKit Go.Extern

attribute [local go_sem] Oper.semAt_some

theorem infoU4 : ∃ i, Try.prog.info? 42 = some i ∧ i.zero = some (.int .u64 0) ∧ i.size = 1 ∧ i.bytes = 8 := by
  have h := infoU
  cases hi : Try.prog.info? 42 with
  | none => rw [hi] at h; cases h
  | some i => rw [hi] at h; simp at h; exact ⟨i, rfl, h.1, h.2.1, h.2.2⟩

set_option maxRecDepth 100000 in
set_option maxHeartbeats 16000000 in
theorem memory8_calls (fo uo wo : Option Addr) (fc tc wc : Nat) (F T W : List Int) (mF : F.length * 8 ≤ 140737488351232) (mT : T.length * 8 ≤ 140737488351232) (mW : W.length * 8 ≤ 140737488351232) (w : World) (hA : Arr w F T W fo uo wo fc tc wc) (s t : Int) :
    Calls Try.prog 3 #[.agg #[.slice fo F.length fc, .slice uo T.length tc, .slice wo W.length wc], .int .i64 s, .int .i64 t] w fun e w' => e = .returned (.bool true) ∧ Below w.heap.size w w' := by
  obtain ⟨C, hC⟩ := chk_total F T W
  obtain ⟨W0, hW0⟩ : ∃ W0, w.alloc (.cells #[.slice fo F.length fc, .slice uo T.length tc, .slice wo W.length wc] 24) = W0 := ⟨_, rfl⟩
  have HW0 : Hid (w.alloc (.cells #[.slice fo F.length fc, .slice uo T.length tc, .slice wo W.length wc] 24) = W0) := hW0
  have hB0 : Below w.heap.size w W0 := by rw [← hW0]; exact (Below.refl _ w).alloc (Nat.le_refl _) _
  have hbx : W0.heap[w.heap.size]? = some (.cells #[.slice fo F.length fc, .slice uo T.length tc, .slice wo W.length wc] 24) := by rw [← hW0]; exact heap_new _ _
  have hmF : F.length ≤ maxLen := by unfold maxLen; omega
  obtain ⟨D, E, hDE, hp, hq⟩ := from_both F T W C hC hmF s
  obtain ⟨d, PE, pp, pq⟩ := path_any F T W C hC hmF s t
  have HMB : Hid ((C.1 ≠ 0 ∨ 0 < C.2.length ∨ F.length ≤ 30) → ∃ (n : Nat) (zs : List (Int × Int × Int)) (E : Int × List (Int × Int)), (n ≤ 65536 ∧ E.2.length ≤ 1) ∧ (∀ w fo uo wo fc tc wc, Arr w F T W fo uo wo fc tc wc → Calls Try.prog 8 #[.agg #[.slice fo F.length fc, .slice uo T.length tc, .slice wo W.length wc]] w (MP w n zs E)) ∧ (∀ w fo uo wo fc tc wc, Arr w F T W fo uo wo fc tc wc → Calls Try.prog 13 #[.agg #[.slice fo F.length fc, .slice uo T.length tc, .slice wo W.length wc]] w (MD w n zs E))) := fun h => matrix_both F T W C hC hmF h
  have HK : Hid (∀ wx, Below W0.heap.size W0 wx → (wx.cell? ⟨w.heap.size, 0, none⟩ = some (.slice fo F.length fc) ∧ wx.cell? ⟨w.heap.size, 1, none⟩ = some (.slice uo T.length tc) ∧ wx.cell? ⟨w.heap.size, 2, none⟩ = some (.slice wo W.length wc)) ∧ w.heap.size < wx.heap.size ∧ Below w.heap.size w wx) := fun wx hwx => by
    have hg := (hwx.block _ (lt_of_get hbx)).trans hbx
    exact ⟨box3 hg, lt_of_get hg, hB0.trans (hwx.mono hB0.size)⟩
  have HX : Hid (∀ wx, Below W0.heap.size W0 wx → Arr wx F T W fo uo wo fc tc wc) := fun wx hwx => hA.keep (HK.out wx hwx).2.2
  have HFW : Hid (∀ wx, Below W0.heap.size W0 wx → Calls Try.prog 5 #[.agg #[.slice fo F.length fc, .slice uo T.length tc, .slice wo W.length wc]] wx fun e w' => (∃ b : Bool, e = .returned (.bool b) ∧ (b = true → C.1 ≠ 0 ∨ 0 < C.2.length ∨ F.length ≤ 30)) ∧ Below wx.heap.size wx w') := fun wx hwx => few8_calls fo uo wo fc tc wc F T W C hC hmF wx (HX.out wx hwx)
  have HOF : Hid (∀ wx, Below W0.heap.size W0 wx → Calls Try.prog 6 #[.agg #[.slice fo F.length fc, .slice uo T.length tc, .slice wo W.length wc]] wx fun e w' => ∃ fo2 fc2 uo2 tc2 wo2 wc2, e = .returned (.agg #[.slice fo2 F.length fc2, .slice uo2 T.length tc2, .slice wo2 W.length wc2]) ∧ Arr w' F T W fo2 uo2 wo2 fc2 tc2 wc2 ∧ Below wx.heap.size wx w') := fun wx hwx => by
    have hA2 := HX.out wx hwx
    refine (of8_calls fo uo wo fc tc wc F T W wx hA2.f hA2.t hA2.w mF mT mW).mono ?_
    rintro e w' ⟨fo2, fc2, uo2, tc2, wo2, wc2, he, ho, hb⟩
    exact ⟨fo2, fc2, uo2, tc2, wo2, wc2, he, Own3.arr ho, hb⟩
  have HBN : Hid (∀ wx fo uo wo fc tc wc, Arr wx F T W fo uo wo fc tc wc → Calls Try.prog 10 #[.agg #[.slice fo F.length fc, .slice uo T.length tc, .slice wo W.length wc], .int .i64 s, .int .i64 3, .int .i64 3, .int .u64 30] wx fun e w' => (∃ a b, e = .returned (.tuple #[a, b])) ∧ Below wx.heap.size wx w') := fun wx fo uo wo fc tc wc h => bounded_any F T W C hC hmF s 3 3 30 wx fo uo wo fc tc wc h
  have HSM : Hid (∀ wx fo2 uo2 wo2 fc2 tc2 wc2, Arr wx F T W fo2 uo2 wo2 fc2 tc2 wc2 → Arr wx F T W fo uo wo fc tc wc → Calls Try.prog 11 #[.agg #[.slice fo2 F.length fc2, .slice uo2 T.length tc2, .slice wo2 W.length wc2], .agg #[.slice fo F.length fc, .slice uo T.length tc, .slice wo W.length wc]] wx fun e w' => e = .returned (.bool true) ∧ Below wx.heap.size wx w') := fun wx fo2 uo2 wo2 fc2 tc2 wc2 h h' => rSame_yes fo2 uo2 wo2 fo uo wo F.length fc2 T.length tc2 W.length wc2 fc tc wc F T W wx h.f h.t h.w h'.f h'.t h'.w hmF (by unfold maxLen; omega) (by unfold maxLen; omega)
  have HP : Hid (type_of% hp) := hp
  have HQ : Hid (type_of% hq) := hq
  have HPP : Hid (type_of% pp) := pp
  have HPQ : Hid (type_of% pq) := pq
  have hDl := hDE.1
  clear hW0 hB0 hbx hA hC hmF mF mT mW hp hq pp pq hDE
  go_enter Try.func3, Try.ntmps3
  go_wp2_with fail
  rw [HW0.out]
  refine (awake8_calls W0).mono ?_
  rintro e w1 ⟨rfl, hb⟩
  have HB1 : Hid (Below W0.heap.size W0 w1) := hb
  clear hb
  obtain ⟨⟨c0, c1, c2⟩, cs, _⟩ := HK.out w1 HB1.out
  go_wp2_with fail
  refine (HFW.out w1 HB1.out).mono ?_
  rintro e w2 ⟨⟨fb, rfl, hfb⟩, hb⟩
  have HFB : Hid (fb = true → C.1 ≠ 0 ∨ 0 < C.2.length ∨ F.length ≤ 30) := hfb
  have HB2 : Hid (Below W0.heap.size W0 w2) := btr HB1.out hb
  have HBZ : Hid (Below w.heap.size w w2) := (HK.out w2 HB2.out).2.2
  clear hb HB1 c0 c1 c2 cs hfb
  cases fb
  · go_wp2
    go_ret
    exact ⟨rfl, HBZ.out⟩
  · clear HBZ
    obtain ⟨n, zs, G, hnG, mp, md⟩ := HMB.out (HFB.out (by rfl))
    have HMP : Hid (type_of% mp) := mp
    have HMD : Hid (type_of% md) := md
    have hn6 := hnG.1
    clear mp md hnG
    obtain ⟨⟨c0, c1, c2⟩, cs, _⟩ := HK.out w2 HB2.out
    go_wp2_with fail
    refine (HOF.out w2 HB2.out).mono ?_
    rintro e w3 ⟨fo2, fc2, uo2, tc2, wo2, wc2, rfl, hA2, hb⟩
    have hal := below1 w3 (.cells #[.slice fo2 F.length fc2, .slice uo2 T.length tc2, .slice wo2 W.length wc2] 27)
    have H3 : Hid (Below W0.heap.size W0 (w3.alloc (.cells #[.slice fo2 F.length fc2, .slice uo2 T.length tc2, .slice wo2 W.length wc2] 27)) ∧ Arr (w3.alloc (.cells #[.slice fo2 F.length fc2, .slice uo2 T.length tc2, .slice wo2 W.length wc2] 27)) F T W fo2 uo2 wo2 fc2 tc2 wc2 ∧ (w3.alloc (.cells #[.slice fo2 F.length fc2, .slice uo2 T.length tc2, .slice wo2 W.length wc2] 27)).heap[w3.heap.size]? = some (.cells #[.slice fo2 F.length fc2, .slice uo2 T.length tc2, .slice wo2 W.length wc2] 27)) := ⟨btr (btr HB2.out hb) hal, hA2.keep hal, heap_new _ _⟩
    clear hb hA2 hal c0 c1 c2 cs
    go_upto_region 6 with fail
    generalize w3.alloc (.cells #[.slice fo2 F.length fc2, .slice uo2 T.length tc2, .slice wo2 W.length wc2] 27) = w4 at *
    generalize w3.heap.size = xb at *
    have HXK : Hid (∀ wx, Below w4.heap.size w4 wx → (wx.cell? ⟨xb, 0, none⟩ = some (.slice fo2 F.length fc2) ∧ wx.cell? ⟨xb, 1, none⟩ = some (.slice uo2 T.length tc2) ∧ wx.cell? ⟨xb, 2, none⟩ = some (.slice wo2 W.length wc2)) ∧ xb < wx.heap.size ∧ Arr wx F T W fo2 uo2 wo2 fc2 tc2 wc2) := fun wx hwx => by
      have hg := (hwx.block _ (lt_of_get H3.out.2.2)).trans H3.out.2.2
      exact ⟨box3 hg, lt_of_get hg, H3.out.2.1.keep hwx⟩
    obtain ⟨⟨x0, x1, x2⟩, xl, _⟩ := HXK.out w4 (Below.refl _ _)
    go_wp2_with fail
    refine (HP.out w4 fo2 uo2 wo2 fc2 tc2 wc2 H3.out.2.1).mono ?_
    rintro e w5 ⟨ao, ac, va, rfl, hu, _, hb, hnew⟩
    have H5 : Hid (Below w4.heap.size w4 w5 ∧ URow w5 ao D ∧ ∀ b, ao = some ⟨b, 0, none⟩ → w4.heap.size ≤ b) := ⟨hb, hu, hnew⟩
    clear hb hu hnew x0 x1 x2 xl
    obtain ⟨⟨x0, x1, x2⟩, xl, xA⟩ := HXK.out w5 H5.out.1
    go_wp2_with fail
    refine (HP.out w5 fo2 uo2 wo2 fc2 tc2 wc2 xA).mono ?_
    rintro e w6 ⟨bo, bc, vb, rfl, hu, _, hb, hnew⟩
    have H6 : Hid (Below w5.heap.size w5 w6 ∧ URow w6 bo D ∧ (∀ b, bo = some ⟨b, 0, none⟩ → w5.heap.size ≤ b) ∧ Below w4.heap.size w4 w6) := ⟨hb, hu, hnew, btr H5.out.1 hb⟩
    clear hb hu hnew x0 x1 x2 xl xA
    obtain ⟨⟨x0, x1, x2⟩, xl, xA⟩ := HXK.out w6 H6.out.2.2.2
    go_wp2_with fail
    refine (HMP.out w6 fo2 uo2 wo2 fc2 tc2 wc2 xA).mono ?_
    rintro e w7 ⟨lo, lc, vs, vl, rfl, hR, _, hb, hnew, hMN⟩
    have H7 : Hid (Below w6.heap.size w6 w7 ∧ (vs.length = n ∧ HasRows w7 lo vs ∧ Mat w7 n zs vs) ∧ ((∀ b, lo = some ⟨b, 0, none⟩ → w6.heap.size ≤ b) ∧ MatN w7 w6.heap.size n zs vs) ∧ Below w4.heap.size w4 w7) := ⟨hb, hR, ⟨hnew, hMN⟩, btr H6.out.2.2.2 hb⟩
    clear hb hR hnew hMN x0 x1 x2 xl xA
    obtain ⟨⟨x0, x1, x2⟩, xl, xA⟩ := HXK.out w7 H7.out.2.2.2
    go_wp2_with fail
    refine (HMP.out w7 fo2 uo2 wo2 fc2 tc2 wc2 xA).mono ?_
    rintro e w8 ⟨mo, mc, us, vm, rfl, hR, _, hb, hnew, hMN⟩
    have H8 : Hid (Below w7.heap.size w7 w8 ∧ (us.length = n ∧ HasRows w8 mo us ∧ Mat w8 n zs us) ∧ ((∀ b, mo = some ⟨b, 0, none⟩ → w7.heap.size ≤ b) ∧ MatN w8 w7.heap.size n zs us) ∧ Below w4.heap.size w4 w8) := ⟨hb, hR, ⟨hnew, hMN⟩, btr H7.out.2.2.2 hb⟩
    clear hb hR hnew hMN x0 x1 x2 xl xA
    obtain ⟨⟨x0, x1, x2⟩, xl, xA⟩ := HXK.out w8 H8.out.2.2.2
    go_wp2_with fail
    refine (HPP.out w8 fo2 uo2 wo2 fc2 tc2 wc2 xA).mono ?_
    rintro e w9 ⟨po, pm, pc, vp, rfl, hW, _, hb⟩
    have H9 : Hid (Below w8.heap.size w8 w9 ∧ PW w8.heap.size w9 po pm ∧ Below w4.heap.size w4 w9) := ⟨hb, hW, btr H8.out.2.2.2 hb⟩
    clear hb hW x0 x1 x2 xl xA
    obtain ⟨⟨x0, x1, x2⟩, xl, xA⟩ := HXK.out w9 H9.out.2.2
    go_wp2_with fail
    refine (HPP.out w9 fo2 uo2 wo2 fc2 tc2 wc2 xA).mono ?_
    rintro e w10 ⟨qo, qm, qc, vq, rfl, hW, hv, hb⟩
    have H10 : Hid (Below w9.heap.size w9 w10 ∧ PW w9.heap.size w10 qo qm ∧ Below w4.heap.size w4 w10) := ⟨hb, hW, btr H9.out.2.2 hb⟩
    have HV : Hid (type_of% hv) := hv
    clear hb hW hv x0 x1 x2 xl xA
    obtain ⟨⟨x0, x1, x2⟩, xl, xA⟩ := HXK.out w10 H10.out.2.2
    go_wp2_with fail
    refine (HBN.out w10 fo2 uo2 wo2 fc2 tc2 wc2 xA).mono ?_
    rintro e w11 ⟨⟨r1, r2, rfl⟩, hb⟩
    have H11 : Hid (Below w10.heap.size w10 w11 ∧ Below w4.heap.size w4 w11) := ⟨hb, btr H10.out.2.2 hb⟩
    clear hb x0 x1 x2 xl xA
    obtain ⟨⟨x0, x1, x2⟩, xl, xA⟩ := HXK.out w11 H11.out.2
    obtain ⟨⟨c0, c1, c2⟩, cs, _⟩ := HK.out w11 (btr H3.out.1 H11.out.2)
    go_wp2_with fail
    refine (HSM.out w11 fo2 uo2 wo2 fc2 tc2 wc2 xA (HX.out w11 (btr H3.out.1 H11.out.2))).mono ?_
    rintro e w12 ⟨rfl, hb⟩
    have H12 : Hid (Below w11.heap.size w11 w12 ∧ Below w4.heap.size w4 w12) := ⟨hb, btr H11.out.2 hb⟩
    clear hb x0 x1 x2 xl xA c0 c1 c2 cs
    go_wp2_with fail
    have z1 := H5.out.1.size
    have z2 := H6.out.1.size
    have z3 := H7.out.1.size
    have z4 := H8.out.1.size
    have z5 := H9.out.1.size
    have z6 := H10.out.1.size
    have z7 := H11.out.1.size
    have z8 := H12.out.1.size
    have HZS : Hid (w4.heap.size ≤ w5.heap.size ∧ w5.heap.size ≤ w6.heap.size ∧ w6.heap.size ≤ w7.heap.size ∧ w7.heap.size ≤ w8.heap.size ∧ w8.heap.size ≤ w9.heap.size ∧ w9.heap.size ≤ w10.heap.size ∧ w10.heap.size ≤ w12.heap.size) := ⟨z1, z2, z3, z4, z5, z6, by omega⟩
    have B5 : Below w5.heap.size w5 w12 := btr (btr (btr (btr (btr (btr H6.out.1 H7.out.1) H8.out.1) H9.out.1) H10.out.1) H11.out.1) H12.out.1
    have B6 : Below w6.heap.size w6 w12 := btr (btr (btr (btr (btr H7.out.1 H8.out.1) H9.out.1) H10.out.1) H11.out.1) H12.out.1
    have B7 : Below w7.heap.size w7 w12 := btr (btr (btr (btr H8.out.1 H9.out.1) H10.out.1) H11.out.1) H12.out.1
    have B8 : Below w8.heap.size w8 w12 := btr (btr (btr H9.out.1 H10.out.1) H11.out.1) H12.out.1
    have B9 : Below w9.heap.size w9 w12 := btr (btr H10.out.1 H11.out.1) H12.out.1
    have B10 : Below w10.heap.size w10 w12 := btr H11.out.1 H12.out.1
    have HAW : Hid (AW (Str w4.heap.size w5.heap.size) w12 ao D.length) := AW.of (URow.keep H5.out.2.1 B5) (fun b e => ⟨H5.out.2.2 b e, by
      rcases H5.out.2.1 with ⟨e2, _⟩ | ⟨b2, e2, hU⟩
      · rw [e] at e2; cases e2
      · rw [e] at e2; cases e2; exact lt_of_get hU⟩)
    have HIW : Hid (IW (Str w8.heap.size w9.heap.size) w12 po pm) := by
      rcases H9.out.2.1 with h | ⟨g, cur, e, hg, hc, hm⟩
      · exact Or.inl h
      · exact Or.inr ⟨g, cur, e, ⟨hg, lt_of_get hc⟩, (B9.block _ (lt_of_get hc)).trans hc, hm⟩
    have HLR : Hid (LR (Str w6.heap.size w7.heap.size) w12 lo n 0 0 vs) := by
      have h0 : LR (Str w6.heap.size w7.heap.size) w7 lo n 0 0 vs ∨ n = 0 := by
        by_cases hn0 : n = 0
        · exact Or.inr hn0
        · refine Or.inl ⟨H7.out.2.1.1, H7.out.2.1.2.1, fun b e => Or.inr ⟨H7.out.2.2.1.1 b e, ?_⟩, fun i hi => ?_⟩
          · obtain ⟨v, hv⟩ : ∃ v, vs[0]? = some v := ⟨vs[0]'(by rw [H7.out.2.1.1]; omega), List.getElem?_eq_getElem _⟩
            obtain ⟨b2, e2, ⟨cur, hc⟩, _⟩ := H7.out.2.1.2.1 0 v hv
            rw [e] at e2
            cases e2
            exact lt_of_get hc
          · obtain ⟨v, hv⟩ : ∃ v, vs[i]? = some v := ⟨vs[i]'(by rw [H7.out.2.1.1]; exact hi), List.getElem?_eq_getElem _⟩
            obtain ⟨db, D1, rfl, hD1, hU, hdb⟩ := H7.out.2.2.1.2 i v hv
            exact ⟨db, D1, hv, ⟨hdb, lt_of_get hU⟩, hU, hD1.1, fun h => by omega, fun _ u hu => by omega⟩
      rcases h0 with h0 | h0
      · exact h0.keep fun g hg hl => B7.block g hl
      · subst h0
        have hv0 : vs = [] := List.eq_nil_of_length_eq_zero H7.out.2.1.1
        subst hv0
        exact ⟨rfl, fun i v hv => by simp at hv, fun b e => Or.inl rfl, fun i hi => by omega⟩
    have HBR : Hid (∀ wx, But3 w4.heap.size w5.heap.size w6.heap.size w7.heap.size w8.heap.size w9.heap.size w12 wx → URow wx bo D) := fun wx hx => by
      rcases H6.out.2.1 with ⟨e, h0⟩ | ⟨b, rfl, hU⟩
      · exact Or.inl ⟨e, h0⟩
      · have h1 := H6.out.2.2.1 b rfl
        have h2 := lt_of_get hU
        have hz := HZS.out
        exact Or.inr ⟨b, rfl, (hx.block b (by omega) (fun h => by unfold Open3 at h; omega)).trans ((B6.block b h2).trans hU)⟩
    have HMR : Hid (∀ wx, But3 w4.heap.size w5.heap.size w6.heap.size w7.heap.size w8.heap.size w9.heap.size w12 wx → us.length = n ∧ HasRows wx mo us ∧ Mat wx n zs us) := fun wx hx => by
      have hz := HZS.out
      have hfar : ∀ k, w7.heap.size ≤ k → k < w8.heap.size → wx.heap[k]? = w8.heap[k]? := fun k h1 h2 => (hx.block k (by omega) (fun h => by unfold Open3 at h; omega)).trans (B8.block k h2)
      refine ⟨H8.out.2.1.1, fun i v hv => ?_, fun i v hv => ?_⟩
      · obtain ⟨b, e, ⟨cur, hc⟩, hx1⟩ := H8.out.2.1.2.1 i v hv
        have hg := hfar b (H8.out.2.2.1.1 b e) (lt_of_get hc)
        exact ⟨b, e, ⟨cur, hg.trans hc⟩, (World.cell?_of_block hg).trans hx1⟩
      · obtain ⟨db, D1, e, hD1, hU, hdb⟩ := H8.out.2.2.1.2 i v hv
        exact ⟨db, D1, e, hD1, (hfar db hdb (lt_of_get hU)).trans hU⟩
    have HCX : Hid (∀ wx, But3 w4.heap.size w5.heap.size w6.heap.size w7.heap.size w8.heap.size w9.heap.size w12 wx → Below W0.heap.size W0 wx) := fun wx hx => by
      have hz := HZS.out
      have h0 := btr H3.out.1 H12.out.2
      have h1 := H3.out.1.size
      exact h0.trans (hx.low (B := W0.heap.size) (by omega) ⟨by omega, by omega, by omega⟩)
    have HQI : Hid (∀ (xs : List Int) wx, But3 w4.heap.size w5.heap.size w6.heap.size w7.heap.size w8.heap.size w9.heap.size w12 wx → HasInts w10 (.slice qo qm qc) xs → HasInts wx (.slice qo qm qc) xs) := fun xs wx hx hI => by
      have hz := HZS.out
      obtain ⟨ao1, cp, e, hc⟩ := hI
      refine ⟨ao1, cp, e, fun j a hj => ?_⟩
      injection e with e1 e2 e3
      subst e1
      obtain ⟨b, off, eb, hl, hx1⟩ := hc j a hj
      have hm : qm ≠ 0 := by
        rw [e2]
        have := (List.getElem?_eq_some_iff.1 hj).1
        omega
      rcases H10.out.2.1 with h | ⟨g, cur, e4, hg, hcg, _⟩
      · exact absurd h hm
      · rw [eb] at e4
        injection e4 with e4
        injection e4 with e5 e6
        subst e5
        have hg1 := (hx.block b (by omega) (fun h => by unfold Open3 at h; omega)).trans (B10.block b hl)
        exact ⟨b, off, eb, by have := hx.size; omega, (World.cell?_of_block hg1).trans hx1⟩
    clear z1 z2 z3 z4 z5 z6 z7 z8 B5 B6 B7 B8 B9 B10
    go_loopw [91] (fun iv wr => ∃ i : Nat, i ≤ D.length ∧ iv = .int .i64 i ∧ But3 w4.heap.size w5.heap.size w6.heap.size w7.heap.size w8.heap.size w9.heap.size w12 wr ∧ AW (Str w4.heap.size w5.heap.size) wr ao D.length ∧ LR (Str w6.heap.size w7.heap.size) wr lo n 0 0 vs ∧ IW (Str w8.heap.size w9.heap.size) wr po pm) (fun iv _ => D.length - (intOf iv).toNat)
    case atStart => exact ⟨0, Nat.zero_le _, rfl, But3.refl _, HAW.out, HLR.out, HIW.out⟩
    case round =>
      obtain ⟨i, hi, rfl, hbt, hAW, hLR, hIW⟩ := hrel
      by_cases hlt : i < D.length
      · obtain ⟨b, y, rfl, ho, ⟨q0, ql, qf⟩, hnx⟩ := hAW.put hlt 77
        have HN : Hid (But3 w4.heap.size w5.heap.size w6.heap.size w7.heap.size w8.heap.size w9.heap.size w12 (wr.setCell ⟨b, i, none⟩ (.int .u64 77)) ∧ AW (Str w4.heap.size w5.heap.size) (wr.setCell ⟨b, i, none⟩ (.int .u64 77)) (some ⟨b, 0, none⟩) D.length ∧ LR (Str w6.heap.size w7.heap.size) (wr.setCell ⟨b, i, none⟩ (.int .u64 77)) lo n 0 0 vs ∧ IW (Str w8.heap.size w9.heap.size) (wr.setCell ⟨b, i, none⟩ (.int .u64 77)) po pm) := by
          have hz := HZS.out
          have ho' := ho
          unfold Str at ho'
          exact ⟨hbt.put (Or.inl ho) _ _, hnx, hLR.keep fun g hg _ => heap_setCell_other _ _ _ _ (by unfold Str at hg; show g ≠ b; omega), hIW.keep fun g hg _ => heap_setCell_other _ _ _ _ (by unfold Str at hg; show g ≠ b; omega)⟩
        have s1 : (i : Int) < (D.length : Int) := by omega
        have s2 : (0 : Int) ≤ (i : Int) := by omega
        clear hbt hAW hLR hIW hnx
        go_wp2
        go_roundw
        case rel => exact ⟨i + 1, by omega, by go_num, HN.out⟩
        case measure => simp [intOf]; omega
      · obtain rfl : D.length = i := by omega
        have HL1 : Hid (But3 w4.heap.size w5.heap.size w6.heap.size w7.heap.size w8.heap.size w9.heap.size w12 wr ∧ LR (Str w6.heap.size w7.heap.size) wr lo n 0 0 vs ∧ IW (Str w8.heap.size w9.heap.size) wr po pm) := ⟨hbt, hLR, hIW⟩
        clear hbt hAW hLR hIW
        go_wp2_with fail
        generalize wr = wA at *
        go_loopw [100] (fun iv wr => ∃ i : Nat, i ≤ pm ∧ iv = .int .i64 i ∧ But3 w4.heap.size w5.heap.size w6.heap.size w7.heap.size w8.heap.size w9.heap.size w12 wr ∧ LR (Str w6.heap.size w7.heap.size) wr lo n 0 0 vs ∧ IW (Str w8.heap.size w9.heap.size) wr po pm) (fun iv _ => pm - (intOf iv).toNat)
        case atStart => exact ⟨0, Nat.zero_le _, rfl, HL1.out⟩
        case round =>
          obtain ⟨i, hi, rfl, hbt, hLR, hIW⟩ := hrel
          have hpm := hIW.small
          unfold maxLen at hpm
          by_cases hlt : i < pm
          · obtain ⟨b, y, rfl, ho, ⟨q0, ql, qf⟩, hnx⟩ := hIW.put hlt (.int .i64 (-1))
            have HN : Hid (But3 w4.heap.size w5.heap.size w6.heap.size w7.heap.size w8.heap.size w9.heap.size w12 (wr.setCell ⟨b, i, none⟩ (.int .i64 (-1))) ∧ LR (Str w6.heap.size w7.heap.size) (wr.setCell ⟨b, i, none⟩ (.int .i64 (-1))) lo n 0 0 vs ∧ IW (Str w8.heap.size w9.heap.size) (wr.setCell ⟨b, i, none⟩ (.int .i64 (-1))) (some ⟨b, 0, none⟩) pm) := by
              have hz := HZS.out
              have ho' := ho
              unfold Str at ho'
              exact ⟨hbt.put (Or.inr (Or.inr ho)) _ _, hLR.keep fun g hg _ => heap_setCell_other _ _ _ _ (by unfold Str at hg; show g ≠ b; omega), hnx⟩
            have s1 : (i : Int) < (pm : Int) := by omega
            have s2 : (0 : Int) ≤ (i : Int) := by omega
            clear hbt hLR hIW hnx
            go_wp2
            go_roundw
            case rel => exact ⟨i + 1, by omega, by go_num, HN.out⟩
            case measure => simp [intOf]; omega
          · obtain rfl : pm = i := by omega
            have HL2 : Hid (But3 w4.heap.size w5.heap.size w6.heap.size w7.heap.size w8.heap.size w9.heap.size w12 wr ∧ LR (Str w6.heap.size w7.heap.size) wr lo n 0 0 vs) := ⟨hbt, hLR⟩
            clear hbt hLR hIW
            go_wp2_with fail
            generalize wr = wB at *
            go_loopw [109] (fun iv wr => ∃ k : Nat, k ≤ n ∧ iv = .int .i64 k ∧ But3 w4.heap.size w5.heap.size w6.heap.size w7.heap.size w8.heap.size w9.heap.size w12 wr ∧ LR (Str w6.heap.size w7.heap.size) wr lo n k 0 vs) (fun iv _ => n - (intOf iv).toNat)
            case atStart => exact ⟨0, Nat.zero_le _, rfl, HL2.out⟩
            case round =>
              obtain ⟨k, hk, rfl, hbt, hLR⟩ := hrel
              by_cases hkn : k < n
              · obtain ⟨rb, db, D1, rfl, ⟨r0, rl⟩, _, _, _, _, _, hvk⟩ := hLR.cell hkn
                have HL3 : Hid (But3 w4.heap.size w5.heap.size w6.heap.size w7.heap.size w8.heap.size w9.heap.size w12 wr ∧ LR (Str w6.heap.size w7.heap.size) wr (some ⟨rb, 0, none⟩) n k 0 vs) := ⟨hbt, hLR⟩
                have HVK : Hid (vs[k]? = some (.slice (some ⟨db, 0, none⟩) n n)) := hvk
                have HRC : Hid (∀ wx j, LR (Str w6.heap.size w7.heap.size) wx (some ⟨rb, 0, none⟩) n k j vs → (wx.cell? ⟨rb, k, none⟩ = some (.slice (some ⟨db, 0, none⟩) n n) ∧ rb < wx.heap.size) ∧ Str w6.heap.size w7.heap.size db ∧ ∃ D2, U64s wx db D2 ∧ D2.length = n) := fun wx j h => by
                  obtain ⟨rb2, db2, D2, e, hc, ho, hU, hl, _, _, e2⟩ := h.cell hkn
                  cases e
                  rw [hvk] at e2
                  cases e2
                  exact ⟨hc, ho, D2, hU, hl⟩
                have s1 : (k : Int) < (n : Int) := by omega
                have s2 : (0 : Int) ≤ (k : Int) := by omega
                clear hbt hLR hvk
                go_wp2_with fail
                clear r0 rl
                generalize wr = wC at *
                go_loopw [117] (fun jv wr => ∃ j : Nat, j ≤ n ∧ jv = .int .i64 j ∧ But3 w4.heap.size w5.heap.size w6.heap.size w7.heap.size w8.heap.size w9.heap.size w12 wr ∧ LR (Str w6.heap.size w7.heap.size) wr (some ⟨rb, 0, none⟩) n k j vs) (fun jv _ => n - (intOf jv).toNat)
                case atStart => exact ⟨0, Nat.zero_le _, rfl, HL3.out⟩
                case round =>
                  obtain ⟨j, hj, rfl, hbt, hLR⟩ := hrel
                  obtain ⟨⟨r0, rl⟩, ho, D2, hU, hD2⟩ := HRC.out wr j hLR
                  by_cases hjn : j < n
                  · obtain ⟨y, hy⟩ : ∃ y, D2[j]? = some y := ⟨D2[j]'(by omega), List.getElem?_eq_getElem _⟩
                    obtain ⟨q0, ql, qf⟩ := hU.at hy
                    have HN : Hid (But3 w4.heap.size w5.heap.size w6.heap.size w7.heap.size w8.heap.size w9.heap.size w12 (wr.setCell ⟨db, j, none⟩ (.int .u64 78)) ∧ LR (Str w6.heap.size w7.heap.size) (wr.setCell ⟨db, j, none⟩ (.int .u64 78)) (some ⟨rb, 0, none⟩) n k (j + 1) vs) := ⟨hbt.put (Or.inr (Or.inl ho)) _ _, hLR.put hkn hjn HVK.out hU⟩
                    have s3 : (j : Int) < (n : Int) := by omega
                    have s4 : (0 : Int) ≤ (j : Int) := by omega
                    clear hbt hLR hU hy
                    go_wp2
                    go_roundw
                    case rel => exact ⟨j + 1, by omega, by go_num, HN.out⟩
                    case measure => simp [intOf]; omega
                  · obtain rfl : n = j := by omega
                    have HL4 : Hid (But3 w4.heap.size w5.heap.size w6.heap.size w7.heap.size w8.heap.size w9.heap.size w12 wr ∧ LR (Str w6.heap.size w7.heap.size) wr (some ⟨rb, 0, none⟩) n (k + 1) 0 vs) := ⟨hbt, hLR.next⟩
                    have HOL : Hid (∀ (b : Addr), some (⟨db, 0, none⟩ : Addr) = some b → ∀ j u, (D2.map (Value.int .u64))[j]? = some u → ((wr.alloc (.cells #[.int .u64 1, .int .u64 2] 42)).cell? (b.add j)) = some u) := fun b e j u hj => by
                      cases e
                      have hU2 : U64s (wr.alloc (.cells #[.int .u64 1, .int .u64 2] 42)) db D2 := ((below1 wr _).block _ (lt_of_get hU)).trans hU
                      rw [Addr.add_lit, Nat.zero_add]
                      rw [List.getElem?_map, Option.map_eq_some_iff] at hj
                      obtain ⟨y, hy, rfl⟩ := hj
                      exact (hU2.at hy).1
                    have hDl2 : (D2.map (Value.int .u64)).length = n * 1 := by simp [hD2]
                    obtain ⟨i0, hi0, hz0, hz1, hz2⟩ := infoU4
                    have HNO : Hid (some (⟨db, 0, none⟩ : Addr) = none → n = 0 ∧ n = 0) := fun e => by cases e
                    have HLK : Hid (LR (Str w6.heap.size w7.heap.size) wr (some ⟨rb, 0, none⟩) n k n vs) := hLR
                    clear hbt hLR hU
                    go_wp2_with (at_builtin; refine wpList_append_grows _ rfl _ _ 29 rfl 42 i0 (.int .u64 0) 1 8 Try.underlying29 hi0 hz0 hz1 hz2 rfl (by decide) (some ⟨db, 0, none⟩) n n (D2.map (Value.int .u64)) rfl HNO.out hDl2 HOL.out ⟨wr.heap.size, 0, none⟩ 2 2 [.int .u64 1, .int .u64 2] rfl rfl ?hnews ?hone (by omega) (by unfold maxLen; omega) (by omega) ?_; (case hnews => intro j x hx; rcases j with _ | _ | j <;> simp at hx <;> subst hx <;> simp [Addr.add]); (case hone => intro x hx; simp at hx; rcases hx with rfl | rfl <;> rfl); intro v' w13 hown13 hgrow13; have HG : Hid (wr.grownBy w13 none) := grown_trans (grown_alloc wr _) hgrow13; obtain ⟨vg, vc, hv', _, _⟩ := hown13.form (by omega); subst hv'; clear hown13 hgrow13; obtain ⟨⟨r0, rl⟩, _⟩ := HRC.out w13 n (HLK.out.keep fun g _ hl => HG.out.block g hl (by simp)))
                    have hbl : Below wr.heap.size wr w13 := ⟨HG.out.os, HG.out.tape, HG.out.output, HG.out.size, fun k hk => HG.out.block k hk (by simp)⟩
                    exact ⟨⟨k + 1, by omega, by go_num, HL4.out.1.below hbl, HL4.out.2.keep fun g _ hl => hbl.block g hl⟩, by simp [intOf]; omega⟩
              · obtain rfl : n = k := by omega
                have HL5 : Hid (But3 w4.heap.size w5.heap.size w6.heap.size w7.heap.size w8.heap.size w9.heap.size w12 wr ∧ LR (Str w6.heap.size w7.heap.size) wr lo n n 0 vs) := ⟨hbt, hLR⟩
                clear hbt hLR
                go_wp2_with fail
                generalize wr = wD at *
                go_loopw [145] (fun iv wr => ∃ k : Nat, k ≤ n ∧ iv = .int .i64 k ∧ wr = wD) (fun iv _ => n - (intOf iv).toNat)
                case atStart => exact ⟨0, Nat.zero_le _, rfl, rfl⟩
                case round =>
                  obtain ⟨k, hk5, rfl, hwD⟩ := hrel
                  obtain rfl : wD = wr := hwD.symm
                  by_cases hkn : k < n
                  · obtain ⟨rb, db, D1, rfl, ⟨r0, rl⟩, _, hU, hl, h78, _, _⟩ := HL5.out.2.cell hkn
                    have H78 : Hid (∀ u, u < n → D1[u]? = some 78) := h78 hkn
                    have HU : Hid (U64s wD db D1) := hU
                    have s1 : (k : Int) < (n : Int) := by omega
                    have s2 : (0 : Int) ≤ (k : Int) := by omega
                    clear hU h78
                    go_wp2_with fail
                    go_loopw [153] (fun jv wr => ∃ j : Nat, j ≤ n ∧ jv = .int .i64 j ∧ wr = wD) (fun jv _ => n - (intOf jv).toNat)
                    case atStart => exact ⟨0, Nat.zero_le _, rfl, rfl⟩
                    case round =>
                      obtain ⟨j, hj6, rfl, hwE⟩ := hrel
                      obtain rfl : wD = wr := hwE.symm
                      by_cases hjn : j < n
                      · obtain ⟨q0, ql, _⟩ := HU.out.at (H78.out j hjn)
                        have s3 : (j : Int) < (n : Int) := by omega
                        have s4 : (0 : Int) ≤ (j : Int) := by omega
                        go_wp2
                        go_roundw
                        case rel => exact ⟨j + 1, by omega, by go_num, by first | trivial | rfl⟩
                        case measure => simp [intOf]; omega
                      · obtain rfl : n = j := by omega
                        go_wp2
                        go_roundw
                        case rel => exact ⟨k + 1, by omega, by go_num, by first | trivial | rfl⟩
                        case measure => simp [intOf]; omega
                  · obtain rfl : n = k := by omega
                    have HT : Hid (But3 w4.heap.size w5.heap.size w6.heap.size w7.heap.size w8.heap.size w9.heap.size w12 wD) := HL5.out.1
                    clear HL5
                    obtain ⟨⟨c0, c1, c2⟩, cs, _⟩ := HK.out wD (HCX.out wD HT.out)
                    go_wp2_with fail
                    refine (HQ.out wD fo uo wo fc tc wc (HX.out wD (HCX.out wD HT.out))).mono ?_
                    rintro e w14 ⟨bo2, bc2, po2, pc2, rfl, hu, _, hb⟩
                    have H14 : Hid (But3 w4.heap.size w5.heap.size w6.heap.size w7.heap.size w8.heap.size w9.heap.size w12 (w14.alloc (.cells #[.int .i64 E.1, .slice po2 E.2.length pc2] 46)) ∧ URow (w14.alloc (.cells #[.int .i64 E.1, .slice po2 E.2.length pc2] 46)) bo2 D) := ⟨(HT.out.below hb).below (below1 _ _), URow.keep hu (below1 _ _)⟩
                    clear hb hu c0 c1 c2 cs
                    go_upto_region 48 with fail
                    generalize w14.alloc (.cells #[.int .i64 E.1, .slice po2 E.2.length pc2] 46) = W14 at *
                    obtain ⟨⟨c0, c1, c2⟩, cs, _⟩ := HK.out W14 (HCX.out W14 H14.out.1)
                    go_wp2_with fail
                    refine (HMD.out W14 fo uo wo fc tc wc (HX.out W14 (HCX.out W14 H14.out.1))).mono ?_
                    rintro e w15 ⟨bo3, bc3, ys, po3, pc3, rfl, hm2, _, hb⟩
                    have H15 : Hid (But3 w4.heap.size w5.heap.size w6.heap.size w7.heap.size w8.heap.size w9.heap.size w12 (w15.alloc (.cells #[.int .i64 G.1, .slice po3 G.2.length pc3] 46)) ∧ URow (w15.alloc (.cells #[.int .i64 G.1, .slice po3 G.2.length pc3] 46)) bo2 D ∧ (ys.length = n ∧ HasRows (w15.alloc (.cells #[.int .i64 G.1, .slice po3 G.2.length pc3] 46)) bo3 ys ∧ Mat (w15.alloc (.cells #[.int .i64 G.1, .slice po3 G.2.length pc3] 46)) n zs ys)) := ⟨(H14.out.1.below hb).below (below1 _ _), URow.keep (URow.keep H14.out.2 hb) (below1 _ _), hm2.1, hm2.2.1.keep (below1 _ _), hm2.2.2.keep (below1 _ _)⟩
                    clear hb hm2 c0 c1 c2 cs
                    go_upto_region 49 with fail
                    generalize w15.alloc (.cells #[.int .i64 G.1, .slice po3 G.2.length pc3] 46) = W15 at *
                    obtain ⟨⟨c0, c1, c2⟩, cs, _⟩ := HK.out W15 (HCX.out W15 H15.out.1)
                    go_wp2_with fail
                    refine (HPQ.out W15 fo uo wo fc tc wc (HX.out W15 (HCX.out W15 H15.out.1))).mono ?_
                    rintro e w16 ⟨po4, pc4, rfl, _, hb⟩
                    have H16 : Hid (But3 w4.heap.size w5.heap.size w6.heap.size w7.heap.size w8.heap.size w9.heap.size w12 (w16.alloc (.cells #[.int .i64 PE.1, .slice po4 PE.2.length pc4] 46)) ∧ URow (w16.alloc (.cells #[.int .i64 PE.1, .slice po4 PE.2.length pc4] 46)) bo2 D ∧ (ys.length = n ∧ HasRows (w16.alloc (.cells #[.int .i64 PE.1, .slice po4 PE.2.length pc4] 46)) bo3 ys ∧ Mat (w16.alloc (.cells #[.int .i64 PE.1, .slice po4 PE.2.length pc4] 46)) n zs ys)) := ⟨(H15.out.1.below hb).below (below1 _ _), URow.keep (URow.keep H15.out.2.1 hb) (below1 _ _), H15.out.2.2.1, (H15.out.2.2.2.1.keep hb).keep (below1 _ _), (H15.out.2.2.2.2.keep hb).keep (below1 _ _)⟩
                    clear hb c0 c1 c2 cs
                    go_upto_region 50 with fail
                    generalize w16.alloc (.cells #[.int .i64 PE.1, .slice po4 PE.2.length pc4] 46) = W16 at *
                    go_wp2_with fail
                    refine (sameRow_yes bo bo2 bc bc2 D W16 (HBR.out W16 H16.out.1) H16.out.2.1 (by unfold maxLen; omega)).mono ?_
                    rintro e w17 ⟨rfl, hb⟩
                    have H17 : Hid (But3 w4.heap.size w5.heap.size w6.heap.size w7.heap.size w8.heap.size w9.heap.size w12 w17 ∧ (ys.length = n ∧ HasRows w17 bo3 ys ∧ Mat w17 n zs ys)) := ⟨H16.out.1.below hb, H16.out.2.2.1, H16.out.2.2.2.1.keep hb, H16.out.2.2.2.2.keep hb⟩
                    clear hb
                    go_wp2_with fail
                    refine (sameMatrix_yes mo bo3 mc bc3 n zs us ys w17 (HMR.out w17 H17.out.1).1 H17.out.2.1 (HMR.out w17 H17.out.1).2.1 H17.out.2.2.1 (HMR.out w17 H17.out.1).2.2 H17.out.2.2.2 hn6).mono ?_
                    rintro e w18 ⟨rfl, hb⟩
                    have H18 : Hid (But3 w4.heap.size w5.heap.size w6.heap.size w7.heap.size w8.heap.size w9.heap.size w12 w18) := H17.out.1.below hb
                    clear hb
                    rcases HV.out with ⟨Ty, x, rfl⟩ | ⟨rfl, xs, hI, hR⟩
                    · have HBY : Hid (Below w.heap.size w w18) := (HK.out w18 (HCX.out w18 H18.out)).2.2
                      go_wp2
                      go_ret
                      exact ⟨rfl, HBY.out⟩
                    · have HRX : Hid (type_of% (hR w18 fo uo wo fc tc wc (HX.out w18 (HCX.out w18 H18.out)) (HQI.out xs w18 H18.out hI))) := hR w18 fo uo wo fc tc wc (HX.out w18 (HCX.out w18 H18.out)) (HQI.out xs w18 H18.out hI)
                      obtain ⟨⟨c0, c1, c2⟩, cs, _⟩ := HK.out w18 (HCX.out w18 H18.out)
                      clear hI hR
                      go_wp2_with fail
                      refine HRX.out.mono ?_
                      rintro e w19 ⟨rfl, hb⟩
                      have HBY : Hid (Below w.heap.size w w19) := (HK.out w19 (HCX.out w19 (H18.out.below hb))).2.2
                      clear hb
                      go_wp2
                      go_ret
                      exact ⟨rfl, HBY.out⟩
end Go.Proofs.Ytnkfggccahohpab
