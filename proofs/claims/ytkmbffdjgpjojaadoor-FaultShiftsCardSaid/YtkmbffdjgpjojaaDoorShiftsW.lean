/- The law FaultShifts, walked. -/
import Derived.Test.YtkmbffdjgpjojaaDoorSamesW
import Derived.Test.YtkmbffdjgpjojaaDoorRefShift
import Derived.Test.YtkmbffdjgpjojaaDoorErrI
import Derived.Deep.RegionWith
import Derived.Deep.DeepCutAuto
namespace Go.Proofs.YtkmbffdjgpjojaaDoor
open Go.RowKit Go.Extern

theorem numTail_shape {w : World} {C : Int} {rs : List (Int × Int)} {sv : Value} (h : IsErr w (numTail C) rs sv) : (C = 0 ∧ rs = [] ∧ sv = .nilIface) ∨ ((C ≠ 0 ∨ rs ≠ []) ∧ ∃ T x, sv = .iface T x) := by
  cases rs with
  | nil =>
    obtain rfl : sv = numTail C := h
    by_cases hC : C = 0
    · exact Or.inl ⟨hC, rfl, by rw [numTail, if_pos hC]⟩
    · exact Or.inr ⟨Or.inl hC, _, _, by rw [numTail, if_neg hC]⟩
  | cons p rs =>
    obtain ⟨b, u, e, _⟩ := h
    exact Or.inr ⟨Or.inr (by simp), _, _, e⟩

set_option maxRecDepth 100000 in
set_option maxHeartbeats 4000000 in
theorem shifts_calls (n kd by_ : Int) (other : Bool) (ao : Option Addr) (cap : Nat) (ps : List (Int × Int)) (w : World) (hl : HasPlaces w (.slice ao ps.length cap) ps) (hm : ps.length ≤ maxLen) (hcap : ps.length ≤ cap) (hg : HasType w) (hpow : HasPow w) :
    Calls Tryd.prog 5 #[.slice ao ps.length cap, .int .i64 n, .bool other, .int .i64 kd, .int .i64 by_] w fun e w' => e = .returned (.bool true) ∧ Below w.heap.size w w' := by
  have HM : Hid (ps.length ≤ maxLen ∧ ps.length ≤ cap) := ⟨hm, hcap⟩
  have HL : Hid (HasPlaces w (.slice ao ps.length cap) ps) := hl
  have HG : Hid (HasType w) := hg
  have hg0 : 0 < w.heap.size := hg.pos
  have HAW : Hid (Calls Tryd.prog 9 #[] w fun e w' => e = .returned (.bool true) ∧ Below w.heap.size w w') := awake_calls w hg hpow
  clear hl hg hpow hm hcap
  go_enter Tryd.func5, Tryd.ntmps5
  go_wp2_with fail
  refine HAW.out.mono ?_
  rintro e w1 ⟨rfl, hb1⟩
  have HB1 : Hid (Below w.heap.size w w1) := hb1
  clear hb1
  go_wp2_with fail
  refine (chain_calls _ ps n other w1 (HL.out.keep HB1.out) HM.out.1).mono ?_
  rintro e w2 ⟨tv, v, rfl, hT, hE, hb2⟩
  have HB2 : Hid (Below w.heap.size w w2) := HB1.out.trans (hb2.mono HB1.out.size)
  have HT : Hid (IsTail n other tv) := hT
  have HE : Hid (IsErr w2 tv ps v) := hE
  clear hT hE hb2
  go_wp2_with fail
  refine (told_calls ao cap ps n w2 (HL.out.keep HB2.out) HM.out.1 HM.out.2).mono ?_
  rintro e w3 ⟨mv, rfl, hrow, hb3⟩
  obtain ⟨mo, mcap, hmv⟩ := row_slice hrow
  subst hmv
  have HB3 : Hid (Below w.heap.size w w3) := HB2.out.trans (hb3.mono HB2.out.size)
  have HE3 : Hid (IsErr w3 tv ps v) := HE.out.keep (Below.keeps hb3)
  have HR3 : Hid (HasPlaces w3 (.slice mo (ps.take 64).length mcap) (ps.take 64)) := places_of_row hrow
  clear hb3 hrow
  -- the variable e
  have hbE : Below w3.heap.size w3 (w3.alloc (.cells #[.int .i64 (toldCode n ps), .slice mo (ps.take 64).length mcap] 40)) := (Below.refl _ _).alloc (Nat.le_refl _) _
  have HBE : Hid (Below w.heap.size w (w3.alloc (.cells #[.int .i64 (toldCode n ps), .slice mo (ps.take 64).length mcap] 40))) := HB3.out.trans (hbE.mono HB3.out.size)
  have HNE : Hid ((w3.alloc (.cells #[.int .i64 (toldCode n ps), .slice mo (ps.take 64).length mcap] 40)).heap[w3.heap.size]? = some (.cells #[.int .i64 (toldCode n ps), .slice mo (ps.take 64).length mcap] 40)) := heap_new _ _
  have HE4 : Hid (IsErr (w3.alloc (.cells #[.int .i64 (toldCode n ps), .slice mo (ps.take 64).length mcap] 40)) tv ps v) := HE3.out.keep (Below.keeps hbE)
  have HR4 : Hid (HasPlaces (w3.alloc (.cells #[.int .i64 (toldCode n ps), .slice mo (ps.take 64).length mcap] 40)) (.slice mo (ps.take 64).length mcap) (ps.take 64)) := HR3.out.keep hbE
  have HTL : Hid ((ps.take 64).length ≤ 64) := by show _ ≤ _; rw [List.length_take]; omega
  have HCT : Hid (codeOf (cutTail (strip tv) ps 64) = toldCode n ps) := tail_told HT.out ps
  have HNC : Hid (codeOf (cutTail (strip (numTail (toldCode n ps))) ((ps.take 64).map (moved kd by_)) 64) = toldCode n ps) := numTail_code ps _ (by rw [List.length_map])
  clear hbE
  generalize toldCode n ps = C at *
  generalize hqs : ps.take 64 = qs at *
  have HQS : Hid (ps.take 64 = qs) := hqs
  clear hqs
  generalize hW4 : w3.alloc (.cells #[.int .i64 C, .slice mo qs.length mcap] 40) = W4 at HBE HNE HE4 HR4
  have HW4 : Hid (w3.alloc (.cells #[.int .i64 C, .slice mo qs.length mcap] 40) = W4) := hW4
  clear hW4
  have HSH : Hid (Calls Tryd.prog 21 #[v, .int .i64 kd, .int .i64 by_] W4 fun e w' => ∃ v', e = .returned v' ∧ IsErr w' (numTail C) (qs.map (moved kd by_)) v' ∧ Below W4.heap.size W4 w') := by
    have h := shift_calls (tail_three HT.out) ps v kd by_ W4 HE4.out (HG.out.keep HBE.out hg0)
    rw [HCT.out, HQS.out] at h
    exact h
  go_wp2_with fail
  rw [HW4.out]
  refine HSH.out.mono ?_
  rintro e w5 ⟨sv, rfl, hS5, hb5⟩
  have HB5 : Hid (Below w.heap.size w w5) := HBE.out.trans (hb5.mono HBE.out.size)
  have HN5 : Hid (w5.heap[w3.heap.size]? = some (.cells #[.int .i64 C, .slice mo qs.length mcap] 40)) := (hb5.block _ (lt_of_get HNE.out)).trans HNE.out
  have HE5 : Hid (IsErr w5 tv ps v) := HE4.out.keep (Below.keeps hb5)
  have HR5 : Hid (HasPlaces w5 (.slice mo qs.length mcap) qs) := HR4.out.keep hb5
  have HS5 : Hid (IsErr w5 (numTail C) (qs.map (moved kd by_)) sv) := hS5
  obtain ⟨a0, a1, _, _⟩ := cell_two HN5.out
  clear hb5 hS5
  go_wp2_with fail
  refine (refshift_calls C kd by_ mo mcap qs w5 HR5.out HTL.out).mono ?_
  rintro e w6 ⟨lo, lcap, rfl, hP6, hb6⟩
  have HB6 : Hid (Below w.heap.size w w6) := HB5.out.trans (hb6.mono HB5.out.size)
  have HN6 : Hid (w6.heap[w3.heap.size]? = some (.cells #[.int .i64 C, .slice mo qs.length mcap] 40)) := (hb6.block _ (lt_of_get HN5.out)).trans HN5.out
  have HE6 : Hid (IsErr w6 tv ps v) := HE5.out.keep (Below.keeps hb6)
  have HR6 : Hid (HasPlaces w6 (.slice mo qs.length mcap) qs) := HR5.out.keep hb6
  have HS6 : Hid (IsErr w6 (numTail C) (qs.map (moved kd by_)) sv) := HS5.out.keep (Below.keeps hb6)
  have HP6 : Hid (HasPlaces w6 (.slice lo qs.length lcap) (qs.map (moved kd by_))) := hP6
  clear hb6 hP6 a0 a1
  have hbW : Below w6.heap.size w6 (w6.alloc (.cells #[.int .i64 C, .slice lo qs.length lcap] 40)) := (Below.refl _ _).alloc (Nat.le_refl _) _
  have HNW : Hid ((w6.alloc (.cells #[.int .i64 C, .slice lo qs.length lcap] 40)).heap[w6.heap.size]? = some (.cells #[.int .i64 C, .slice lo qs.length lcap] 40)) := heap_new _ _
  have HBW : Hid (Below w.heap.size w (w6.alloc (.cells #[.int .i64 C, .slice lo qs.length lcap] 40))) := HB6.out.trans (hbW.mono HB6.out.size)
  have HN7 : Hid ((w6.alloc (.cells #[.int .i64 C, .slice lo qs.length lcap] 40)).heap[w3.heap.size]? = some (.cells #[.int .i64 C, .slice mo qs.length mcap] 40)) := (hbW.block _ (lt_of_get HN6.out)).trans HN6.out
  have HE7 : Hid (IsErr (w6.alloc (.cells #[.int .i64 C, .slice lo qs.length lcap] 40)) tv ps v) := HE6.out.keep (Below.keeps hbW)
  have HR7 : Hid (HasPlaces (w6.alloc (.cells #[.int .i64 C, .slice lo qs.length lcap] 40)) (.slice mo qs.length mcap) qs) := HR6.out.keep hbW
  have HS7 : Hid (IsErr (w6.alloc (.cells #[.int .i64 C, .slice lo qs.length lcap] 40)) (numTail C) (qs.map (moved kd by_)) sv) := HS6.out.keep (Below.keeps hbW)
  have HP7 : Hid (HasPlaces (w6.alloc (.cells #[.int .i64 C, .slice lo qs.length lcap] 40)) (.slice lo qs.length lcap) (qs.map (moved kd by_))) := HP6.out.keep hbW
  clear hbW
  have HLR : Hid ((qs.map (moved kd by_)).length = qs.length) := List.length_map _
  generalize qs.map (moved kd by_) = rs at *
  generalize hW7 : w6.alloc (.cells #[.int .i64 C, .slice lo qs.length lcap] 40) = W7 at HNW HBW HN7 HE7 HR7 HS7 HP7
  have HW7 : Hid (w6.alloc (.cells #[.int .i64 C, .slice lo qs.length lcap] 40) = W7) := hW7
  clear hW7
  have HG7 : Hid (HasType W7) := HG.out.keep HBW.out hg0
  have hp7 : 0 < W7.heap.size := HG7.out.pos
  have HK : Hid (∀ wx, Below W7.heap.size W7 wx → wx.cell? ⟨w3.heap.size, 0, none⟩ = some (.int .i64 C) ∧ wx.cell? ⟨w3.heap.size, 1, none⟩ = some (.slice mo qs.length mcap) ∧ wx.cell? ⟨w6.heap.size, 0, none⟩ = some (.int .i64 C) ∧ wx.cell? ⟨w6.heap.size, 1, none⟩ = some (.slice lo qs.length lcap)) := fun wx hb => by
    obtain ⟨a0, a1, _, _⟩ := cell_two ((hb.block _ (lt_of_get HN7.out)).trans HN7.out)
    obtain ⟨b0, b1, _, _⟩ := cell_two ((hb.block _ (lt_of_get HNW.out)).trans HNW.out)
    exact ⟨a0, a1, b0, b1⟩
  have HCODE : Hid (∀ wx, Below W7.heap.size W7 wx → Calls Tryd.prog 15 #[v] wx fun e w' => e = .returned (.int .i64 C) ∧ Below wx.heap.size wx w') := fun wx hb => by
    have h := code_gen ps (tail_three HT.out) v wx (HE7.out.keep (Below.keeps hb)) (HG7.out.keep hb hp7)
    rw [HCT.out] at h
    exact h
  have HPLC : Hid (∀ wx, Below W7.heap.size W7 wx → Calls Tryd.prog 17 #[v] wx fun e w' => ∃ pl, e = .returned pl ∧ HasPlaces w' pl qs ∧ Below wx.heap.size wx w') := fun wx hb => by
    have h := places_gen (tail_three HT.out) ps v wx (HE7.out.keep (Below.keeps hb)) (HG7.out.keep hb hp7)
    rw [HQS.out] at h
    refine h.mono ?_
    rintro e w' ⟨pl, rfl, hr, hb'⟩
    exact ⟨pl, rfl, places_of_row hr, hb'⟩
  have HALK : Hid (∀ wx pl, Below W7.heap.size W7 wx → HasPlaces wx pl qs → Calls Tryd.prog 16 #[pl, .slice mo qs.length mcap] wx fun e w' => e = .returned (.bool true) ∧ Below wx.heap.size wx w') := fun wx pl hb hp =>
    alike_yes _ _ qs wx hp (HR7.out.keep hb) (Nat.le_trans HTL.out (by unfold maxLen; omega))
  have HCODS : Hid (∀ wx, Below W7.heap.size W7 wx → Calls Tryd.prog 15 #[sv] wx fun e w' => e = .returned (.int .i64 C) ∧ Below wx.heap.size wx w') := fun wx hb => by
    have h := code_gen rs (numTail_three C) sv wx (HS7.out.keep (Below.keeps hb)) (HG7.out.keep hb hp7)
    rw [HNC.out] at h
    exact h
  have HTR : Hid (rs.take 64 = rs) := List.take_of_length_le (by rw [HLR.out]; exact HTL.out)
  have HPLS : Hid (∀ wx, Below W7.heap.size W7 wx → Calls Tryd.prog 17 #[sv] wx fun e w' => ∃ pl, e = .returned pl ∧ HasPlaces w' pl rs ∧ Below wx.heap.size wx w') := fun wx hb => by
    have h := places_gen (numTail_three C) rs sv wx (HS7.out.keep (Below.keeps hb)) (HG7.out.keep hb hp7)
    rw [HTR.out] at h
    refine h.mono ?_
    rintro e w' ⟨pl, rfl, hr, hb'⟩
    exact ⟨pl, rfl, places_of_row hr, hb'⟩
  have HALS : Hid (∀ wx pl, Below W7.heap.size W7 wx → HasPlaces wx pl rs → Calls Tryd.prog 16 #[pl, .slice lo qs.length lcap] wx fun e w' => e = .returned (.bool true) ∧ Below wx.heap.size wx w') := fun wx pl hb hp =>
    alike_yes _ _ rs wx hp (HP7.out.keep hb) (by rw [HLR.out]; exact Nat.le_trans HTL.out (by unfold maxLen; omega))
  have HBAD : Hid (∀ wx, Calls Tryd.prog 23 #[.agg #[.int .i64 C, .slice lo qs.length lcap]] wx fun e w' => e = .returned (.bool (C != 0 || decide (0 < qs.length))) ∧ Below wx.heap.size wx w') := fun wx => bad_calls C lo qs.length lcap wx
  have hcc : (C != C) = false := by simp
  have hln : qs.length ≤ 64 := HTL.out
  go_upto_region 7 with fail
  rw [HW7.out]
  go_cut [47] (fun c wx => c = .bool false ∧ Below W7.heap.size W7 wx)
  case first =>
    have c0 := (HK.out W7 (Below.refl _ _)).1
    have c1 := (HK.out W7 (Below.refl _ _)).2.1
    go_region_with (first
      | (go_at_call 17; refine (HPLC.out _ ?_).mono ?_; exact (Below.refl _ _).drew; rintro e w8 ⟨pl, rfl, hpl, hb8⟩; have HB8 : Hid (Below W7.heap.size W7 w8) := (Below.refl _ W7).drew.trans hb8; have HPL8 : Hid (HasPlaces w8 pl qs) := hpl; have d0 := (HK.out w8 HB8.out).1; have d1 := (HK.out w8 HB8.out).2.1; clear hb8 hpl)
      | (go_at_call 16; refine (HALK.out _ _ ?_ ?_).mono ?_; exact HB8.out; exact HPL8.out; rintro e w9 ⟨rfl, hb9⟩; have HB9 : Hid (Below W7.heap.size W7 w9) := HB8.out.trans (hb9.mono HB8.out.size); have f0 := (HK.out w9 HB9.out).1; have f1 := (HK.out w9 HB9.out).2.1; clear hb9)
      | (go_at_call 15; refine (HCODE.out _ ?_).mono ?_; exact HB9.out; rintro e w10 ⟨rfl, hb10⟩; have HB10 : Hid (Below W7.heap.size W7 w10) := HB9.out.trans (hb10.mono HB9.out.size); have g0 := (HK.out w10 HB10.out).1; have g1 := (HK.out w10 HB10.out).2.1; clear hb10))
    all_goals (go_wp2_with fail; go_meet; exact ⟨rfl, HB10.out⟩)
  case rest =>
    obtain ⟨hc, hb8⟩ := hcut
    subst hc
    have HB8 : Hid (Below W7.heap.size W7 wc) := hb8
    clear hb8
    generalize wc = w8 at *
    obtain ⟨_, _, c2, c3⟩ := HK.out w8 HB8.out
    go_wp2_with fail
    refine (HBAD.out _).mono ?_
    rintro e w9 ⟨rfl, hb9⟩
    have HB9 : Hid (Below W7.heap.size W7 w9) := HB8.out.trans (hb9.mono HB8.out.size)
    have HBN : Hid (Below w.heap.size w w9) := HBW.out.trans (HB9.out.mono HBW.out.size)
    clear hb9 c2 c3
    rcases numTail_shape HS7.out with ⟨hC, hr, hsv⟩ | ⟨hne, T, x, hsv⟩
    · have hbad : (C != 0 || decide (0 < qs.length)) = false := by
        have h := HLR.out
        rw [hr] at h
        rw [hC, ← h]; rfl
      rw [hbad]
      subst hsv
      go_wp2
      go_ret
      exact ⟨rfl, HBN.out⟩
    · have hbad : (C != 0 || decide (0 < qs.length)) = true := by
        rcases hne with h | h
        · simp [h]
        · have h1 := HLR.out
          have h2 : 0 < rs.length := List.length_pos_iff.2 h
          simp; right; omega
      rw [hbad]
      subst hsv
      clear hne hbad
      go_upto_region 11 with fail
      go_cut [69] (fun c wx => c = .bool false ∧ Below W7.heap.size W7 wx)
      case first =>
        obtain ⟨_, _, c2, c3⟩ := HK.out w9 HB9.out
        go_region_with (first
          | (go_at_call 17; refine (HPLS.out _ ?_).mono ?_; exact HB9.out.drew; rintro e w10 ⟨pl, rfl, hpl, hb10⟩; have HB10 : Hid (Below W7.heap.size W7 w10) := HB9.out.drew.trans (hb10.mono HB9.out.size); have HPL10 : Hid (HasPlaces w10 pl rs) := hpl; obtain ⟨_, _, d2, d3⟩ := HK.out w10 HB10.out; clear hb10 hpl)
          | (go_at_call 16; refine (HALS.out _ _ ?_ ?_).mono ?_; exact HB10.out; exact HPL10.out; rintro e w11 ⟨rfl, hb11⟩; have HB11 : Hid (Below W7.heap.size W7 w11) := HB10.out.trans (hb11.mono HB10.out.size); obtain ⟨_, _, f2, f3⟩ := HK.out w11 HB11.out; clear hb11)
          | (go_at_call 15; refine (HCODS.out _ ?_).mono ?_; exact HB11.out; rintro e w12 ⟨rfl, hb12⟩; have HB12 : Hid (Below W7.heap.size W7 w12) := HB11.out.trans (hb12.mono HB11.out.size); obtain ⟨_, _, g2, g3⟩ := HK.out w12 HB12.out; clear hb12))
        all_goals (go_wp2_with fail; go_meet; exact ⟨rfl, HB12.out⟩)
      case rest =>
        obtain ⟨hc, hb10⟩ := hcut
        subst hc
        have HB10 : Hid (Below W7.heap.size W7 wc) := hb10
        clear hb10
        generalize wc = w10 at *
        obtain ⟨_, _, c2, c3⟩ := HK.out w10 HB10.out
        go_wp2_with fail
        have HE10 : Hid (IsErr w10 (numTail C) rs (.iface T x)) := HS7.out.keep (Below.keeps HB10.out)
        go_loopw [13, 73] (fun su iv wr => ∃ k : Nat, k ≤ qs.length ∧ iv = .int .i64 k ∧ IsErr wr (numTail C) (rs.drop k) su ∧ Below W7.heap.size W7 wr) (fun _ iv _ => qs.length - (intOf iv).toNat)
        case atStart => exact ⟨0, Nat.zero_le _, rfl, HE10.out, HB10.out⟩
        case round =>
          obtain ⟨k, hk, rfl, he, hbr⟩ := hrel
          have HBR : Hid (Below W7.heap.size W7 wr) := hbr
          have HER : Hid (IsErr wr (numTail C) (rs.drop k) u13) := he
          have HBF : Hid (Below w.heap.size w wr) := HBW.out.trans (HBR.out.mono HBW.out.size)
          clear he hbr c2 c3
          by_cases hlt : k < qs.length
          · obtain ⟨p, hp⟩ : ∃ p, rs[k]? = some p := ⟨rs[k]'(by rw [HLR.out]; exact hlt), List.getElem?_eq_getElem _⟩
            have hd : rs.drop k = p :: rs.drop (k + 1) := by
              obtain ⟨hl, he⟩ := List.getElem?_eq_some_iff.1 hp
              rw [List.drop_eq_getElem_cons hl, he]
            have hx := HER.out
            rw [hd] at hx
            obtain ⟨b, u, hu, hb, hr⟩ := hx
            subst hu
            have HB : Hid (wr.heap[b]? = some (.cells #[.int .i64 p.1, .int .i64 p.2, u] 36)) := hb
            have HR : Hid (IsErr wr (numTail C) (rs.drop (k + 1)) u) := hr
            have hbl : b < wr.heap.size := lt_of_get hb
            obtain ⟨gb, off, hlo, q0, q1⟩ : ∃ gb off, lo = some ⟨gb, off, none⟩ ∧ wr.cell? ⟨gb, off + k * 2, none⟩ = some (.int .i64 p.1) ∧ wr.cell? ⟨gb, off + k * 2 + 1, none⟩ = some (.int .i64 p.2) := by
              obtain ⟨ao', cap', e, hc⟩ := HP7.out.keep HBR.out
              injection e with e1 e2 e3
              subst e1
              obtain ⟨gb, off, ea, _, h0, h1⟩ := hc k p hp
              exact ⟨gb, off, ea, h0, h1⟩
            subst hlo
            clear hb hr hp hd
            have HAS : Hid (Calls Tryd.prog 12 #[.iface 30 (.pointer (some ⟨b, 0, none⟩)), .iface 32 (.pointer (some ⟨wr.heap.size + 1, 0, none⟩))] ((wr.alloc (.cells #[.int .i64 p.1, .int .i64 p.2] 34)).alloc (.cells #[.pointer none] 30)).drew fun e wz => e = .returned (.bool true) ∧ wz.cell? ⟨wr.heap.size + 1, 0, none⟩ = some (.pointer (some ⟨b, 0, none⟩)) ∧ wz.cell? ⟨b, 0, none⟩ = some (.int .i64 p.1) ∧ wz.cell? ⟨b, 1, none⟩ = some (.int .i64 p.2) ∧ wz.cell? ⟨b, 2, none⟩ = some u ∧ wz.cell? ⟨wr.heap.size, 0, none⟩ = some (.int .i64 p.1) ∧ wz.cell? ⟨wr.heap.size, 1, none⟩ = some (.int .i64 p.2) ∧ IsErr wz (numTail C) (rs.drop (k + 1)) u ∧ Below W7.heap.size W7 wz) := by
              obtain ⟨Wf, hWf⟩ : ∃ Wf, ((wr.alloc (.cells #[.int .i64 p.1, .int .i64 p.2] 34)).alloc (.cells #[.pointer none] 30)).drew = Wf := ⟨_, rfl⟩
              have hBf : Below wr.heap.size wr Wf := by rw [← hWf]; exact (((Below.refl _ wr).alloc (Nat.le_refl _) _).alloc (by simp) _).drew
              have hsf : Wf.heap.size = wr.heap.size + 2 := by rw [← hWf]; show ((wr.alloc _).alloc _).heap.size = _; simp
              have hN0 : Wf.heap[wr.heap.size]? = some (.cells #[.int .i64 p.1, .int .i64 p.2] 34) := by
                rw [← hWf]
                show ((wr.alloc _).alloc _).heap[wr.heap.size]? = _
                rw [Below.heap_alloc _ _ _ (by simp)]; exact heap_new _ _
              have hN1 : Wf.heap[wr.heap.size + 1]? = some (.cells #[.pointer none] 30) := by
                rw [← hWf]
                have h := heap_new (wr.alloc (.cells #[.int .i64 p.1, .int .i64 p.2] 34)) (.cells #[.pointer none] 30)
                show ((wr.alloc _).alloc _).heap[wr.heap.size + 1]? = _
                simpa using h
              rw [hWf]
              have hBW := HBR.out.trans (hBf.mono HBR.out.size)
              refine (as_fault ⟨b, 0, none⟩ (wr.heap.size + 1) (.pointer none) Wf (HG7.out.keep hBW hp7) hN1).mono ?_
              rintro e wz ⟨rfl, hG, ht⟩
              have hK : ∀ j, j < wr.heap.size → wz.heap[j]? = wr.heap[j]? := fun j hj => (ht.block j (by omega) (by omega)).trans (hBf.block j hj)
              have hf := cell_of_fault ((hK b hbl).trans HB.out)
              obtain ⟨p0, p1, _, _⟩ := cell_two ((ht.block wr.heap.size (by omega) (by omega)).trans hN0)
              exact ⟨rfl, (cell_one hG).1, hf.1, hf.2.1, hf.2.2, p0, p1, HR.out.keep (fun j c hj => (hK j (lt_of_get hj)).trans hj), hBW.trans (ht.below (by have := HBR.out.size; omega) (by omega))⟩
            go_wp2_with fail
            go_region_with (go_at_call 12; refine HAS.out.mono ?_; rintro e wz ⟨rfl, cG, e0, e1, e2, f0, f1, hEz, hBz⟩; have HZ : Hid (IsErr wz (numTail C) (rs.drop (k + 1)) u ∧ Below W7.heap.size W7 wz) := ⟨hEz, hBz⟩; clear hEz hBz)
            all_goals
              go_wp2
              go_roundw
              case rel => exact ⟨k + 1, by omega, by go_num, HZ.out.1, HZ.out.2⟩
              case measure => simp [intOf]; omega
          · obtain rfl : k = qs.length := by omega
            have hx := HER.out
            rw [List.drop_of_length_le (by rw [HLR.out]; exact Nat.le_refl _)] at hx
            obtain ⟨_, _, c2, c3⟩ := HK.out wr HBR.out
            have hx' : u13 = numTail C := hx
            clear hx
            by_cases hC : C = 0
            · rw [numTail, if_pos hC] at hx'
              subst hx'
              rw [hC] at c2
              go_wp2
              go_ret
              exact ⟨rfl, HBF.out⟩
            · rw [numTail, if_neg hC] at hx'
              subst hx'
              have hCb : (C == 0) = false := by simpa using hC
              have hCC : (C == C) = true := by simp
              have hq := Tryd.eq2424
              go_wp2
              go_ret
              refine ⟨?_, HBF.out⟩
              first | rfl | simp
end Go.Proofs.YtkmbffdjgpjojaaDoor
