/- The law FaultSames, walked. -/
import Derived.Test.YtkmbffdjgpjojaaDoorSame
import Derived.Test.YtkmbffdjgpjojaaDoorAwake
namespace Go.Proofs.YtkmbffdjgpjojaaDoor
open Go.RowKit Go.Extern

attribute [local go_sem] Oper.semAt_some

theorem tail_three {n : Int} {o : Bool} {tv : Value} (h : IsTail n o tv) : Tail3 tv := by
  rcases h with ⟨_, h⟩ | ⟨_, _, a, h⟩ | ⟨_, _, h⟩
  · exact Or.inr (Or.inl ⟨n, h⟩)
  · exact Or.inr (Or.inr ⟨_, h⟩)
  · exact Or.inl h
theorem tail_told {n : Int} {o : Bool} {tv : Value} (h : IsTail n o tv) (ps : List (Int × Int)) : codeOf (cutTail (strip tv) ps 64) = toldCode n ps := by
  unfold toldCode cutTail
  by_cases hl : ps.length < 64
  · rw [if_pos hl, if_pos hl]
    rcases h with ⟨h0, h⟩ | ⟨h0, _, a, h⟩ | ⟨h0, _, h⟩
    · rw [h]; rfl
    · rw [h, h0]; rfl
    · rw [h, h0]; rfl
  · rw [if_neg hl, if_neg hl]
    rfl
theorem numTail_three (c : Int) : Tail3 (numTail c) := by
  unfold numTail
  split
  · exact Or.inl rfl
  · exact Or.inr (Or.inl ⟨_, rfl⟩)
/-- the number of a chain that was told and made anew. -/
theorem numTail_code {n : Int} (ps qs : List (Int × Int)) (hl : qs.length = (ps.take 64).length) : codeOf (cutTail (strip (numTail (toldCode n ps))) qs 64) = toldCode n ps := by
  rw [List.length_take] at hl
  unfold toldCode cutTail
  by_cases h : ps.length < 64
  · rw [if_pos h, if_pos (by omega)]
    unfold numTail
    split
    · rename_i h0; rw [h0]; rfl
    · rfl
  · rw [if_neg h, if_neg (by omega)]
    rfl
theorem moved_none {ps : List (Int × Int)} (h : ∀ p ∈ ps, in64 p.2) (kd : Int) : ps.map (moved kd 0) = ps := by
  conv => rhs; rw [← List.map_id ps]
  refine List.map_congr_left fun p hp => ?_
  unfold moved
  split
  · have h2 : -9223372036854775808 ≤ p.2 ∧ p.2 ≤ 9223372036854775807 := h p hp
    have h3 : wrap64 (p.2 + 0) = p.2 := by unfold wrap64; omega
    rw [h3]; rfl
  · rfl

set_option maxRecDepth 100000 in
set_option maxHeartbeats 4000000 in
theorem sames_calls (n m : Int) (other : Bool) (ao bo : Option Addr) (ac bc : Nat) (ps qs : List (Int × Int)) (w : World) (hl : HasPlaces w (.slice ao ps.length ac) ps) (hk : HasPlaces w (.slice bo qs.length bc) qs) (hin : ∀ p ∈ ps, in64 p.2) (hm : ps.length ≤ maxLen) (hm2 : qs.length ≤ maxLen) (hcap : ps.length ≤ ac) (hcap2 : qs.length ≤ bc) (hg : HasType w) (hpow : HasPow w) :
    Calls Tryd.prog 6 #[.slice ao ps.length ac, .slice bo qs.length bc, .int .i64 n, .int .i64 m, .bool other] w fun e w' => e = .returned (.bool true) ∧ Below w.heap.size w w' := by
  have HM : Hid (ps.length ≤ maxLen ∧ qs.length ≤ maxLen ∧ ps.length ≤ ac ∧ qs.length ≤ bc) := ⟨hm, hm2, hcap, hcap2⟩
  have HL : Hid (HasPlaces w (.slice ao ps.length ac) ps ∧ HasPlaces w (.slice bo qs.length bc) qs) := ⟨hl, hk⟩
  have HG : Hid (HasType w) := hg
  have HIN : Hid (∀ p ∈ ps.take 64, in64 p.2) := fun p hp => hin p (List.mem_of_mem_take hp)
  have hg0 : 0 < w.heap.size := hg.pos
  have HAW : Hid (Calls Tryd.prog 9 #[] w fun e w' => e = .returned (.bool true) ∧ Below w.heap.size w w') := awake_calls w hg hpow
  clear hl hk hg hpow hin hm hm2 hcap hcap2
  go_enter Tryd.func6, Tryd.ntmps6
  go_wp2_with fail
  refine HAW.out.mono ?_
  rintro e w1 ⟨rfl, hb1⟩
  have HB1 : Hid (Below w.heap.size w w1) := hb1
  clear hb1
  go_wp2_with fail
  refine (chain_calls _ ps n other w1 (HL.out.1.keep HB1.out) HM.out.1).mono ?_
  rintro e w2 ⟨tv, va, rfl, hT, hE, hb2⟩
  have HB2 : Hid (Below w.heap.size w w2) := HB1.out.trans (hb2.mono HB1.out.size)
  have HT : Hid (IsTail n other tv) := hT
  have HE : Hid (IsErr w2 tv ps va) := hE
  clear hT hE hb2
  go_wp2_with fail
  refine (chain_calls _ qs m (!other) w2 (HL.out.2.keep HB2.out) HM.out.2.1).mono ?_
  rintro e w3 ⟨tw, vb, rfl, hT, hE, hb3⟩
  have HB3 : Hid (Below w.heap.size w w3) := HB2.out.trans (hb3.mono HB2.out.size)
  have HT2 : Hid (IsTail m (!other) tw) := hT
  have HE2 : Hid (IsErr w3 tw qs vb) := hE
  have HE3 : Hid (IsErr w3 tv ps va) := HE.out.keep (Below.keeps hb3)
  clear hT hE hb3
  have HG3 : Hid (HasType w3) := HG.out.keep HB3.out hg0
  have hp3 : 0 < w3.heap.size := HG3.out.pos
  have HAB : Hid (∀ wx, Below w3.heap.size w3 wx → Calls Tryd.prog 24 #[va, vb] wx fun e w' => e = .returned (.bool (bothB (toldCode n ps) (toldCode m qs) (ps.take 64) (qs.take 64))) ∧ Below wx.heap.size wx w') := fun wx hb => by
    have h := same_calls (tail_three HT.out) (tail_three HT2.out) ps qs va vb wx (HE3.out.keep (Below.keeps hb)) (HE2.out.keep (Below.keeps hb)) (HG3.out.keep hb hp3)
    rw [tail_told HT.out, tail_told HT2.out] at h
    exact h
  have HBA : Hid (∀ wx, Below w3.heap.size w3 wx → Calls Tryd.prog 24 #[vb, va] wx fun e w' => e = .returned (.bool (bothB (toldCode n ps) (toldCode m qs) (ps.take 64) (qs.take 64))) ∧ Below wx.heap.size wx w') := fun wx hb => by
    have h := same_calls (tail_three HT2.out) (tail_three HT.out) qs ps vb va wx (HE2.out.keep (Below.keeps hb)) (HE3.out.keep (Below.keeps hb)) (HG3.out.keep hb hp3)
    rw [tail_told HT.out, tail_told HT2.out, bothB_symm] at h
    exact h
  have HAA : Hid (∀ wx, Below w3.heap.size w3 wx → Calls Tryd.prog 24 #[va, va] wx fun e w' => e = .returned (.bool true) ∧ Below wx.heap.size wx w') := fun wx hb => by
    have h := same_calls (tail_three HT.out) (tail_three HT.out) ps ps va va wx (HE3.out.keep (Below.keeps hb)) (HE3.out.keep (Below.keeps hb)) (HG3.out.keep hb hp3)
    rw [bothB_refl] at h
    exact h
  have HTA : Hid (∀ wx, Below w3.heap.size w3 wx → Calls Tryd.prog 14 #[.slice ao ps.length ac, .int .i64 n] wx fun e w' => ∃ mo mcap, e = .returned (.agg #[.int .i64 (toldCode n ps), .slice mo (ps.take 64).length mcap]) ∧ HasPlaces w' (.slice mo (ps.take 64).length mcap) (ps.take 64) ∧ Below wx.heap.size wx w') := fun wx hb => by
    refine (told_calls ao ac ps n wx ((HL.out.1.keep HB3.out).keep hb) HM.out.1 HM.out.2.2.1).mono ?_
    rintro e w' ⟨mv, rfl, hrow, hb'⟩
    obtain ⟨mo, mcap, rfl⟩ := row_slice hrow
    exact ⟨mo, mcap, rfl, places_of_row hrow, hb'⟩
  have HTB : Hid (∀ wx, Below w3.heap.size w3 wx → Calls Tryd.prog 14 #[.slice bo qs.length bc, .int .i64 m] wx fun e w' => ∃ mo mcap, e = .returned (.agg #[.int .i64 (toldCode m qs), .slice mo (qs.take 64).length mcap]) ∧ HasPlaces w' (.slice mo (qs.take 64).length mcap) (qs.take 64) ∧ Below wx.heap.size wx w') := fun wx hb => by
    refine (told_calls bo bc qs m wx ((HL.out.2.keep HB3.out).keep hb) HM.out.2.1 HM.out.2.2.2).mono ?_
    rintro e w' ⟨mv, rfl, hrow, hb'⟩
    obtain ⟨mo, mcap, rfl⟩ := row_slice hrow
    exact ⟨mo, mcap, rfl, places_of_row hrow, hb'⟩
  have HSH : Hid (∀ wx, Below w3.heap.size w3 wx → Calls Tryd.prog 21 #[va, .int .i64 1, .int .i64 0] wx fun e w' => ∃ v', e = .returned v' ∧ (Calls Tryd.prog 24 #[va, v'] w' fun e w'' => e = .returned (.bool true) ∧ Below w'.heap.size w' w'') ∧ Below wx.heap.size wx w') := fun wx hb => by
    refine (shift_calls (tail_three HT.out) ps va 1 0 wx (HE3.out.keep (Below.keeps hb)) (HG3.out.keep hb hp3)).mono ?_
    rintro e w' ⟨v', rfl, he, hb'⟩
    rw [tail_told HT.out, moved_none HIN.out] at he
    have hbw := hb.trans (hb'.mono hb.size)
    have h := same_calls (tail_three HT.out) (numTail_three _) ps (ps.take 64) va v' w' (HE3.out.keep (Below.keeps hbw)) he (HG3.out.keep hbw hp3)
    rw [tail_told HT.out, numTail_code ps (ps.take 64) rfl, List.take_take, Nat.min_self, bothB_refl] at h
    exact ⟨v', rfl, h, hb'⟩
  have HALK : Hid (∀ wx mo mc no nc, HasPlaces wx (.slice mo (ps.take 64).length mc) (ps.take 64) → HasPlaces wx (.slice no (qs.take 64).length nc) (qs.take 64) → Calls Tryd.prog 25 #[.agg #[.int .i64 (toldCode n ps), .slice mo (ps.take 64).length mc], .agg #[.int .i64 (toldCode m qs), .slice no (qs.take 64).length nc]] wx fun e w' => e = .returned (.bool (bothB (toldCode n ps) (toldCode m qs) (ps.take 64) (qs.take 64))) ∧ Below wx.heap.size wx w') := fun wx mo mc no nc h1 h2 =>
    refalike_calls _ _ _ _ _ _ _ _ _ _ wx h1 h2 (by rw [List.length_take]; unfold maxLen; omega)
  generalize toldCode n ps = C at *
  generalize toldCode m qs = D at *
  generalize ps.take 64 = ps' at *
  generalize qs.take 64 = qs' at *
  generalize bothB C D ps' qs' = B at *
  generalize ps'.length = lp at *
  generalize qs'.length = lq at *
  go_wp2_with fail
  refine (HAB.out _ (Below.refl _ _)).mono ?_
  rintro e w4 ⟨rfl, hb4⟩
  have HB4 : Hid (Below w3.heap.size w3 w4) := hb4
  clear hb4
  go_wp2_with fail
  refine (HTA.out _ HB4.out).mono ?_
  rintro e w5 ⟨mo, mc, rfl, hp5, hb5⟩
  have HB5 : Hid (Below w3.heap.size w3 w5) := HB4.out.trans (hb5.mono HB4.out.size)
  have HP5 : Hid (HasPlaces w5 (.slice mo lp mc) ps') := hp5
  clear hb5 hp5
  go_wp2_with fail
  refine (HTB.out _ HB5.out).mono ?_
  rintro e w6 ⟨no, nc, rfl, hp6, hb6⟩
  have HB6 : Hid (Below w3.heap.size w3 w6) := HB5.out.trans (hb6.mono HB5.out.size)
  have HP6 : Hid (HasPlaces w6 (.slice mo lp mc) ps' ∧ HasPlaces w6 (.slice no lq nc) qs') := ⟨HP5.out.keep hb6, hp6⟩
  clear hb6 hp6
  go_wp2_with fail
  refine (HALK.out _ _ _ _ _ HP6.out.1 HP6.out.2).mono ?_
  rintro e w7 ⟨rfl, hb7⟩
  have HB7 : Hid (Below w3.heap.size w3 w7) := HB6.out.trans (hb7.mono HB6.out.size)
  clear hb7
  have hBB : (B != B) = false := by simp
  go_wp2_with fail
  refine (HBA.out _ HB7.out).mono ?_
  rintro e w8 ⟨rfl, hb8⟩
  have HB8 : Hid (Below w3.heap.size w3 w8) := HB7.out.trans (hb8.mono HB7.out.size)
  clear hb8
  go_wp2_with fail
  refine (HAB.out _ HB8.out).mono ?_
  rintro e w9 ⟨rfl, hb9⟩
  have HB9 : Hid (Below w3.heap.size w3 w9) := HB8.out.trans (hb9.mono HB8.out.size)
  clear hb9
  go_wp2_with fail
  refine (HAA.out _ HB9.out).mono ?_
  rintro e w10 ⟨rfl, hb10⟩
  have HB10 : Hid (Below w3.heap.size w3 w10) := HB9.out.trans (hb10.mono HB9.out.size)
  clear hb10
  go_wp2_with fail
  refine (HSH.out _ HB10.out).mono ?_
  rintro e w11 ⟨v', rfl, hs, hb11⟩
  have HB11 : Hid (Below w3.heap.size w3 w11) := HB10.out.trans (hb11.mono HB10.out.size)
  have HS : Hid (Calls Tryd.prog 24 #[va, v'] w11 fun e w'' => e = .returned (.bool true) ∧ Below w11.heap.size w11 w'') := hs
  clear hs hb11
  go_wp2_with fail
  refine HS.out.mono ?_
  rintro e w12 ⟨rfl, hb12⟩
  have HB12 : Hid (Below w.heap.size w w12) := HB3.out.trans ((HB11.out.trans (hb12.mono HB11.out.size)).mono HB3.out.size)
  clear hb12
  go_wp2
  go_ret
  exact ⟨rfl, HB12.out⟩
end Go.Proofs.YtkmbffdjgpjojaaDoor
