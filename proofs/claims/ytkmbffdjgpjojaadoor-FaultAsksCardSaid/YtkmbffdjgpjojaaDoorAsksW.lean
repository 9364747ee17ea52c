/- The law FaultAsks, walked. -/
import Derived.Test.YtkmbffdjgpjojaaDoorGen
import Derived.Test.YtkmbffdjgpjojaaDoorHas
import Derived.Test.YtkmbffdjgpjojaaDoorRefText
import Derived.Test.YtkmbffdjgpjojaaDoorAlike
import Derived.Test.YtkmbffdjgpjojaaDoorAwake
import Derived.Deep.RegionWith
import Derived.Test.YtkmbffdjgpjojaaDoorAsksTail
namespace Go.Proofs.YtkmbffdjgpjojaaDoor
open Go.RowKit Go.Extern

theorem tail3_is {n : Int} {o : Bool} {tv : Value} (h : IsTail n o tv) : Tail3 tv := by
  rcases h with ⟨_, h⟩ | ⟨_, _, a, h⟩ | ⟨_, _, h⟩
  · exact Or.inr (Or.inl ⟨n, h⟩)
  · exact Or.inr (Or.inr ⟨_, h⟩)
  · exact Or.inl h
theorem cut_told {n : Int} {o : Bool} {tv : Value} (h : IsTail n o tv) (ps : List (Int × Int)) : (toldCode n ps = 0 ∧ cutTail (strip tv) ps 64 = .nilIface) ∨ (toldCode n ps ≠ 0 ∧ cutTail (strip tv) ps 64 = .iface 24 (.int .i64 (toldCode n ps))) := by
  unfold toldCode cutTail
  by_cases hl : ps.length < 64
  · rw [if_pos hl, if_pos hl]
    rcases h with ⟨h0, h⟩ | ⟨h0, _, a, h⟩ | ⟨h0, _, h⟩
    · exact Or.inr ⟨h0, by rw [h]; rfl⟩
    · exact Or.inl ⟨h0, by rw [h]; rfl⟩
    · exact Or.inl ⟨h0, by rw [h]; rfl⟩
  · rw [if_neg hl, if_neg hl]
    exact Or.inl ⟨rfl, rfl⟩
theorem code_told {n : Int} {o : Bool} {tv : Value} (h : IsTail n o tv) (ps : List (Int × Int)) : codeOf (cutTail (strip tv) ps 64) = toldCode n ps := by
  rcases cut_told h ps with ⟨h0, h1⟩ | ⟨_, h1⟩
  · rw [h1, h0]; rfl
  · rw [h1]; rfl
theorem has_told {n : Int} {o : Bool} {tv : Value} (h : IsTail n o tv) (ps : List (Int × Int)) (m : Int) : hasNum (cutTail (strip tv) ps 64) m = (toldCode n ps != 0 && m == toldCode n ps) := by
  rcases cut_told h ps with ⟨h0, h1⟩ | ⟨h0, h1⟩
  · rw [h1, h0]; simp [hasNum]
  · rw [h1]; simp [hasNum, h0, Bool.beq_comm]
theorem told_in {n : Int} (h : in64 n) (ps : List (Int × Int)) : in64 (toldCode n ps) := by
  unfold toldCode; split
  · exact h
  · simp [in64]
theorem places_of_row' {w : World} {base : Nat} {pv : Value} {ps : List (Int × Int)} (h : w.ownsRow base 34 2 pv ps.length (flat ps)) : HasPlaces w pv ps := by
  rcases h.2 with ⟨e, h0⟩ | ⟨g, cap, cur, rfl, hg, hh, hcap, _, _, htk⟩
  · have : ps = [] := List.eq_nil_of_length_eq_zero h0
    subst this
    exact ⟨none, 0, e, fun j p hj => by simp at hj⟩
  · refine ⟨_, cap, rfl, fun j p hj => ⟨g, 0, rfl, lt_of_get hh, ?_⟩⟩
    obtain ⟨hlt, he⟩ := List.getElem?_eq_some_iff.1 hj
    have h0 := (h.cellAt (2 * j) (by omega)).trans (flat_get ps j hlt).1
    have h1 := (h.cellAt (2 * j + 1) (by omega)).trans (flat_get ps j hlt).2
    rw [he] at h0 h1
    rw [Nat.zero_add, Nat.mul_comm j 2]
    exact ⟨h0, h1⟩

set_option maxRecDepth 100000 in
set_option maxHeartbeats 4000000 in
theorem asks_calls (n m : Int) (other : Bool) (ao : Option Addr) (cap : Nat) (ps : List (Int × Int)) (w : World) (hn : in64 n) (hl : HasPlaces w (.slice ao ps.length cap) ps) (hin : ∀ p ∈ ps, in64 p.2) (hm : ps.length ≤ maxLen) (hcap : ps.length ≤ cap) (hg : HasType w) (hpow : HasPow w) :
    Calls Tryd.prog 4 #[.slice ao ps.length cap, .int .i64 n, .int .i64 m, .bool other] w fun e w' => e = .returned (.bool true) ∧ Below w.heap.size w w' := by
  have HM : Hid (ps.length ≤ maxLen) := hm
  have HCP : Hid (ps.length ≤ cap) := hcap
  have HL : Hid (HasPlaces w (.slice ao ps.length cap) ps) := hl
  have HG : Hid (HasType w) := hg
  have HP : Hid (HasPow w) := hpow
  have HIN : Hid (∀ p ∈ ps.take 64, in64 p.2) := fun p hp => hin p (List.mem_of_mem_take hp)
  have HIA : Hid (∀ p ∈ ps, in64 p.2) := hin
  have HNI : Hid (in64 n) := hn
  have hg0 : 0 < w.heap.size := hg.pos
  have HAW : Hid (Calls Tryd.prog 9 #[] w fun e w' => e = .returned (.bool true) ∧ Below w.heap.size w w') := awake_calls w hg hpow
  clear hl hg hpow hin hn hm hcap
  go_enter Tryd.func4, Tryd.ntmps4
  go_wp2_with fail
  refine HAW.out.mono ?_
  rintro e w1 ⟨rfl, hb1⟩
  have HB1 : Hid (Below w.heap.size w w1) := hb1
  have HL1 : Hid (HasPlaces w1 (.slice ao ps.length cap) ps) := HL.out.keep hb1
  clear hb1
  go_wp2_with fail
  refine (chain_calls _ ps n other w1 HL1.out HM.out).mono ?_
  rintro e w2 ⟨tv, v, rfl, hT, hE, hb2⟩
  have HB2 : Hid (Below w.heap.size w w2) := HB1.out.trans (hb2.mono HB1.out.size)
  have HL2 : Hid (HasPlaces w2 (.slice ao ps.length cap) ps) := HL1.out.keep hb2
  have HT : Hid (IsTail n other tv) := hT
  have HE : Hid (IsErr w2 tv ps v) := hE
  clear hT hE hb2
  go_wp2_with fail
  refine (told_calls ao cap ps n w2 HL2.out HM.out HCP.out).mono ?_
  rintro e w3 ⟨mv, rfl, hrow, hb3⟩
  obtain ⟨mo, mcap, hmv⟩ := row_slice hrow
  subst hmv
  have HB3 : Hid (Below w.heap.size w w3) := HB2.out.trans (hb3.mono HB2.out.size)
  have HE3 : Hid (IsErr w3 tv ps v) := HE.out.keep (Below.keeps hb3)
  have HR3 : Hid (HasPlaces w3 (.slice mo (ps.take 64).length mcap) (ps.take 64)) := places_of_row' hrow
  clear hb3 hrow
  -- the variable e
  have hbE : Below w3.heap.size w3 (w3.alloc (.cells #[.int .i64 (toldCode n ps), .slice mo (ps.take 64).length mcap] 40)) := (Below.refl _ _).alloc (Nat.le_refl _) _
  have HBE : Hid (Below w.heap.size w (w3.alloc (.cells #[.int .i64 (toldCode n ps), .slice mo (ps.take 64).length mcap] 40))) := HB3.out.trans (hbE.mono HB3.out.size)
  have HNE : Hid ((w3.alloc (.cells #[.int .i64 (toldCode n ps), .slice mo (ps.take 64).length mcap] 40)).heap[w3.heap.size]? = some (.cells #[.int .i64 (toldCode n ps), .slice mo (ps.take 64).length mcap] 40)) := heap_new _ _
  have HE4 : Hid (IsErr (w3.alloc (.cells #[.int .i64 (toldCode n ps), .slice mo (ps.take 64).length mcap] 40)) tv ps v) := HE3.out.keep (Below.keeps hbE)
  have HR4 : Hid (HasPlaces (w3.alloc (.cells #[.int .i64 (toldCode n ps), .slice mo (ps.take 64).length mcap] 40)) (.slice mo (ps.take 64).length mcap) (ps.take 64)) := HR3.out.keep hbE
  have hEl : w3.heap.size < (w3.alloc (.cells #[.int .i64 (toldCode n ps), .slice mo (ps.take 64).length mcap] 40)).heap.size := by simp
  have HTL : Hid ((ps.take 64).length ≤ 64) := by show _ ≤ _; rw [List.length_take]; omega
  have HTI : Hid (in64 (toldCode n ps)) := told_in HNI.out ps
  have HHT : Hid (hasNum (cutTail (strip tv) ps 64) m = (toldCode n ps != 0 && m == toldCode n ps)) := has_told HT.out ps m
  have HCT : Hid (codeOf (cutTail (strip tv) ps 64) = toldCode n ps) := code_told HT.out ps
  clear hbE
  generalize toldCode n ps = C at *
  generalize hqs : ps.take 64 = qs at *
  have HQS : Hid (ps.take 64 = qs) := hqs
  clear hqs
  generalize hW4 : w3.alloc (.cells #[.int .i64 C, .slice mo qs.length mcap] 40) = W4 at HBE HNE HE4 HR4 hEl
  have HW4 : Hid (w3.alloc (.cells #[.int .i64 C, .slice mo qs.length mcap] 40) = W4) := hW4
  clear hW4
  have HK : Hid (∀ wx, Below W4.heap.size W4 wx → wx.cell? ⟨w3.heap.size, 0, none⟩ = some (.int .i64 C) ∧ wx.cell? ⟨w3.heap.size, 1, none⟩ = some (.slice mo qs.length mcap) ∧ IsErr wx tv ps v ∧ HasType wx ∧ HasPow wx ∧ HasPlaces wx (.slice mo qs.length mcap) qs) := fun wx hb => by
    obtain ⟨a0, a1, _, _⟩ := cell_two ((hb.block _ hEl).trans HNE.out)
    exact ⟨a0, a1, HE4.out.keep (Below.keeps hb), (HG.out.keep HBE.out hg0).keep hb (Nat.lt_of_lt_of_le hg0 HBE.out.size), (HP.out.keep HBE.out).keep hb, HR4.out.keep hb⟩
  have HCODE : Hid (∀ wx, Below W4.heap.size W4 wx → Calls Tryd.prog 15 #[v] wx fun e w' => e = .returned (.int .i64 C) ∧ Below wx.heap.size wx w') := fun wx hb => by
    obtain ⟨_, _, k1, k2, _, _⟩ := HK.out wx hb
    have h := code_gen ps (tail3_is HT.out) v wx k1 k2
    rw [HCT.out] at h
    exact h
  have HPLC : Hid (∀ wx, Below W4.heap.size W4 wx → Calls Tryd.prog 17 #[v] wx fun e w' => ∃ pl, e = .returned pl ∧ HasPlaces w' pl qs ∧ Below wx.heap.size wx w') := fun wx hb => by
    obtain ⟨_, _, k1, k2, _, _⟩ := HK.out wx hb
    have h := places_gen (tail3_is HT.out) ps v wx k1 k2
    rw [HQS.out] at h
    refine h.mono ?_
    rintro e w' ⟨pl, rfl, hr, hb'⟩
    exact ⟨pl, rfl, places_of_row' hr, hb'⟩
  have HALK : Hid (∀ wx pl, Below W4.heap.size W4 wx → HasPlaces wx pl qs → Calls Tryd.prog 16 #[pl, .slice mo qs.length mcap] wx fun e w' => e = .returned (.bool true) ∧ Below wx.heap.size wx w') := fun wx pl hb hp =>
    alike_yes _ _ qs wx hp (HK.out wx hb).2.2.2.2.2 (Nat.le_trans HTL.out (by unfold maxLen; omega))
  have HTXT : Hid (∀ wx, Below W4.heap.size W4 wx → Calls Tryd.prog 18 #[v] wx fun e w' => e = .returned (.string ⟨(Lib.join (qs.map wordOf ++ codeParts C) [58, 32]).toArray⟩) ∧ Below wx.heap.size wx w') := fun wx hb => by
    obtain ⟨_, _, k1, k2, k3, _⟩ := HK.out wx hb
    have h := text_gen (tail3_is HT.out) ps v wx k1 k2 k3 HIA.out (by rw [HCT.out]; exact HTI.out)
    rw [HCT.out, HQS.out] at h
    exact h
  have HREF : Hid (∀ wx, Below W4.heap.size W4 wx → Calls Tryd.prog 19 #[.agg #[.int .i64 C, .slice mo qs.length mcap]] wx fun e w' => e = .returned (.string ⟨(Lib.join (qs.map wordOf ++ codeParts C) [58, 32]).toArray⟩) ∧ Below wx.heap.size wx w') := fun wx hb => by
    obtain ⟨_, _, _, _, k3, k4⟩ := HK.out wx hb
    exact reftext_calls C mo mcap qs wx HTI.out k4 HTL.out HIN.out k3
  have HHAS : Hid (∀ wx, Below W4.heap.size W4 wx → Calls Tryd.prog 20 #[v, .int .i64 m] wx fun e w' => e = .returned (.bool (C != 0 && m == C)) ∧ Below wx.heap.size wx w') := fun wx hb => by
    have h := has_calls ps (tail3_is HT.out) v m wx (HK.out wx hb).2.2.1
    rw [HHT.out] at h
    exact h
  generalize ByteArray.mk (Lib.join (qs.map wordOf ++ codeParts C) [58, 32]).toArray = A at HTXT HREF
  have hcc : (C != C) = false := by simp
  have HCS : Hid ((C != 0) = false ∨ ((C != 0) = true ∧ (m == C) = true) ∨ ((C != 0) = true ∧ (m == C) = false)) := by
    show _ ∨ _
    cases (C != 0) <;> cases (m == C) <;> simp
  go_wp2_with fail
  rw [HW4.out]
  have c0 := (HK.out W4 (Below.refl _ _)).1
  have c1 := (HK.out W4 (Below.refl _ _)).2.1
  go_region_with (first
    | (go_at_call 15; refine (HCODE.out _ ?_).mono ?_; exact (Below.refl _ _).drew; rintro e w5 ⟨rfl, hb5⟩; have HB5 : Hid (Below W4.heap.size W4 w5) := (Below.refl _ W4).drew.trans hb5; have d0 := (HK.out w5 HB5.out).1; have d1 := (HK.out w5 HB5.out).2.1; clear hb5)
    | (go_at_call 17; refine (HPLC.out _ ?_).mono ?_; exact HB5.out; rintro e w6 ⟨pl, rfl, hpl, hb6⟩; have HB6 : Hid (Below W4.heap.size W4 w6) := HB5.out.trans (hb6.mono HB5.out.size); have HPL6 : Hid (HasPlaces w6 pl qs) := hpl; have f0 := (HK.out w6 HB6.out).1; have f1 := (HK.out w6 HB6.out).2.1; clear hb6 hpl)
    | (go_at_call 16; refine (HALK.out _ _ ?_ ?_).mono ?_; exact HB6.out; exact HPL6.out; rintro e w7 ⟨rfl, hb7⟩; have HB7 : Hid (Below W4.heap.size W4 w7) := HB6.out.trans (hb7.mono HB6.out.size); have g0 := (HK.out w7 HB7.out).1; have g1 := (HK.out w7 HB7.out).2.1; clear hb7)
    | (go_at_call 18; refine (HTXT.out _ ?_).mono ?_; exact HB7.out; rintro e w8 ⟨rfl, hb8⟩; have HB8 : Hid (Below W4.heap.size W4 w8) := HB7.out.trans (hb8.mono HB7.out.size); have k0 := (HK.out w8 HB8.out).1; have k1 := (HK.out w8 HB8.out).2.1; clear hb8)
    | (go_at_call 19; refine (HREF.out _ ?_).mono ?_; exact HB8.out; rintro e w9 ⟨rfl, hb9⟩; have HB9 : Hid (Below W4.heap.size W4 w9) := HB8.out.trans (hb9.mono HB8.out.size); have l0 := (HK.out w9 HB9.out).1; have l1 := (HK.out w9 HB9.out).2.1; clear hb9))
  all_goals go_wp2
  all_goals rcases HCS.out with h1 | ⟨h1, h2⟩ | ⟨h1, h2⟩
  all_goals first
    | exact asks_none _ n m C other ao mo cap mcap w3.heap.size ps qs v pl A W4 w9 (fun e w' => e = .returned (.bool true) ∧ Below w.heap.size w w') _ (by assumption) (fun wx h => (HK.out wx h).1) HHAS HB9 l0 h1 (fun w' hb => ⟨rfl, HBE.out.trans (hb.mono HBE.out.size)⟩)
    | exact asks_some _ n m C other ao mo cap mcap w3.heap.size ps qs v pl A W4 w9 (fun e w' => e = .returned (.bool true) ∧ Below w.heap.size w w') _ (by assumption) (fun wx h => (HK.out wx h).1) HHAS HB9 l0 true h1 h2 (fun w' hb => ⟨rfl, HBE.out.trans (hb.mono HBE.out.size)⟩)
    | exact asks_some _ n m C other ao mo cap mcap w3.heap.size ps qs v pl A W4 w9 (fun e w' => e = .returned (.bool true) ∧ Below w.heap.size w w') _ (by assumption) (fun wx h => (HK.out wx h).1) HHAS HB9 l0 false h1 h2 (fun w' hb => ⟨rfl, HBE.out.trans (hb.mono HBE.out.size)⟩)
end Go.Proofs.YtkmbffdjgpjojaaDoor
