/- The law FaultNests, walked. -/
import Derived.Test.YtkmbffdjgpjojaaDoorAwake
import Derived.Test.YtkmbffdjgpjojaaDoorWord
import Derived.Test.YtkmbffdjgpjojaaDoorAlike
import Derived.Deep.RegionWith
namespace Go.Proofs.YtkmbffdjgpjojaaDoor
open Go.RowKit Go.Extern

theorem places_of_row {w : World} {base : Nat} {pv : Value} {ps : List (Int × Int)} (h : w.ownsRow base 34 2 pv ps.length (flat ps)) : HasPlaces w pv ps := by
  rcases h.2 with ⟨e, h0⟩ | ⟨g, cap, cur, rfl, hg, hh, hcap, _, _, htk⟩
  · have : ps = [] := List.eq_nil_of_length_eq_zero h0
    subst this
    exact ⟨none, 0, e, fun j p hj => by simp at hj⟩
  · refine ⟨_, cap, rfl, fun j p hj => ⟨g, 0, rfl, lt_of_get hh, ?_⟩⟩
    obtain ⟨hlt, he⟩ := List.getElem?_eq_some_iff.1 hj
    have h0 := (h.cellAt (2 * j) (by omega)).trans (flat_get ps j hlt).1
    have h1 := (h.cellAt (2 * j + 1) (by omega)).trans (flat_get ps j hlt).2
    rw [he] at h0 h1
    rw [Nat.zero_add, Nat.mul_comm j 2]
    exact ⟨h0, h1⟩
/-- the list behind its first place. -/
theorem places_tail {w : World} {g off cap : Nat} {p : Int × Int} {ps : List (Int × Int)} (h : HasPlaces w (.slice (some ⟨g, off, none⟩) (ps.length + 1) cap) (p :: ps)) : HasPlaces w (.slice (some ⟨g, off + 2, none⟩) ps.length (cap - 1)) ps := by
  obtain ⟨ao, cap', e, hc⟩ := h
  cases e
  refine ⟨_, _, rfl, fun j q hj => ?_⟩
  obtain ⟨b, off', ea, hl, h0, h1⟩ := hc (j + 1) q (by simpa using hj)
  cases ea
  have e1 : off + (j + 1) * 2 = off + 2 + j * 2 := by omega
  rw [e1] at h0 h1
  exact ⟨g, off + 2, rfl, hl, h0, h1⟩
theorem tail_or {n : Int} {tv : Value} (h : IsTail n false tv) : tv = .nilIface ∨ ∃ m, tv = .iface 24 (.int .i64 m) := by
  rcases h with ⟨_, h⟩ | ⟨_, h, _⟩ | ⟨_, _, h⟩
  · exact Or.inr ⟨n, h⟩
  · cases h
  · exact Or.inl h
theorem tail_code {n : Int} {tv : Value} (h : IsTail n false tv) : codeOf tv = n := by
  rcases h with ⟨_, h⟩ | ⟨_, h, _⟩ | ⟨h0, _, h⟩
  · rw [h]; rfl
  · cases h
  · rw [h, h0]; rfl
theorem join_cons (w : List UInt8) (ws : List (List UInt8)) (sep : List UInt8) (h : ws ≠ []) : Lib.join (w :: ws) sep = w ++ sep ++ Lib.join ws sep := by
  cases ws with
  | nil => exact absurd rfl h
  | cons x xs => simp [Lib.join, List.intercalate, List.intersperse]

set_option maxRecDepth 100000 in
set_option maxHeartbeats 4000000 in
theorem nests_calls (k a n : Int) (lv : Value) (ps : List (Int × Int)) (w : World) (ha : in64 a) (hn : in64 n) (hl : HasPlaces w lv ps) (hin : ∀ p ∈ ps, in64 p.2) (hm : ps.length ≤ maxLen) (hg : HasType w) (hpow : HasPow w) :
    Calls Tryd.prog 8 #[.int .i64 k, .int .i64 a, lv, .int .i64 n] w fun e w' => e = .returned (.bool true) ∧ Below w.heap.size w w' := by
  have HM : Hid (ps.length ≤ maxLen) := hm
  unfold maxLen at hm
  obtain ⟨ao, cap, hlv⟩ : ∃ ao cap, lv = .slice ao ps.length cap := by
    obtain ⟨ao, cap, e, _⟩ := hl
    exact ⟨ao, cap, e⟩
  subst hlv
  have HL : Hid (HasPlaces w (.slice ao ps.length cap) ps) := hl
  have HIN : Hid (∀ p ∈ ps, in64 p.2) := hin
  have HA : Hid (in64 a) := ha
  have HNN : Hid (in64 n) := hn
  have HG : Hid (HasType w) := hg
  have HP : Hid (HasPow w) := hpow
  have hg0 : 0 < w.heap.size := hg.pos
  have HAW : Hid (Calls Tryd.prog 9 #[] w fun e w' => e = .returned (.bool true) ∧ Below w.heap.size w w') := awake_calls w hg hpow
  clear hl hin ha hn hg hpow
  go_enter Tryd.func8, Tryd.ntmps8
  go_wp2_with fail
  refine HAW.out.mono ?_
  rintro e w1 ⟨rfl, hb1⟩
  have HB1 : Hid (Below w.heap.size w w1) := hb1
  have HL1 : Hid (HasPlaces w1 (.slice ao ps.length cap) ps) := HL.out.keep hb1
  clear hb1
  go_wp2_with fail
  refine (chain_calls _ ps n false w1 HL1.out HM.out).mono ?_
  rintro e w2 ⟨tv, v, rfl, hT, hE, hb2⟩
  have HB2 : Hid (Below w.heap.size w w2) := HB1.out.trans (hb2.mono HB1.out.size)
  have HT : Hid (IsTail n false tv) := hT
  have HE : Hid (IsErr w2 tv ps v) := hE
  rcases isErr_shape (tail_or hT) hE with ⟨h, _, _⟩ | ⟨T, x, h⟩
  · subst h
    clear hT hE hb2
    go_wp2
    go_ret
    exact ⟨rfl, HB2.out⟩
  subst h
  clear hT hE hb2
  by_cases h60 : (60 : Int) < ps.length
  · go_wp2
    go_ret
    exact ⟨rfl, HB2.out⟩
  go_wp2_with fail
  refine (at_some k a T x w2).mono ?_
  rintro e w3 ⟨rfl, hw3⟩
  have HE3 : Hid (IsErr w3 tv ((k, a) :: ps) (.iface 30 (.pointer (some ⟨w2.heap.size, 0, none⟩)))) := by subst hw3; exact isErr_new (p := (k, a)) HE.out
  have hB23 : Below w2.heap.size w2 w3 := by subst hw3; exact (Below.refl _ _).alloc (Nat.le_refl _) _
  have HO3 : Hid (IsErr w3 tv ps (.iface T x)) := HE.out.keep (Below.keeps hB23)
  have HB3 : Hid (Below w.heap.size w w3) := HB2.out.trans (hB23.mono HB2.out.size)
  have HG3 : Hid (HasType w3) := HG.out.keep HB3.out hg0
  clear hw3 hB23
  have t1 : ps.take 64 = ps := List.take_of_length_le (by omega)
  have t2 : ((k, a) :: ps).take 64 = (k, a) :: ps := List.take_of_length_le (by simp; omega)
  have HP1 : Hid (∀ wx, IsErr wx tv ps (.iface T x) → HasType wx → Calls Tryd.prog 17 #[.iface T x] wx fun e w' => ∃ pl, e = .returned pl ∧ w'.ownsRow wx.heap.size 34 2 pl ps.length (flat ps) ∧ Below wx.heap.size wx w') := fun wx h1 h2 => by
    have h := places_calls (tail_or HT.out) ps _ wx h1 h2
    rw [t1] at h
    exact h
  have HP2 : Hid (∀ wx, IsErr wx tv ((k, a) :: ps) (.iface 30 (.pointer (some ⟨w2.heap.size, 0, none⟩))) → HasType wx → Calls Tryd.prog 17 #[.iface 30 (.pointer (some ⟨w2.heap.size, 0, none⟩))] wx fun e w' => ∃ pl, e = .returned pl ∧ w'.ownsRow wx.heap.size 34 2 pl (ps.length + 1) (flat ((k, a) :: ps)) ∧ Below wx.heap.size wx w') := fun wx h1 h2 => by
    have h := places_calls (tail_or HT.out) ((k, a) :: ps) _ wx h1 h2
    rw [t2] at h
    exact h
  clear t1 t2
  go_wp2_with fail
  refine (HP1.out w3 HO3.out HG3.out).mono ?_
  rintro e w4 ⟨pl, rfl, hrow, hb4⟩
  have HPL4 : Hid (HasPlaces w4 pl ps) := places_of_row hrow
  obtain ⟨po, pcap, hpl⟩ : ∃ po pcap, pl = .slice po ps.length pcap := by
    rcases hrow.2 with ⟨h, h'⟩ | ⟨g, cap, cur, h, _⟩
    · exact ⟨none, 0, by rw [h']; exact h⟩
    · exact ⟨_, cap, h⟩
  subst hpl
  have HE4 : Hid (IsErr w4 tv ((k, a) :: ps) (.iface 30 (.pointer (some ⟨w2.heap.size, 0, none⟩)))) := HE3.out.keep (Below.keeps hb4)
  have HO4 : Hid (IsErr w4 tv ps (.iface T x)) := HO3.out.keep (Below.keeps hb4)
  have HB4 : Hid (Below w.heap.size w w4) := HB3.out.trans (hb4.mono HB3.out.size)
  have HG4 : Hid (HasType w4) := HG.out.keep HB4.out hg0
  clear hrow hb4
  go_wp2_with fail
  refine (HP2.out w4 HE4.out HG4.out).mono ?_
  rintro e w5 ⟨ql, rfl, hrow, hb5⟩
  have HQL5 : Hid (HasPlaces w5 ql ((k, a) :: ps)) := places_of_row (ps := (k, a) :: ps) hrow
  obtain ⟨g, qcap, hql, hqc⟩ : ∃ g qcap, ql = .slice (some ⟨g, 0, none⟩) (ps.length + 1) qcap ∧ ps.length + 1 ≤ qcap := by
    rcases hrow.2 with ⟨h, h'⟩ | ⟨g, cap, cur, h, _, _, hc, _⟩
    · omega
    · exact ⟨_, cap, h, hc⟩
  subst hql
  have HPL5 : Hid (HasPlaces w5 (.slice po ps.length pcap) ps) := HPL4.out.keep hb5
  have HE5 : Hid (IsErr w5 tv ((k, a) :: ps) (.iface 30 (.pointer (some ⟨w2.heap.size, 0, none⟩)))) := HE4.out.keep (Below.keeps hb5)
  have HO5 : Hid (IsErr w5 tv ps (.iface T x)) := HO4.out.keep (Below.keeps hb5)
  have HB5 : Hid (Below w.heap.size w w5) := HB4.out.trans (hb5.mono HB4.out.size)
  have HG5 : Hid (HasType w5) := HG.out.keep HB5.out hg0
  clear hrow hb5
  have HC1 : Hid (∀ wx, IsErr wx tv ps (.iface T x) → HasType wx → Calls Tryd.prog 15 #[.iface T x] wx fun e w' => e = .returned (.int .i64 n) ∧ Below wx.heap.size wx w') := fun wx h1 h2 => by
    have h := code_any ps (tail_or HT.out) _ wx h1 h2
    have e : cutTail tv ps 64 = tv := by unfold cutTail; rw [if_pos (by omega)]
    rw [e, tail_code HT.out] at h
    exact h
  have HC2 : Hid (∀ wx, IsErr wx tv ((k, a) :: ps) (.iface 30 (.pointer (some ⟨w2.heap.size, 0, none⟩))) → HasType wx → Calls Tryd.prog 15 #[.iface 30 (.pointer (some ⟨w2.heap.size, 0, none⟩))] wx fun e w' => e = .returned (.int .i64 n) ∧ Below wx.heap.size wx w') := fun wx h1 h2 => by
    have h := code_any ((k, a) :: ps) (tail_or HT.out) _ wx h1 h2
    have e : cutTail tv ((k, a) :: ps) 64 = tv := by unfold cutTail; rw [if_pos (by simp; omega)]
    rw [e, tail_code HT.out] at h
    exact h
  go_wp2_with fail
  refine (HC2.out w5 HE5.out HG5.out).mono ?_
  rintro e w6 ⟨rfl, hb6⟩
  have HPL6 : Hid (HasPlaces w6 (.slice po ps.length pcap) ps) := HPL5.out.keep hb6
  have HQL6 : Hid (HasPlaces w6 (.slice (some ⟨g, 0, none⟩) (ps.length + 1) qcap) ((k, a) :: ps)) := HQL5.out.keep hb6
  have HE6 : Hid (IsErr w6 tv ((k, a) :: ps) (.iface 30 (.pointer (some ⟨w2.heap.size, 0, none⟩)))) := HE5.out.keep (Below.keeps hb6)
  have HO6 : Hid (IsErr w6 tv ps (.iface T x)) := HO5.out.keep (Below.keeps hb6)
  have HB6 : Hid (Below w.heap.size w w6) := HB5.out.trans (hb6.mono HB5.out.size)
  have HG6 : Hid (HasType w6) := HG.out.keep HB6.out hg0
  clear hb6
  go_wp2_with fail
  refine (HC1.out w6 HO6.out HG6.out).mono ?_
  rintro e w7 ⟨rfl, hb7⟩
  have HPL7 : Hid (HasPlaces w7 (.slice po ps.length pcap) ps) := HPL6.out.keep hb7
  have HQL7 : Hid (HasPlaces w7 (.slice (some ⟨g, 0, none⟩) (ps.length + 1) qcap) ((k, a) :: ps)) := HQL6.out.keep hb7
  have HE7 : Hid (IsErr w7 tv ((k, a) :: ps) (.iface 30 (.pointer (some ⟨w2.heap.size, 0, none⟩)))) := HE6.out.keep (Below.keeps hb7)
  have HO7 : Hid (IsErr w7 tv ps (.iface T x)) := HO6.out.keep (Below.keeps hb7)
  have HB7 : Hid (Below w.heap.size w w7) := HB6.out.trans (hb7.mono HB6.out.size)
  have HG7 : Hid (HasType w7) := HG.out.keep HB7.out hg0
  have HPW7 : Hid (HasPow w7) := HP.out.keep HB7.out
  clear hb7
  obtain ⟨c0, c1⟩ : w7.cell? ⟨g, 0, none⟩ = some (.int .i64 k) ∧ w7.cell? ⟨g, 1, none⟩ = some (.int .i64 a) := by
    obtain ⟨ao', cap', e, hc⟩ := HQL7.out
    cases e
    obtain ⟨b, off, ea, _, h0, h1⟩ := hc 0 (k, a) rfl
    cases ea
    exact ⟨by simpa using h0, by simpa using h1⟩
  have HAL : Hid (∀ sv, HasPlaces w7 sv ps → Calls Tryd.prog 16 #[sv, .slice po ps.length pcap] w7 fun e w' => e = .returned (.bool true) ∧ Below w7.heap.size w7 w') := fun sv h => alike_yes _ _ ps w7 h HPL7.out HM.out
  go_wp2_with fail
  all_goals
    refine (HAL.out _ ?_).mono ?_
    · first
        | exact places_tail HQL7.out
        | (have hz : ps.length = 0 := by omega
           have hz' : ps = [] := List.eq_nil_of_length_eq_zero hz
           subst hz'
           exact ⟨_, _, rfl, fun j p hj => by simp at hj⟩)
    rintro e w8 ⟨rfl, hb8⟩
    have HE8 : Hid (IsErr w8 tv ((k, a) :: ps) (.iface 30 (.pointer (some ⟨w2.heap.size, 0, none⟩)))) := HE7.out.keep (Below.keeps hb8)
    have HO8 : Hid (IsErr w8 tv ps (.iface T x)) := HO7.out.keep (Below.keeps hb8)
    have HB8 : Hid (Below w.heap.size w w8) := HB7.out.trans (hb8.mono HB7.out.size)
    have HQL8 : Hid (HasPlaces w8 (.slice (some ⟨g, 0, none⟩) (ps.length + 1) qcap) ((k, a) :: ps)) := HQL7.out.keep hb8
    clear hb8 c0 c1
    have HPW8 : Hid (HasPow w8) := HP.out.keep HB8.out
    have HG8 : Hid (HasType w8) := HG.out.keep HB8.out hg0
    obtain ⟨c0, c1, hgl⟩ : w8.cell? ⟨g, 0, none⟩ = some (.int .i64 k) ∧ w8.cell? ⟨g, 1, none⟩ = some (.int .i64 a) ∧ g < w8.heap.size := by
      obtain ⟨ao', cap', e, hc⟩ := HQL8.out
      cases e
      obtain ⟨b, off, ea, hl, h0, h1⟩ := hc 0 (k, a) rfl
      cases ea
      exact ⟨by simpa using h0, by simpa using h1, hl⟩
    have HTE : Hid (∀ wx, Below w8.heap.size w8 wx → Calls Tryd.prog 18 #[.iface 30 (.pointer (some ⟨w2.heap.size, 0, none⟩))] wx fun e w' => e = .returned (.string ⟨(Lib.join (wordOf (k, a) :: (ps.map wordOf ++ if n = 0 then [] else [numText n])) [58, 32]).toArray⟩) ∧ Below wx.heap.size wx w') := fun wx hb => by
      have h := text_calls (tail_or HT.out) ((k, a) :: ps) _ wx (HE8.out.keep (Below.keeps hb)) (HG8.out.keep hb HG8.out.pos) (HPW8.out.keep hb) (fun p hp => by
        rcases List.mem_cons.1 hp with rfl | hp
        · exact HA.out
        · exact HIN.out p hp) (by
        have e : cutTail tv ((k, a) :: ps) 64 = tv := by unfold cutTail; rw [if_pos (by simp; omega)]
        rw [e, tail_code HT.out]; exact HNN.out)
      have e : cutTail tv ((k, a) :: ps) 64 = tv := by unfold cutTail; rw [if_pos (by simp; omega)]
      have t2 : ((k, a) :: ps).take 64 = (k, a) :: ps := List.take_of_length_le (by simp; omega)
      rw [e, t2, tail_code HT.out] at h
      exact h
    have HTO : Hid (∀ wx, Below w8.heap.size w8 wx → Calls Tryd.prog 18 #[.iface T x] wx fun e w' => e = .returned (.string ⟨(Lib.join (ps.map wordOf ++ if n = 0 then [] else [numText n]) [58, 32]).toArray⟩) ∧ Below wx.heap.size wx w') := fun wx hb => by
      have e : cutTail tv ps 64 = tv := by unfold cutTail; rw [if_pos (by omega)]
      have t2 : ps.take 64 = ps := List.take_of_length_le (by omega)
      have h := text_calls (tail_or HT.out) ps _ wx (HO8.out.keep (Below.keeps hb)) (HG8.out.keep hb HG8.out.pos) (HPW8.out.keep hb) HIN.out (by rw [e, tail_code HT.out]; exact HNN.out)
      rw [e, t2, tail_code HT.out] at h
      exact h
    have HWD : Hid (∀ wx, Below w8.heap.size w8 wx → Calls Tryd.prog 27 #[.agg #[.int .i64 k, .int .i64 a]] wx fun e w' => e = .returned (.string ⟨(wordOf (k, a)).toArray⟩) ∧ Below wx.heap.size wx w') := fun wx hb => word_calls (k, a) HA.out wx (HPW8.out.keep hb)
    have hne : (ps.map wordOf ++ if n = 0 then [] else [numText n]) ≠ [] := by
      rcases HT.out with ⟨hn0, _⟩ | ⟨_, h, _⟩ | ⟨_, _, h⟩
      · simp [hn0]
      · cases h
      · have he := HE8.out
        cases ps with
        | nil =>
          have := HO8.out
          rw [h] at this
          cases this
        | cons p ps => simp
    have hsum : (ByteArray.mk (wordOf (k, a)).toArray ++ ByteArray.mk #[58, 32]) ++ ByteArray.mk (Lib.join (ps.map wordOf ++ if n = 0 then [] else [numText n]) [58, 32]).toArray = ⟨(Lib.join (wordOf (k, a) :: (ps.map wordOf ++ if n = 0 then [] else [numText n])) [58, 32]).toArray⟩ := by
      rw [show (#[58, 32] : Array UInt8) = [58, 32].toArray from rfl, ByteArray.mk_append_mk, ByteArray.mk_append_mk, join_cons _ _ _ hne]
    have z1 : (ByteArray.mk (wordOf (k, a)).toArray).size ≤ 27 := word_len (k, a) HA.out
    have z2 : (ByteArray.mk (Lib.join (ps.map wordOf ++ if n = 0 then [] else [numText n]) [58, 32]).toArray).size ≤ 4200 := by
      have h := inter_len [58, 32] (ps.map wordOf ++ if n = 0 then [] else [numText n]) (fun l hl => by
        rcases List.mem_append.1 hl with h | h
        · obtain ⟨p, hp, rfl⟩ := List.mem_map.1 h
          have := word_len p (HIN.out p hp)
          omega
        · split at h
          · simp at h
          · simp at h; subst h
            have := numText_len n HNN.out
            omega)
      have hc : (ps.map wordOf ++ if n = 0 then [] else [numText n]).length ≤ 61 := by
        rw [List.length_append, List.length_map]
        split <;> simp <;> omega
      show (Lib.join _ _).length ≤ 4200
      unfold Lib.join
      simp only [List.length_cons, List.length_nil] at h
      omega
    generalize ByteArray.mk (Lib.join (wordOf (k, a) :: (ps.map wordOf ++ if n = 0 then [] else [numText n])) [58, 32]).toArray = A at HTE hsum
    generalize ByteArray.mk (Lib.join (ps.map wordOf ++ if n = 0 then [] else [numText n]) [58, 32]).toArray = B at HTO hsum z2
    generalize ByteArray.mk (wordOf (k, a)).toArray = D at HWD hsum z1
    have s1 : ¬ 9223372036854775807 < D.size + 2 := by omega
    have s2 : ¬ 9223372036854775807 < D.size + 2 + B.size := by omega
    clear hne
    go_wp2_with fail
    go_region_with (first
      | (go_at_call_of 18 (Value.iface 30 (.pointer (some ⟨w2.heap.size, 0, none⟩))); refine (HTE.out _ ?_).mono ?_; exact (Below.refl _ _).drew; rintro e w9 ⟨rfl, hb9⟩; have HB9 : Hid (Below w8.heap.size w8 w9) := (Below.refl _ w8).drew.trans hb9; have d0 : w9.cell? ⟨g, 0, none⟩ = some (.int .i64 k) := (HB9.out.cell (p := ⟨g, 0, none⟩) hgl).trans c0; have d1 : w9.cell? ⟨g, 1, none⟩ = some (.int .i64 a) := (HB9.out.cell (p := ⟨g, 1, none⟩) hgl).trans c1; clear hb9)
      | (go_at_call 27; refine (HWD.out _ ?_).mono ?_; exact HB9.out; rintro e w10 ⟨rfl, hb10⟩; have HB10 : Hid (Below w8.heap.size w8 w10) := HB9.out.trans (hb10.mono HB9.out.size); clear hb10)
      | (go_at_call_of 18 (Value.iface T x); refine (HTO.out _ ?_).mono ?_; exact HB10.out; rintro e w11 ⟨rfl, hb11⟩; have HB11 : Hid (Below w8.heap.size w8 w11) := HB10.out.trans (hb11.mono HB10.out.size); clear hb11))
    all_goals
      go_wp2
      go_ret
      refine ⟨?_, HB8.out.trans (HB11.out.mono HB8.out.size)⟩
      first | rfl | simp
end Go.Proofs.YtkmbffdjgpjojaaDoor
