/- scan's isPlain, isNumeral, Number, walked. -/
import Derived.Test.YthgmhhlgjooeaaaGreatDoorGtN
import Derived.Test.YthgmhhlgjooeaaaGreatDoorProg
import Derived.WalkKit
import Derived.LoopIn
import Derived.BigQuiet
import Derived.Deep.DeepCutAuto
import Derived.Deep.RegionHeld3
namespace Go.Proofs.YthgmhhlgjooeaaaGreatDoor.Gt
open Go Go.Lib Go.RowKit

attribute [local go_sem] Oper.semAt_some

theorem take_all {p : UInt8 → Bool} {l : By} {k : Nat} {b : UInt8} (h : l[k]? = some b) : (l.take (k + 1)).all p = ((l.take k).all p && p b) := by
  rw [List.take_add_one, h, List.all_append]
  simp
theorem all_false {p : UInt8 → Bool} {l : By} {k : Nat} {b : UInt8} (h : l[k]? = some b) (hb : p b = false) : l.all p = false := by
  rw [List.all_eq_false]
  exact ⟨b, List.mem_of_getElem? h, by rw [hb]; decide⟩
theorem bs_at (s : ByteArray) (k : Nat) (h : k < s.size) : (bs s)[k]? = some (s[k]'h) := by
  rw [bs_get s k h, ← get_at s k h]
  rfl

theorem nonempty_of {s : ByteArray} (h : 0 < s.size) : s.toList.isEmpty = false := by
  rw [ByteArray.toList_eq]
  cases hd : s.data.toList with
  | nil => have := bs_len s; unfold bs at this; rw [hd] at this; simp at this; omega
  | cons a t => rfl
set_option maxRecDepth 100000 in
set_option maxHeartbeats 2000000 in
theorem plainW_calls (s : ByteArray) (w : World) (hs : s.size ≤ 281474976710656) : Calls Tryz.prog 59 #[.string s] w fun e w' => e = .returned (.bool ((bs s).all okB)) ∧ w' = w := by
  go_enter Tryz.func59, Tryz.ntmps59
  go_wp2_with fail
  go_loopw [6] (fun iv wr => ∃ k : Nat, k ≤ s.size ∧ iv = .int .i64 k ∧ Hid (((bs s).take k).all okB = true) ∧ wr = w) (fun iv _ => s.size - (intOf iv).toNat)
  case atStart => exact ⟨0, Nat.zero_le _, rfl, rfl, rfl⟩
  case round =>
    obtain ⟨k, hk, rfl, HA, rfl⟩ := hrel
    rcases Nat.lt_or_eq_of_le hk with h1 | h1
    · have hb := bs_at s k h1
      obtain ⟨x, hx⟩ : ∃ x, s[k]'h1 = x := ⟨_, rfl⟩
      rw [hx] at hb
      have HB : Hid ((bs s)[k]? = some x) := hb
      clear hb
      have i1 : (0 : Int) ≤ (k : Int) := by omega
      have i2 : (k : Int) < (s.size : Int) := by omega
      have i3 : decide ((k : Int) < (s.size : Int)) = true := by simp; omega
      by_cases p1 : x.toNat < 33
      · have d1 : decide ((x.toNat : Int) < 33) = true := by simp; omega
        have HF : Hid ((bs s).all okB = false) := all_false HB.out (by unfold okB; simp; omega)
        go_wp2
        go_ret
        exact ⟨by rw [HF.out]; rfl, rfl⟩
      · have d1 : decide ((x.toNat : Int) < 33) = false := by simp; omega
        by_cases p2 : 126 < x.toNat
        · have d2 : decide ((x.toNat : Int) > 126) = true := by simp; omega
          have HF : Hid ((bs s).all okB = false) := all_false HB.out (by unfold okB; simp; omega)
          go_wp2
          go_ret
          exact ⟨by rw [HF.out]; rfl, rfl⟩
        · have d2 : decide ((x.toNat : Int) > 126) = false := by simp; omega
          have HT : Hid (((bs s).take (k + 1)).all okB = true) := by
            show _ = _
            rw [take_all HB.out, HA.out]
            unfold okB
            simp
            omega
          go_wp2_with fail
          go_roundw
          case rel => exact ⟨k + 1, by omega, by rw [show (k : Int) + 1 = ((k + 1 : Nat) : Int) by omega], HT, trivial⟩
          case measure => simp only [intOf]; omega
    · have i3 : decide ((k : Int) < (s.size : Int)) = false := by simp; omega
      go_wp2
      go_ret
      refine ⟨?_, rfl⟩
      have g := HA.out
      rw [h1, ← bs_len, List.take_length] at g
      rw [g]
      rfl

set_option maxRecDepth 100000 in
set_option maxHeartbeats 2000000 in
theorem numeral_calls (s : ByteArray) (w : World) (hs : s.size ≤ 281474976710656) : Calls Tryz.prog 94 #[.string s] w fun e w' => e = .returned (.bool (isNum (bs s))) ∧ w' = w := by
  rcases Nat.eq_zero_or_pos s.size with h0 | h0
  · have e0 : bs s = [] := List.eq_nil_of_length_eq_zero (by rw [bs_len]; exact h0)
    have es : s = ⟨#[]⟩ := by
      cases s with
      | mk d =>
        have : d.size = 0 := h0
        rw [Array.eq_empty_of_size_eq_zero this]
    have HF : Hid (isNum (bs s) = false) := by show _ = _; unfold isNum; rw [e0]; rfl
    clear e0
    subst es
    go_enter Tryz.func94, Tryz.ntmps94
    go_wp2
    go_ret
    exact ⟨by rw [HF.out]; rfl, rfl⟩
  · have i1 : (0 : Int) < (s.size : Int) := by omega
    obtain ⟨x, hx⟩ : ∃ x, s[0]'h0 = x := ⟨_, rfl⟩
    have hx0 := bs_at s 0 h0
    rw [hx] at hx0
    have f1 : s.toList.isEmpty = false := nonempty_of h0
    have f2 : ¬ s.toList = [] := fun e => by rw [e] at f1; cases f1
    have HNE : Hid ((bs s == []) = false) := beq_eq_false_iff_ne.2 (fun e => by have := bs_len s; rw [e] at this; simp at this; omega)
    have HX0 : Hid ((bs s)[0]? = some x) := hx0
    have HSZ : Hid ((bs s).length = s.size) := bs_len s
    clear hx0
    by_cases p1 : x = 48 ∧ 1 < s.size
    · obtain ⟨rfl, p2⟩ := p1
      have d2 : decide ((s.size : Int) > 1) = true := by simp; omega
      have HF : Hid (isNum (bs s) = false) := by
        show _ = _
        unfold isNum
        rw [HX0.out, HSZ.out, decide_eq_true p2]
        simp
      go_enter Tryz.func94, Tryz.ntmps94
      go_wp2
      go_ret
      exact ⟨by rw [HF.out]; rfl, rfl⟩
    · have HG : Hid (isNum (bs s) = (bs s).all dig) := by
        show _ = _
        unfold isNum
        rw [HNE.out, HX0.out, HSZ.out]
        have : (some x == some (48 : UInt8) && decide (1 < s.size)) = false := by
          simp
          exact fun e => Nat.not_lt.1 fun z => p1 ⟨e, z⟩
        rw [this]
        simp
      clear HX0 HNE HSZ
      rcases (show (x = 48 ∧ s.size = 1) ∨ x ≠ 48 by
        by_cases q : x = 48
        · exact Or.inl ⟨q, by have := Nat.not_lt.1 fun z => p1 ⟨q, z⟩; omega⟩
        · exact Or.inr q) with ⟨rfl, p2⟩ | p2
      · have d2 : decide ((s.size : Int) > 1) = false := by simp; omega
        clear p1 p2
        go_enter Tryz.func94, Tryz.ntmps94
        go_wp2_with fail
        clear d2 hx f1 f2
        go_loopw [18] (fun iv wr => ∃ k : Nat, k ≤ s.size ∧ iv = .int .i64 k ∧ Hid (((bs s).take k).all dig = true) ∧ wr = w) (fun iv _ => s.size - (intOf iv).toNat)
        case atStart => exact ⟨0, Nat.zero_le _, rfl, rfl, rfl⟩
        case round =>
          obtain ⟨k, hk, rfl, HA, rfl⟩ := hrel
          rcases Nat.lt_or_eq_of_le hk with h1 | h1
          · have hb := bs_at s k h1
            obtain ⟨y, hy⟩ : ∃ y, s[k]'h1 = y := ⟨_, rfl⟩
            rw [hy] at hb
            have HB : Hid ((bs s)[k]? = some y) := hb
            clear hb
            have i2 : (k : Int) < (s.size : Int) := by omega
            have i3 : decide ((k : Int) < (s.size : Int)) = true := by simp; omega
            by_cases p1 : y.toNat < 48
            · have d1 : decide ((y.toNat : Int) < 48) = true := by simp; omega
              have HF : Hid ((bs s).all dig = false) := all_false HB.out (by unfold dig; simp; omega)
              go_wp2
              go_ret
              exact ⟨by rw [HG.out, HF.out]; rfl, rfl⟩
            · have d1 : decide ((y.toNat : Int) < 48) = false := by simp; omega
              by_cases p2 : 57 < y.toNat
              · have d2 : decide ((y.toNat : Int) > 57) = true := by simp; omega
                have HF : Hid ((bs s).all dig = false) := all_false HB.out (by unfold dig; simp; omega)
                go_wp2
                go_ret
                exact ⟨by rw [HG.out, HF.out]; rfl, rfl⟩
              · have d2 : decide ((y.toNat : Int) > 57) = false := by simp; omega
                have HT : Hid (((bs s).take (k + 1)).all dig = true) := by
                  show _ = _
                  rw [take_all HB.out, HA.out]
                  unfold dig
                  simp
                  omega
                go_wp2_with fail
                go_roundw
                case rel => exact ⟨k + 1, by omega, by rw [show (k : Int) + 1 = ((k + 1 : Nat) : Int) by omega], HT, trivial⟩
                case measure => simp only [intOf]; omega
          · have i3 : decide ((k : Int) < (s.size : Int)) = false := by simp; omega
            go_wp2
            go_ret
            refine ⟨?_, rfl⟩
            have g := HA.out
            rw [h1, ← bs_len, List.take_length] at g
            rw [HG.out, g]
            rfl
      · have d1 : ((x.toNat : Int) == 48) = false := beq_eq_false_iff_ne.2 (fun q => p2 (UInt8.toNat_inj.1 (by show x.toNat = 48; omega)))
        clear p1 p2
        go_enter Tryz.func94, Tryz.ntmps94
        go_wp2_with fail
        clear d1 hx f1 f2
        go_loopw [18] (fun iv wr => ∃ k : Nat, k ≤ s.size ∧ iv = .int .i64 k ∧ Hid (((bs s).take k).all dig = true) ∧ wr = w) (fun iv _ => s.size - (intOf iv).toNat)
        case atStart => exact ⟨0, Nat.zero_le _, rfl, rfl, rfl⟩
        case round =>
          obtain ⟨k, hk, rfl, HA, rfl⟩ := hrel
          rcases Nat.lt_or_eq_of_le hk with h1 | h1
          · have hb := bs_at s k h1
            obtain ⟨y, hy⟩ : ∃ y, s[k]'h1 = y := ⟨_, rfl⟩
            rw [hy] at hb
            have HB : Hid ((bs s)[k]? = some y) := hb
            clear hb
            have i2 : (k : Int) < (s.size : Int) := by omega
            have i3 : decide ((k : Int) < (s.size : Int)) = true := by simp; omega
            by_cases p1 : y.toNat < 48
            · have d1 : decide ((y.toNat : Int) < 48) = true := by simp; omega
              have HF : Hid ((bs s).all dig = false) := all_false HB.out (by unfold dig; simp; omega)
              go_wp2
              go_ret
              exact ⟨by rw [HG.out, HF.out]; rfl, rfl⟩
            · have d1 : decide ((y.toNat : Int) < 48) = false := by simp; omega
              by_cases p2 : 57 < y.toNat
              · have d2 : decide ((y.toNat : Int) > 57) = true := by simp; omega
                have HF : Hid ((bs s).all dig = false) := all_false HB.out (by unfold dig; simp; omega)
                go_wp2
                go_ret
                exact ⟨by rw [HG.out, HF.out]; rfl, rfl⟩
              · have d2 : decide ((y.toNat : Int) > 57) = false := by simp; omega
                have HT : Hid (((bs s).take (k + 1)).all dig = true) := by
                  show _ = _
                  rw [take_all HB.out, HA.out]
                  unfold dig
                  simp
                  omega
                go_wp2_with fail
                go_roundw
                case rel => exact ⟨k + 1, by omega, by rw [show (k : Int) + 1 = ((k + 1 : Nat) : Int) by omega], HT, trivial⟩
                case measure => simp only [intOf]; omega
          · have i3 : decide ((k : Int) < (s.size : Int)) = false := by simp; omega
            go_wp2
            go_ret
            refine ⟨?_, rfl⟩
            have g := HA.out
            rw [h1, ← bs_len, List.take_length] at g
            rw [HG.out, g]
            rfl
/-- an error by its number. -/
def errV (c : Int) : Value := if c = 0 then .nilIface else .iface 29 (.int .i64 c)

set_option maxRecDepth 100000 in
set_option maxHeartbeats 2000000 in
theorem number_calls (s : ByteArray) (most : Nat) (w : World) (hs : s.size ≤ 281474976710656) (hm : most < 18446744073709551616) :
    Calls Tryz.prog 80 #[.string s, .int .u64 (most : Int)] w fun e w' => e = .returned (.tuple #[.int .u64 (if numE (bs s) most = 0 then (val (bs s) : Int) else 0), errV (numE (bs s) most)]) ∧ w' = w := by
  have HN : Hid (Calls Tryz.prog 94 #[.string s] w fun e w' => e = .returned (.bool (isNum (bs s))) ∧ w' = w) := numeral_calls s w hs
  obtain ⟨R, hR⟩ : ∃ R : Int, (if numE (bs s) most = 0 then (val (bs s) : Int) else 0) = R := ⟨_, rfl⟩
  obtain ⟨E, hE0⟩ : ∃ E : Int, numE (bs s) most = E := ⟨_, rfl⟩
  have HRE : Hid ((if numE (bs s) most = 0 then (val (bs s) : Int) else 0) = R ∧ numE (bs s) most = E) := ⟨hR, hE0⟩
  rw [hR, hE0]
  clear hR hE0
  by_cases hnum : isNum (bs s) = true
  · rw [hnum] at HN
    have HD : Hid ((bs s).all dig = true) := by
      show _ = _
      unfold isNum at hnum
      simp only [Bool.and_eq_true] at hnum
      exact hnum.2
    have HE : Hid (numE (bs s) most = if most < val (bs s) then 1 else 0) := by show _ = _; unfold numE; rw [if_pos hnum]
    clear hnum
    go_enter Tryz.func80, Tryz.ntmps80
    go_wp2_with fail
    refine HN.out.mono ?_
    rintro e w' ⟨rfl, rfl⟩
    go_wp2_with fail
    go_loopw [6, 15] (fun nv iv wr => ∃ k : Nat, k ≤ s.size ∧ iv = .int .i64 k ∧ nv = .int .u64 (val ((bs s).take k) : Int) ∧ Hid (val ((bs s).take k) ≤ most) ∧ wr = w') (fun _ iv _ => s.size - (intOf iv).toNat)
    case atStart => exact ⟨0, Nat.zero_le _, rfl, rfl, Nat.zero_le _, rfl⟩
    case round =>
      obtain ⟨k, hk, rfl, rfl, HA, rfl⟩ := hrel
      rcases Nat.lt_or_eq_of_le hk with h1 | h1
      · have hb := bs_at s k h1
        obtain ⟨y, hy⟩ : ∃ y, s[k]'h1 = y := ⟨_, rfl⟩
        rw [hy] at hb
        have hdg : dig y = true := by have := List.all_eq_true.1 HD.out y (List.mem_of_getElem? hb); exact this
        unfold dig at hdg
        simp only [Bool.and_eq_true, decide_eq_true_eq] at hdg
        obtain ⟨d, hd⟩ : ∃ d, y.toNat = 48 + d := ⟨y.toNat - 48, by omega⟩
        have HV : Hid (val ((bs s).take (k + 1)) = val ((bs s).take k) * 10 + d ∧ val ((bs s).take (k + 1)) ≤ val (bs s)) := ⟨by rw [valF_step hb, hd]; omega, val_take _ _⟩
        obtain ⟨n, hn⟩ : ∃ n, val ((bs s).take k) = n := ⟨_, rfl⟩
        rw [hn] at HV HA
        rw [hn]
        have hnm : n ≤ most := HA.out
        have hd9 : d ≤ 9 := by omega
        have i1 : (0 : Int) ≤ (k : Int) := by omega
        have i2 : (k : Int) < (s.size : Int) := by omega
        have i3 : decide ((k : Int) < (s.size : Int)) = true := by simp; omega
        have w1 : IntKind.u8.wrap ((y.toNat : Int) - 48) = (d : Int) := by rw [IntKind.wrap_u8]; omega
        have w2 : IntKind.u64.wrap (d : Int) = (d : Int) := by rw [IntKind.wrap_u64]; omega
        clear hb hn hd hdg
        rcases (show most / 10 < n ∨ (n = most / 10 ∧ most % 10 < d) ∨ (n = most / 10 ∧ ¬ most % 10 < d) ∨ n < most / 10 by omega) with q | q | q | q
        · have c1 : decide ((n : Int) > (most : Int) / 10) = true := by simp; omega
          have HX : Hid (R = 0 ∧ E = 1) := by
            have e1 : numE (bs s) most = 1 := by rw [HE.out, if_pos (by have := HV.out; omega)]
            obtain ⟨r1, r2⟩ := HRE.out
            rw [e1] at r1 r2
            exact ⟨by rw [← r1]; rfl, r2.symm⟩
          go_wp2
          go_ret2
          exact ⟨by rw [HX.out.1, HX.out.2]; rfl, rfl⟩
        · have c1 : decide ((n : Int) > (most : Int) / 10) = false := by simp; omega
          have c2 : ((n : Int) == (most : Int) / 10) = true := by simp; omega
          have c3 : decide ((d : Int) > (most : Int) % 10) = true := by simp; omega
          have HX : Hid (R = 0 ∧ E = 1) := by
            have e1 : numE (bs s) most = 1 := by rw [HE.out, if_pos (by have := HV.out; omega)]
            obtain ⟨r1, r2⟩ := HRE.out
            rw [e1] at r1 r2
            exact ⟨by rw [← r1]; rfl, r2.symm⟩
          go_wp2
          go_ret2
          exact ⟨by rw [HX.out.1, HX.out.2]; rfl, rfl⟩
        · have c1 : decide ((n : Int) > (most : Int) / 10) = false := by simp; omega
          have c2 : ((n : Int) == (most : Int) / 10) = true := by simp; omega
          have c3 : decide ((d : Int) > (most : Int) % 10) = false := by simp; omega
          have m1 : IntKind.u64.wrap ((n : Int) * 10) = (n : Int) * 10 := by rw [IntKind.wrap_u64]; omega
          have m2 : IntKind.u64.wrap ((n : Int) * 10 + (d : Int)) = ((n * 10 + d : Nat) : Int) := by rw [IntKind.wrap_u64]; omega
          go_wp2_with fail
          go_roundw
          case rel => exact ⟨k + 1, by omega, by rw [show (k : Int) + 1 = ((k + 1 : Nat) : Int) by omega], by rw [HV.out.1]; exact congrArg (Value.int IntKind.u64) (by omega), by show _ ≤ _; rw [HV.out.1]; omega, trivial⟩
          case measure => simp only [intOf]; omega
        · have c1 : decide ((n : Int) > (most : Int) / 10) = false := by simp; omega
          have c2 : ((n : Int) == (most : Int) / 10) = false := beq_eq_false_iff_ne.2 (by omega)
          have m1 : IntKind.u64.wrap ((n : Int) * 10) = (n : Int) * 10 := by rw [IntKind.wrap_u64]; omega
          have m2 : IntKind.u64.wrap ((n : Int) * 10 + (d : Int)) = ((n * 10 + d : Nat) : Int) := by rw [IntKind.wrap_u64]; omega
          go_wp2_with fail
          go_roundw
          case rel => exact ⟨k + 1, by omega, by rw [show (k : Int) + 1 = ((k + 1 : Nat) : Int) by omega], by rw [HV.out.1]; exact congrArg (Value.int IntKind.u64) (by omega), by show _ ≤ _; rw [HV.out.1]; omega, trivial⟩
          case measure => simp only [intOf]; omega
      · have i3 : decide ((k : Int) < (s.size : Int)) = false := by simp; omega
        have HX : Hid (R = (val ((bs s).take k) : Int) ∧ E = 0) := by
          have g : val (bs s) ≤ most := by
            have := HA.out
            rw [h1, ← bs_len, List.take_length] at this
            exact this
          have e1 : numE (bs s) most = 0 := by rw [HE.out, if_neg (by omega)]
          obtain ⟨r1, r2⟩ := HRE.out
          rw [e1] at r1 r2
          exact ⟨by rw [← r1, h1, ← bs_len, List.take_length]; rfl, r2.symm⟩
        go_wp2
        go_ret2
        exact ⟨by rw [HX.out.1, HX.out.2]; rfl, rfl⟩
  · have hf : isNum (bs s) = false := by simpa using hnum
    rw [hf] at HN
    have HE : Hid (numE (bs s) most = 4) := by show _ = _; unfold numE; rw [if_neg (by rw [hf]; decide)]
    clear hf hnum
    go_enter Tryz.func80, Tryz.ntmps80
    go_wp2_with fail
    refine HN.out.mono ?_
    rintro e w' ⟨rfl, rfl⟩
    have HX : Hid (R = 0 ∧ E = 4) := by
      obtain ⟨r1, r2⟩ := HRE.out
      rw [HE.out] at r1 r2
      exact ⟨by rw [← r1]; rfl, r2.symm⟩
    go_wp2
    go_ret2
    exact ⟨by rw [HX.out.1, HX.out.2]; rfl, rfl⟩
end Go.Proofs.YthgmhhlgjooeaaaGreatDoor.Gt
