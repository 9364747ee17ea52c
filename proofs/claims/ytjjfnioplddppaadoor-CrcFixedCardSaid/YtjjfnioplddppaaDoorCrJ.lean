/- check sums: Join, by both texts. -/
import Derived.Test.YtjjfnioplddppaaDoorCrC
namespace Go.Proofs.YtjjfnioplddppaaDoor
open Go.RowKit Go.Extern Cr

attribute [local go_sem] Oper.semAt_some u32_signed u32_max

theorem and_one64 (n : Nat) (h : n < 9223372036854775808) : bits .and .i64 (n : Int) 1 = ((n % 2 : Nat) : Int) := by
  show IntKind.i64.wrap ((BitVec.ofInt 64 (n : Int) &&& BitVec.ofInt 64 1).toNat : Int) = _
  have e1 : BitVec.ofInt 64 (1 : Int) = BitVec.ofNat 64 1 := by decide
  rw [BitVec.ofInt_natCast, e1, BitVec.toNat_and, BitVec.toNat_ofNat, BitVec.toNat_ofNat, Nat.mod_eq_of_lt (by omega), Nat.mod_eq_of_lt (by omega), Nat.and_one_is_mod]
  rcases Nat.mod_two_eq_zero_or_one n with h | h <;> rw [h] <;> decide

set_option maxRecDepth 100000 in
set_option maxHeartbeats 800000 in
theorem cJoin_calls (a b : Nat) (ha : a < 4294967296) (hb : b < 4294967296) (n : Nat) (hn : n < 9223372036854775808) (w : World) :
    Calls Tryd.prog 9 #[.int .u32 (a : Int), .int .u32 (b : Int), .int .i64 (n : Int)] w fun e w' => e = .returned (.int .u32 ((joinN a b n : Nat) : Int)) ∧ w' = w := by
  go_enter Tryd.func9, Tryd.ntmps9
  go_wp2_with fail
  go_loopw [0, 2, 7] (fun av nv pv wr => ∃ x k p m : Nat, av = .int .u32 (x : Int) ∧ nv = .int .i64 (k : Int) ∧ pv = .int .u32 (p : Int) ∧ x < 4294967296 ∧ p < 4294967296 ∧ k < 9223372036854775808 ∧ p = Tn m 2147483648 ∧ Tn (m * k) x = Tn (8 * n) a ∧ wr = w) (fun _ nv _ _ => (intOf nv).toNat)
  case atStart => exact ⟨a, n, 8388608, 8, rfl, rfl, rfl, ha, by omega, hn, toEight.symm, rfl, rfl⟩
  case round =>
    obtain ⟨x, k, p, m, rfl, rfl, rfl, hx, hp, hk, hpm, hT, rfl⟩ := hrel
    have hpl := hp
    by_cases h0 : k = 0
    · subst h0
      have HX' : Hid (x = Tn (8 * n) a) := (by rw [← hT, Nat.mul_zero, Tn_nought] : x = Tn (8 * n) a)
      have e1 := xor_nat hx hb
      clear hT hpm
      go_wp2_with fail
      go_ret
      refine ⟨?_, rfl⟩
      unfold joinN
      rw [← HX'.out]
      rfl
    · have i1 : (k : Int) > 0 := by omega
      have e1 := and_one64 k hk
      have hP : timesN 32 p p = Tn (m + m) 2147483648 := by
        have h1 : timesN 32 p (Tn m 2147483648) = Tn m p := times_turn hp
        rw [← hpm] at h1
        rw [h1, Tn_add, ← hpm]
      have hX : timesN 32 x p = Tn m x := by
        have h1 : timesN 32 x (Tn m 2147483648) = Tn m x := times_turn hx
        rwa [← hpm] at h1
      have HP : Hid (timesN 32 p p = Tn (m + m) 2147483648) := hP
      have HX : Hid (timesN 32 x p = Tn m x) := hX
      have HT : Hid (Tn (m * k) x = Tn (8 * n) a) := hT
      clear hP hX hT hpm
      have hxp := times_lt 32 (a := x) hp
      have hpp := times_lt 32 (a := p) hp
      rcases Nat.mod_two_eq_zero_or_one k with h2 | h2
      · rw [h2] at e1
        have ep := cTimes_calls p p hp hp wr
        generalize timesN 32 p p = pp at ep HP hpp
        go_wp2_with (go_at_call 11; refine ep.mono ?_; rintro e w' ⟨rfl, rfl⟩)
        refine ⟨⟨x, k / 2, pp, m + m, rfl, by rw [show (k : Int) / 2 = ((k / 2 : Nat) : Int) by omega], rfl, hx, hpp, by omega, HP.out, ?_, by trivial⟩, by simp only [intOf]; omega⟩
        rw [← HT.out]
        congr 1
        have e2 : k = 2 * (k / 2) := by omega
        conv => rhs; rw [e2]
        rw [← Nat.mul_assoc, Nat.mul_two]
      · rw [h2] at e1
        have ex := cTimes_calls x p hx hp wr
        have ep := cTimes_calls p p hp hp wr
        generalize timesN 32 x p = xp at ex HX hxp
        generalize timesN 32 p p = pp at ep HP hpp
        go_wp2_with (go_at_call 11; first | (with_reducible refine ex.mono ?_; rintro e w' ⟨rfl, rfl⟩) | (refine ep.mono ?_; rintro e w' ⟨rfl, rfl⟩))
        refine ⟨⟨xp, k / 2, pp, m + m, rfl, by rw [show (k : Int) / 2 = ((k / 2 : Nat) : Int) by omega], rfl, hxp, hpp, by omega, HP.out, ?_, by trivial⟩, by simp only [intOf]; omega⟩
        rw [← HT.out, HX.out, ← Tn_add]
        congr 1
        have e2 : k = 1 + 2 * (k / 2) := by omega
        conv => rhs; rw [e2]
        rw [Nat.mul_add, Nat.mul_one, ← Nat.mul_assoc, Nat.mul_two]

set_option maxRecDepth 100000 in
set_option maxHeartbeats 800000 in
theorem cJoin_neg (a b : Nat) (ha : a < 4294967296) (hb : b < 4294967296) (n : Int) (hn : n < 0) (w : World) :
    Calls Tryd.prog 9 #[.int .u32 (a : Int), .int .u32 (b : Int), .int .i64 n] w fun e w' => e = .returned (.int .u32 ((a ^^^ b : Nat) : Int)) ∧ w' = w := by
  have e1 := xor_nat ha hb
  go_enter Tryd.func9, Tryd.ntmps9
  go_wp2_with fail
  go_loopw [0, 2] (fun av nv wr => av = .int .u32 (a : Int) ∧ nv = .int .i64 n ∧ wr = w) (fun _ _ _ => 0)
  case atStart => exact ⟨rfl, rfl, rfl⟩
  case round =>
    obtain ⟨rfl, rfl, rfl⟩ := hrel
    go_wp2_with fail
    go_ret
    exact ⟨rfl, rfl⟩

end Go.Proofs.YtjjfnioplddppaaDoor
