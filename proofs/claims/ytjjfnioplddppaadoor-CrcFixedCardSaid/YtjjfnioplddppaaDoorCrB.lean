/- check sums: the turn of a word, by both texts; eight turns; the product. -/
import Derived.Test.YtjjfnioplddppaaDoorCrM
import Derived.WalkKit
import Derived.WalkSpells
import Derived.WalkLawsBesides
import Derived.OwnWalk
import Derived.Laws.BitsAll
namespace Go.Proofs.YtjjfnioplddppaaDoor
open Go.RowKit Go.Extern Cr

attribute [local go_sem] Oper.semAt_some

theorem T_odd {c : Nat} (h : c % 2 = 1) : T c = (c / 2) ^^^ 3988292384 := by
  unfold T P32
  rw [if_pos h, Nat.shiftRight_eq_div_pow]
theorem T_even {c : Nat} (h : c % 2 = 0) : T c = c / 2 := by
  unfold T
  rw [if_neg (by omega), Nat.shiftRight_eq_div_pow, Nat.xor_zero]
theorem and_one (c : Nat) (h : c < 4294967296) : bits .and .u32 (c : Int) 1 = ((c % 2 : Nat) : Int) := by
  rw [show (1 : Int) = ((1 : Nat) : Int) from rfl, u32_and_nat c 1 h (by omega), Nat.and_one_is_mod]
theorem xor_nat {a b : Nat} (ha : a < 4294967296) (hb : b < 4294967296) : bits .xor .u32 (a : Int) (b : Int) = ((a ^^^ b : Nat) : Int) := u32_xor_nat a b ha hb

set_option maxRecDepth 100000 in
set_option maxHeartbeats 2000000 in
theorem cTurn_calls (c : Nat) (h : c < 4294967296) (w : World) : Calls Tryd.prog 12 #[.int .u32 (c : Int)] w fun e w' => e = .returned (.int .u32 ((T c : Nat) : Int)) ∧ w' = w := by
  have e1 := and_one c h
  rcases Nat.mod_two_eq_zero_or_one c with hc | hc
  · rw [hc] at e1
    rw [T_even hc]
    go_enter Tryd.func12, Tryd.ntmps12
    go_wp2
    go_ret
    exact ⟨by rw [show (c : Int) / 2 = ((c / 2 : Nat) : Int) by omega]; rfl, rfl⟩
  · rw [hc] at e1
    rw [T_odd hc]
    have e3 : bits .xor .u32 ((c : Int) / 2) 3988292384 = (((c / 2) ^^^ 3988292384 : Nat) : Int) := by
      rw [show (c : Int) / 2 = ((c / 2 : Nat) : Int) by omega]
      exact xor_nat (a := c / 2) (b := 3988292384) (by omega) (by omega)
    go_enter Tryd.func12, Tryd.ntmps12
    go_wp2
    go_ret
    exact ⟨rfl, rfl⟩

set_option maxRecDepth 100000 in
set_option maxHeartbeats 2000000 in
theorem cTimes_calls (a b : Nat) (ha : a < 4294967296) (hb : b < 4294967296) (w : World) : Calls Tryd.prog 11 #[.int .u32 (a : Int), .int .u32 (b : Int)] w fun e w' => e = .returned (.int .u32 ((timesN 32 a b : Nat) : Int)) ∧ w' = w := by
  go_enter Tryd.func11, Tryd.ntmps11
  go_wp2_with fail
  go_loopw [0, 1, 5] (fun av bv pv wr => ∃ x y p : Nat, av = .int .u32 (x : Int) ∧ bv = .int .u32 (y : Int) ∧ pv = .int .u32 (p : Int) ∧ x < 4294967296 ∧ y < 4294967296 ∧ p < 4294967296 ∧ p ^^^ timesN 32 x y = timesN 32 a b ∧ wr = w) (fun av _ _ _ => cz 32 (intOf av).toNat)
  case atStart => exact ⟨a, b, 0, rfl, rfl, rfl, ha, hb, by omega, by rw [Nat.zero_xor], rfl⟩
  case round =>
    obtain ⟨x, y, p, rfl, rfl, rfl, hx, hy, hp, hT, rfl⟩ := hrel
    by_cases h0 : x = 0
    · subst h0
      rw [timesN_zero, Nat.xor_zero] at hT
      go_wp2_with fail
      go_ret
      exact ⟨by rw [hT]; rfl, rfl⟩
    · have n0 : ¬ (x : Int) = 0 := by omega
      have hy' := T_lt hy
      by_cases hm : 2147483648 ≤ x
      · have i1 : (x : Int) / 2147483648 = 1 := by omega
        have e3 : bits .xor .u32 (p : Int) (y : Int) = ((p ^^^ y : Nat) : Int) := xor_nat hp hy
        go_wp2_with (go_at_call 12; refine (cTurn_calls _ hy _).mono ?_; rintro e w' ⟨rfl, rfl⟩)
        have ex : (x : Int) * 2 % 4294967296 = ((x * 2 % 4294967296 : Nat) : Int) := by omega
        rw [ex]
        refine ⟨⟨x * 2 % 4294967296, T y, p ^^^ y, rfl, rfl, rfl, by omega, hy', Nat.xor_lt_two_pow (n := 32) hp hy, ?_, by trivial⟩, cz_less hx h0⟩
        rw [← hT, times_step hx y, if_pos hm, Nat.xor_assoc]
      · have i1 : (x : Int) / 2147483648 = 0 := by omega
        go_wp2_with (go_at_call 12; refine (cTurn_calls _ hy _).mono ?_; rintro e w' ⟨rfl, rfl⟩)
        have ex : (x : Int) * 2 = ((x * 2 % 4294967296 : Nat) : Int) := by omega
        rw [ex]
        refine ⟨⟨x * 2 % 4294967296, T y, p, rfl, rfl, rfl, by omega, hy', hp, ?_, by trivial⟩, cz_less hx h0⟩
        rw [← hT, times_step hx y, if_neg hm, Nat.zero_xor]
end Go.Proofs.YtjjfnioplddppaaDoor
