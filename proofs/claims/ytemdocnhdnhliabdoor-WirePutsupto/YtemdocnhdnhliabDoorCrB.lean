/- check sums: the turn of a word, by both texts; eight turns; the product. -/
import Derived.Test.YtemdocnhdnhliabDoorCrM
import Derived.WalkKit
import Derived.WalkSpells
import Derived.WalkLawsBesides
import Derived.OwnWalk
import Derived.Laws.BitsAll
namespace Go.Proofs.YtemdocnhdnhliabDoor
open Go.RowKit Go.Extern Cr

attribute [local go_sem] Oper.semAt_some

theorem T_odd {c : Nat} (h : c % 2 = 1) : T c = (c / 2) ^^^ 3988292384 := by
  unfold T P32
  rw [if_pos h, Nat.shiftRight_eq_div_pow]
theorem T_even {c : Nat} (h : c % 2 = 0) : T c = c / 2 := by
  unfold T
  rw [if_neg (by omega), Nat.shiftRight_eq_div_pow, Nat.xor_zero]
theorem and_one (c : Nat) (h : c < 4294967296) : bits .and .u32 (c : Int) 1 = ((c % 2 : Nat) : Int) := by
  rw [show (1 : Int) = ((1 : Nat) : Int) from rfl, u32_and_nat c 1 h (by omega), Nat.and_one_is_mod]
theorem xor_nat {a b : Nat} (ha : a < 4294967296) (hb : b < 4294967296) : bits .xor .u32 (a : Int) (b : Int) = ((a ^^^ b : Nat) : Int) := u32_xor_nat a b ha hb

set_option maxRecDepth 100000 in
set_option maxHeartbeats 2000000 in
theorem kTurn_calls (c : Nat) (h : c < 4294967296) (w : World) : Calls Tryd.prog 44 #[.int .u32 (c : Int)] w fun e w' => e = .returned (.int .u32 ((T c : Nat) : Int)) ∧ w' = w := by
  rcases Nat.mod_two_eq_zero_or_one c with hc | hc
  · rw [T_even hc]
    have e1 : (c : Int) % 2 = 0 := by omega
    go_enter Tryd.func44, Tryd.ntmps44
    go_wp2
    go_ret
    exact ⟨by rw [show (c : Int) / 2 = ((c / 2 : Nat) : Int) by omega]; rfl, rfl⟩
  · rw [T_odd hc]
    have e1 : (c : Int) % 2 = 1 := by omega
    have e3 : bits .xor .u32 ((c : Int) / 2) 3988292384 = (((c / 2) ^^^ 3988292384 : Nat) : Int) := by
      rw [show (c : Int) / 2 = ((c / 2 : Nat) : Int) by omega]
      exact xor_nat (a := c / 2) (b := 3988292384) (by omega) (by omega)
    go_enter Tryd.func44, Tryd.ntmps44
    go_wp2
    go_ret
    exact ⟨rfl, rfl⟩

set_option maxRecDepth 100000 in
set_option maxHeartbeats 2000000 in
theorem kZed_calls (c : Nat) (h : c < 4294967296) (w : World) : Calls Tryd.prog 40 #[.int .u32 (c : Int)] w fun e w' => e = .returned (.int .u32 ((Tn 8 c : Nat) : Int)) ∧ w' = w := by
  go_enter Tryd.func40, Tryd.ntmps40
  go_wp2_with fail
  go_loopw [0, 3] (fun cv nv wr => ∃ k : Nat, k ≤ 8 ∧ nv = .int .i64 k ∧ cv = .int .u32 ((Tn k c : Nat) : Int) ∧ wr = w) (fun _ nv _ => 8 - (intOf nv).toNat)
  case atStart => exact ⟨0, by omega, rfl, rfl, rfl⟩
  case round =>
    obtain ⟨k, hk, rfl, rfl, rfl⟩ := hrel
    have hlt := Tn_lt k (c := c) h
    by_cases hl : k < 8
    · have i1 : (k : Int) < 8 := by omega
      go_wp2_with (go_at_call 44; refine (kTurn_calls _ hlt _).mono ?_; rintro e w' ⟨rfl, rfl⟩)
      refine ⟨⟨k + 1, by omega, rfl, by rw [Tn_succ], by trivial⟩, by simp only [intOf]; omega⟩
    · obtain rfl : k = 8 := by omega
      go_wp2_with fail
      go_ret
      exact ⟨rfl, rfl⟩

end Go.Proofs.YtemdocnhdnhliabDoor
