/- check sums: the turn of a word, by both texts; eight turns; the product. -/
import Derived.Test.YtemdocnhdnhliacCrM
import Derived.WalkKit
import Derived.WalkSpells
import Derived.WalkLawsBesides
import Derived.OwnWalk
import Derived.Laws.BitsAll
namespace Go.Proofs.Ytemdocnhdnhliac
open Go.RowKit Go.Extern Cr

attribute [local go_sem] Oper.semAt_some

theorem T_odd {c : Nat} (h : c % 2 = 1) : T c = (c / 2) ^^^ 3988292384 := by
  unfold T P32
  rw [if_pos h, Nat.shiftRight_eq_div_pow]
theorem T_even {c : Nat} (h : c % 2 = 0) : T c = c / 2 := by
  unfold T
  rw [if_neg (by omega), Nat.shiftRight_eq_div_pow, Nat.xor_zero]
theorem and_one (c : Nat) (h : c < 4294967296) : bits .and .u32 (c : Int) 1 = ((c % 2 : Nat) : Int) := by
  rw [show (1 : Int) = ((1 : Nat) : Int) from rfl, u32_and_nat c 1 h (by omega), Nat.and_one_is_mod]
theorem xor_nat {a b : Nat} (ha : a < 4294967296) (hb : b < 4294967296) : bits .xor .u32 (a : Int) (b : Int) = ((a ^^^ b : Nat) : Int) := u32_xor_nat a b ha hb

end Go.Proofs.Ytemdocnhdnhliac
