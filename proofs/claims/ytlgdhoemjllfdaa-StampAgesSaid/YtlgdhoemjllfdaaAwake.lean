/- The law's first question: the ages wrap round, and what was set is forgotten. -/
import Derived.Test.YtlgdhoemjllfdaaAll
namespace Go.Proofs.Ytlgdhoemjllfdaa
open Go.RowKit

attribute [local go_sem] Oper.semAt_some

def a0 : List (Option Int) := List.replicate 3 none
def a1 : List (Option Int) := a0.set 1 (some 7)
def a3 : List (Option Int) := a0.set 2 (some 0)

set_option maxRecDepth 100000 in
set_option maxHeartbeats 4000000 in
theorem awake_calls (w : World) : Calls Try.prog 6 #[] w fun e w' => e = .returned (.bool true) ∧ Below w.heap.size w w' := by
  have HN : Hid (∀ wx, Calls Try.prog 7 #[.int .i64 3, .int .u32 4294967295] wx fun e w' => e = .returned (.tuple #[.pointer (some ⟨wx.heap.size + 1, 0, none⟩), .nilIface]) ∧ IsStamp w' (wx.heap.size + 1) wx.heap.size 3 a0 ∧ Below wx.heap.size wx w') := fun wx => new_calls 3 (by omega) 4294967295 (by omega) (by omega) wx
  go_enter Try.func6, Try.ntmps6
  go_wp2_with fail
  refine (HN.out _).mono ?_
  rintro e w1 ⟨rfl, hI1, hb1⟩
  obtain ⟨pb, hpb⟩ : ∃ pb, w.heap.size = pb := ⟨_, rfl⟩
  rw [hpb] at hI1 ⊢
  have PB : Hid (w.heap.size = pb) := hpb
  have I1 : Hid (IsStamp w1 (pb + 1) pb 3 a0 ∧ Below w.heap.size w w1) := ⟨hI1, hb1⟩
  clear hpb hI1 hb1
  have S1 : Hid (Calls Try.prog 8 #[.pointer (some ⟨pb + 1, 0, none⟩), .int .i64 1, .int .u64 7] w1 fun e w' => e = .returned .nilIface ∧ IsStamp w' (pb + 1) pb 3 a1 ∧ Fr (pb + 1) pb w1 w') := set_calls I1.out.1 1 (by omega) 7
  go_wp2_with fail
  refine S1.out.mono ?_
  rintro e w2 ⟨rfl, h2⟩
  have I2 : Hid (IsStamp w2 (pb + 1) pb 3 a1 ∧ Fr (pb + 1) pb w1 w2) := h2
  clear h2
  have S2 : Hid (Calls Try.prog 10 #[.pointer (some ⟨pb + 1, 0, none⟩), .int .i64 1] w2 fun e w' => e = .returned (.tuple #[.int .u64 7, .bool true]) ∧ Below w2.heap.size w2 w') := get_in I2.out.1 1 (some 7) rfl
  go_wp2_with fail
  refine S2.out.mono ?_
  rintro e w3 ⟨rfl, h3⟩
  have I3 : Hid (IsStamp w3 (pb + 1) pb 3 a1 ∧ Fr (pb + 1) pb w1 w3) := ⟨I2.out.1.below h3, I2.out.2.trans (Fr.of_below h3)⟩
  clear h3
  have S3 : Hid (Calls Try.prog 9 #[.pointer (some ⟨pb + 1, 0, none⟩)] w3 fun e w' => e = .returned (.tuple #[]) ∧ IsStamp w' (pb + 1) pb 3 a0 ∧ Fr (pb + 1) pb w3 w') := reset_calls I3.out.1
  go_wp2_with fail
  refine S3.out.mono ?_
  rintro e w4 ⟨rfl, h4⟩
  have I4 : Hid (IsStamp w4 (pb + 1) pb 3 a0 ∧ Fr (pb + 1) pb w1 w4) := ⟨h4.1, I3.out.2.trans h4.2⟩
  clear h4
  have S4 : Hid (Calls Try.prog 10 #[.pointer (some ⟨pb + 1, 0, none⟩), .int .i64 1] w4 fun e w' => e = .returned (.tuple #[.int .u64 0, .bool false]) ∧ Below w4.heap.size w4 w') := get_in I4.out.1 1 none rfl
  go_wp2_with fail
  refine S4.out.mono ?_
  rintro e w5 ⟨rfl, h5⟩
  have I5 : Hid (IsStamp w5 (pb + 1) pb 3 a0 ∧ Fr (pb + 1) pb w1 w5) := ⟨I4.out.1.below h5, I4.out.2.trans (Fr.of_below h5)⟩
  clear h5
  have S5 : Hid (Calls Try.prog 8 #[.pointer (some ⟨pb + 1, 0, none⟩), .int .i64 2, .int .u64 0] w5 fun e w' => e = .returned .nilIface ∧ IsStamp w' (pb + 1) pb 3 a3 ∧ Fr (pb + 1) pb w5 w') := set_calls I5.out.1 2 (by omega) 0
  go_wp2_with fail
  refine S5.out.mono ?_
  rintro e w6 ⟨rfl, h6⟩
  have I6 : Hid (IsStamp w6 (pb + 1) pb 3 a3 ∧ Fr (pb + 1) pb w1 w6) := ⟨h6.1, I5.out.2.trans h6.2⟩
  clear h6
  have S6 : Hid (Calls Try.prog 10 #[.pointer (some ⟨pb + 1, 0, none⟩), .int .i64 2] w6 fun e w' => e = .returned (.tuple #[.int .u64 0, .bool true]) ∧ Below w6.heap.size w6 w') := get_in I6.out.1 2 (some 0) rfl
  go_wp2_with fail
  refine S6.out.mono ?_
  rintro e w7 ⟨rfl, h7⟩
  have I7 : Hid (IsStamp w7 (pb + 1) pb 3 a3 ∧ Fr (pb + 1) pb w1 w7) := ⟨I6.out.1.below h7, I6.out.2.trans (Fr.of_below h7)⟩
  clear h7
  have S7 : Hid (Calls Try.prog 13 #[.pointer (some ⟨pb + 1, 0, none⟩)] w7 fun e w' => e = .returned (.int .i64 1) ∧ w' = w7) := len_calls I7.out.1
  go_wp2_with fail
  refine S7.out.mono ?_
  rintro e w8 ⟨rfl, h8⟩
  subst h8
  go_wp2
  go_ret
  exact ⟨rfl, I1.out.2.trans (I7.out.2.below I1.out.2.size (by have := PB.out; omega) (by have := PB.out; omega))⟩
end Go.Proofs.Ytlgdhoemjllfdaa
