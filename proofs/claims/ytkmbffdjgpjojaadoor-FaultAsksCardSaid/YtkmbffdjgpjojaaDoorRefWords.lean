/- ref01.Words: what a number says, by the reference's own switch. -/
import Derived.Test.YtkmbffdjgpjojaaDoorWords
import Derived.Test.YtkmbffdjgpjojaaDoorTextW
namespace Go.Proofs.YtkmbffdjgpjojaaDoor
open Go.RowKit Go.Extern

theorem more_11 (w : World) : Calls Tryd.prog 51 #[.int .i64 11] w fun e w' => e = .returned (.string ⟨(numText 11).toArray⟩) ∧ w' = w := by
  go_enter Tryd.func51, Tryd.ntmps51
  go_wp2
  go_ret
  exact ⟨rfl, rfl⟩
theorem more_12 (w : World) : Calls Tryd.prog 51 #[.int .i64 12] w fun e w' => e = .returned (.string ⟨(numText 12).toArray⟩) ∧ w' = w := by
  go_enter Tryd.func51, Tryd.ntmps51
  go_wp2
  go_ret
  exact ⟨rfl, rfl⟩
theorem more_13 (w : World) : Calls Tryd.prog 51 #[.int .i64 13] w fun e w' => e = .returned (.string ⟨(numText 13).toArray⟩) ∧ w' = w := by
  go_enter Tryd.func51, Tryd.ntmps51
  go_wp2
  go_ret
  exact ⟨rfl, rfl⟩
theorem more_14 (w : World) : Calls Tryd.prog 51 #[.int .i64 14] w fun e w' => e = .returned (.string ⟨(numText 14).toArray⟩) ∧ w' = w := by
  go_enter Tryd.func51, Tryd.ntmps51
  go_wp2
  go_ret
  exact ⟨rfl, rfl⟩
theorem more_15 (w : World) : Calls Tryd.prog 51 #[.int .i64 15] w fun e w' => e = .returned (.string ⟨(numText 15).toArray⟩) ∧ w' = w := by
  go_enter Tryd.func51, Tryd.ntmps51
  go_wp2
  go_ret
  exact ⟨rfl, rfl⟩
theorem more_16 (w : World) : Calls Tryd.prog 51 #[.int .i64 16] w fun e w' => e = .returned (.string ⟨(numText 16).toArray⟩) ∧ w' = w := by
  go_enter Tryd.func51, Tryd.ntmps51
  go_wp2
  go_ret
  exact ⟨rfl, rfl⟩
theorem more_17 (w : World) : Calls Tryd.prog 51 #[.int .i64 17] w fun e w' => e = .returned (.string ⟨(numText 17).toArray⟩) ∧ w' = w := by
  go_enter Tryd.func51, Tryd.ntmps51
  go_wp2
  go_ret
  exact ⟨rfl, rfl⟩
theorem more_18 (w : World) : Calls Tryd.prog 51 #[.int .i64 18] w fun e w' => e = .returned (.string ⟨(numText 18).toArray⟩) ∧ w' = w := by
  go_enter Tryd.func51, Tryd.ntmps51
  go_wp2
  go_ret
  exact ⟨rfl, rfl⟩
theorem more_19 (w : World) : Calls Tryd.prog 51 #[.int .i64 19] w fun e w' => e = .returned (.string ⟨(numText 19).toArray⟩) ∧ w' = w := by
  go_enter Tryd.func51, Tryd.ntmps51
  go_wp2
  go_ret
  exact ⟨rfl, rfl⟩
theorem more_20 (w : World) : Calls Tryd.prog 51 #[.int .i64 20] w fun e w' => e = .returned (.string ⟨(numText 20).toArray⟩) ∧ w' = w := by
  go_enter Tryd.func51, Tryd.ntmps51
  go_wp2
  go_ret
  exact ⟨rfl, rfl⟩
theorem words_1 (w : World) : Calls Tryd.prog 41 #[.int .i64 1] w fun e w' => e = .returned (.string ⟨(numText 1).toArray⟩) ∧ w' = w := by
  go_enter Tryd.func41, Tryd.ntmps41
  go_wp2
  go_ret
  exact ⟨rfl, rfl⟩
theorem words_2 (w : World) : Calls Tryd.prog 41 #[.int .i64 2] w fun e w' => e = .returned (.string ⟨(numText 2).toArray⟩) ∧ w' = w := by
  go_enter Tryd.func41, Tryd.ntmps41
  go_wp2
  go_ret
  exact ⟨rfl, rfl⟩
theorem words_3 (w : World) : Calls Tryd.prog 41 #[.int .i64 3] w fun e w' => e = .returned (.string ⟨(numText 3).toArray⟩) ∧ w' = w := by
  go_enter Tryd.func41, Tryd.ntmps41
  go_wp2
  go_ret
  exact ⟨rfl, rfl⟩
theorem words_4 (w : World) : Calls Tryd.prog 41 #[.int .i64 4] w fun e w' => e = .returned (.string ⟨(numText 4).toArray⟩) ∧ w' = w := by
  go_enter Tryd.func41, Tryd.ntmps41
  go_wp2
  go_ret
  exact ⟨rfl, rfl⟩
theorem words_5 (w : World) : Calls Tryd.prog 41 #[.int .i64 5] w fun e w' => e = .returned (.string ⟨(numText 5).toArray⟩) ∧ w' = w := by
  go_enter Tryd.func41, Tryd.ntmps41
  go_wp2
  go_ret
  exact ⟨rfl, rfl⟩
theorem words_6 (w : World) : Calls Tryd.prog 41 #[.int .i64 6] w fun e w' => e = .returned (.string ⟨(numText 6).toArray⟩) ∧ w' = w := by
  go_enter Tryd.func41, Tryd.ntmps41
  go_wp2
  go_ret
  exact ⟨rfl, rfl⟩
theorem words_7 (w : World) : Calls Tryd.prog 41 #[.int .i64 7] w fun e w' => e = .returned (.string ⟨(numText 7).toArray⟩) ∧ w' = w := by
  go_enter Tryd.func41, Tryd.ntmps41
  go_wp2
  go_ret
  exact ⟨rfl, rfl⟩
theorem words_8 (w : World) : Calls Tryd.prog 41 #[.int .i64 8] w fun e w' => e = .returned (.string ⟨(numText 8).toArray⟩) ∧ w' = w := by
  go_enter Tryd.func41, Tryd.ntmps41
  go_wp2
  go_ret
  exact ⟨rfl, rfl⟩
theorem words_9 (w : World) : Calls Tryd.prog 41 #[.int .i64 9] w fun e w' => e = .returned (.string ⟨(numText 9).toArray⟩) ∧ w' = w := by
  go_enter Tryd.func41, Tryd.ntmps41
  go_wp2
  go_ret
  exact ⟨rfl, rfl⟩
theorem words_10 (w : World) : Calls Tryd.prog 41 #[.int .i64 10] w fun e w' => e = .returned (.string ⟨(numText 10).toArray⟩) ∧ w' = w := by
  go_enter Tryd.func41, Tryd.ntmps41
  go_wp2
  go_ret
  exact ⟨rfl, rfl⟩
set_option maxHeartbeats 1000000 in
theorem more_far (n : Int) (hn : n < 1 ∨ 20 < n) (h : in64 n) (w : World) (hp : HasPow w) : Calls Tryd.prog 51 #[.int .i64 n] w fun e w' => e = .returned (.string ⟨(numText n).toArray⟩) ∧ Below w.heap.size w w' := by
  have HIT : Hid (Calls Tryd.prog 38 #[.int .i64 n] w fun e w' => e = .returned (.string ⟨(Lib.itoa n).toArray⟩) ∧ Below w.heap.size w w') := itoa_calls n h.1 h.2 w hp
  have hil : ¬ 9223372036854775807 < 6 + (ByteArray.mk (Lib.itoa n).toArray).size := by
    have := Lib.itoa_length_le n h.1 h.2
    show ¬ 9223372036854775807 < 6 + (Lib.itoa n).length
    omega
  have HS : Hid (ByteArray.mk #[101, 114, 114, 111, 114, 32] ++ ByteArray.mk (Lib.itoa n).toArray = ⟨(numText n).toArray⟩) := by
    show _ = _
    rw [show (#[101, 114, 114, 111, 114, 32] : Array UInt8) = [101, 114, 114, 111, 114, 32].toArray from rfl, ByteArray.mk_append_mk, numText, if_neg (by omega)]
  generalize ByteArray.mk (Lib.itoa n).toArray = I at HIT hil HS
  generalize ByteArray.mk (numText n).toArray = R at HS
  have e11 : (n == 11) = false := beq_eq_false_iff_ne.2 (by omega)
  have e12 : (n == 12) = false := beq_eq_false_iff_ne.2 (by omega)
  have e13 : (n == 13) = false := beq_eq_false_iff_ne.2 (by omega)
  have e14 : (n == 14) = false := beq_eq_false_iff_ne.2 (by omega)
  have e15 : (n == 15) = false := beq_eq_false_iff_ne.2 (by omega)
  have e16 : (n == 16) = false := beq_eq_false_iff_ne.2 (by omega)
  have e17 : (n == 17) = false := beq_eq_false_iff_ne.2 (by omega)
  have e18 : (n == 18) = false := beq_eq_false_iff_ne.2 (by omega)
  have e19 : (n == 19) = false := beq_eq_false_iff_ne.2 (by omega)
  have e20 : (n == 20) = false := beq_eq_false_iff_ne.2 (by omega)
  clear hn
  go_enter Tryd.func51, Tryd.ntmps51
  go_wp2_with (go_at_call 38; refine HIT.out.mono ?_; rintro e w' ⟨rfl, hb⟩)
  go_ret
  refine ⟨?_, hb⟩
  show Ending.returned (.string (ByteArray.mk #[101, 114, 114, 111, 114, 32] ++ I)) = _
  rw [HS.out]
set_option maxHeartbeats 1000000 in
theorem words_far (n : Int) (hn : n < 1 ∨ 10 < n) (w : World) (R : ByteArray) (hin : Calls Tryd.prog 51 #[.int .i64 n] w fun e w' => e = .returned (.string R) ∧ Below w.heap.size w w') : Calls Tryd.prog 41 #[.int .i64 n] w fun e w' => e = .returned (.string R) ∧ Below w.heap.size w w' := by
  have HIN : Hid (Calls Tryd.prog 51 #[.int .i64 n] w fun e w' => e = .returned (.string R) ∧ Below w.heap.size w w') := hin
  clear hin
  have e1 : (n == 1) = false := beq_eq_false_iff_ne.2 (by omega)
  have e2 : (n == 2) = false := beq_eq_false_iff_ne.2 (by omega)
  have e3 : (n == 3) = false := beq_eq_false_iff_ne.2 (by omega)
  have e4 : (n == 4) = false := beq_eq_false_iff_ne.2 (by omega)
  have e5 : (n == 5) = false := beq_eq_false_iff_ne.2 (by omega)
  have e6 : (n == 6) = false := beq_eq_false_iff_ne.2 (by omega)
  have e7 : (n == 7) = false := beq_eq_false_iff_ne.2 (by omega)
  have e8 : (n == 8) = false := beq_eq_false_iff_ne.2 (by omega)
  have e9 : (n == 9) = false := beq_eq_false_iff_ne.2 (by omega)
  have e10 : (n == 10) = false := beq_eq_false_iff_ne.2 (by omega)
  clear hn
  go_enter Tryd.func41, Tryd.ntmps41
  go_wp2_with (go_at_call 51; refine HIN.out.mono ?_; rintro e w' ⟨rfl, hb⟩)
  go_ret
  exact ⟨rfl, hb⟩
theorem still {f : Nat} {args : Array Value} {w : World} {v : Value} (h : Calls Tryd.prog f args w fun e w' => e = .returned v ∧ w' = w) : Calls Tryd.prog f args w fun e w' => e = .returned v ∧ Below w.heap.size w w' := by
  refine h.mono ?_
  rintro e w' ⟨rfl, rfl⟩
  exact ⟨rfl, Below.refl _ _⟩
/-- ref01.Words, whatever the number. -/
theorem words_calls (n : Int) (h : in64 n) (w : World) (hp : HasPow w) : Calls Tryd.prog 41 #[.int .i64 n] w fun e w' => e = .returned (.string ⟨(numText n).toArray⟩) ∧ Below w.heap.size w w' := by
  by_cases h1 : n = 1
  · subst h1; exact still (words_1 w)
  by_cases h2 : n = 2
  · subst h2; exact still (words_2 w)
  by_cases h3 : n = 3
  · subst h3; exact still (words_3 w)
  by_cases h4 : n = 4
  · subst h4; exact still (words_4 w)
  by_cases h5 : n = 5
  · subst h5; exact still (words_5 w)
  by_cases h6 : n = 6
  · subst h6; exact still (words_6 w)
  by_cases h7 : n = 7
  · subst h7; exact still (words_7 w)
  by_cases h8 : n = 8
  · subst h8; exact still (words_8 w)
  by_cases h9 : n = 9
  · subst h9; exact still (words_9 w)
  by_cases h10 : n = 10
  · subst h10; exact still (words_10 w)
  by_cases h11 : n = 11
  · subst h11; exact words_far 11 (by omega) w _ (still (more_11 w))
  by_cases h12 : n = 12
  · subst h12; exact words_far 12 (by omega) w _ (still (more_12 w))
  by_cases h13 : n = 13
  · subst h13; exact words_far 13 (by omega) w _ (still (more_13 w))
  by_cases h14 : n = 14
  · subst h14; exact words_far 14 (by omega) w _ (still (more_14 w))
  by_cases h15 : n = 15
  · subst h15; exact words_far 15 (by omega) w _ (still (more_15 w))
  by_cases h16 : n = 16
  · subst h16; exact words_far 16 (by omega) w _ (still (more_16 w))
  by_cases h17 : n = 17
  · subst h17; exact words_far 17 (by omega) w _ (still (more_17 w))
  by_cases h18 : n = 18
  · subst h18; exact words_far 18 (by omega) w _ (still (more_18 w))
  by_cases h19 : n = 19
  · subst h19; exact words_far 19 (by omega) w _ (still (more_19 w))
  by_cases h20 : n = 20
  · subst h20; exact words_far 20 (by omega) w _ (still (more_20 w))
  exact words_far n (by omega) w _ (more_far n (by omega) h w hp)
end Go.Proofs.YtkmbffdjgpjojaaDoor
