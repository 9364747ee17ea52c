/- The law StampWraps, walked: however many Resets, over the end of the ages and on. -/
import Derived.Test.YtlgdhoemjllfdaaAwake
namespace Go.Proofs.Ytlgdhoemjllfdaa
open Go.RowKit

attribute [local go_sem] Oper.semAt_some

def e4 : List (Option Int) := List.replicate 4 none
theorem e4_cnt (m : Nat) (hm : m < 4) (v : Int) : cnt (e4.set m (some v)) = 1 := by
  rw [cnt_add e4 m v (by unfold e4; rw [List.getElem?_replicate, if_pos hm])]
  rfl

set_option maxRecDepth 100000 in
set_option maxHeartbeats 4000000 in
theorem wraps_calls (back resets v : Int) (hb0 : 0 ≤ back) (hb1 : back ≤ 255) (hr0 : 0 ≤ resets) (hr1 : resets ≤ 255) (w : World) : Calls Try.prog 4 #[.int .u8 back, .int .u8 resets, .int .u64 v] w fun e w' => e = .returned (.bool true) ∧ Below w.heap.size w w' := by
  have HAW : Hid (type_of% (awake_calls w)) := awake_calls w
  have HN : Hid (∀ wx, Calls Try.prog 7 #[.int .i64 4, .int .u32 (4294967295 - back)] wx fun e w' => e = .returned (.tuple #[.pointer (some ⟨wx.heap.size + 1, 0, none⟩), .nilIface]) ∧ IsStamp w' (wx.heap.size + 1) wx.heap.size 4 e4 ∧ Below wx.heap.size wx w') := fun wx => new_calls 4 (by omega) (4294967295 - back) (by omega) (by omega) wx
  have hw1 : IntKind.i64.wrap back = back := by rw [IntKind.wrap_i64]; omega
  have hw2 : IntKind.i64.wrap (4294967295 - back) = 4294967295 - back := by rw [IntKind.wrap_i64]; omega
  have hw3 : IntKind.u32.wrap (4294967295 - back) = 4294967295 - back := by rw [IntKind.wrap_u32]; omega
  have hw4 : IntKind.i64.wrap resets = resets := by rw [IntKind.wrap_i64]; omega
  go_enter Try.func4, Try.ntmps4
  go_wp2_with fail
  refine HAW.out.mono ?_
  rintro e w1 ⟨rfl, hb1'⟩
  have BW1 : Hid (Below w.heap.size w w1) := hb1'
  clear hb1'
  go_wp2_with fail
  refine (HN.out _).mono ?_
  rintro e w2 ⟨rfl, hI2, hb2⟩
  obtain ⟨pb, hpb⟩ : ∃ pb, w1.heap.size = pb := ⟨_, rfl⟩
  rw [hpb] at hI2 ⊢
  have PB : Hid (w.heap.size ≤ pb) := by rw [← hpb]; exact BW1.out.size
  have I2 : Hid (IsStamp w2 (pb + 1) pb 4 e4 ∧ Below w.heap.size w w2) := ⟨hI2, BW1.out.trans (hb2.mono BW1.out.size)⟩
  clear hpb hI2 hb2
  go_wp2_with fail
  obtain ⟨q, hq⟩ : ∃ q : Nat, resets = q := ⟨resets.toNat, by omega⟩
  have hq1 : q ≤ 255 := by omega
  subst hq
  clear hr0 hr1 hw1 hw2 hw3 hw4
  go_loopw [31] (fun iv wr => ∃ k : Nat, k ≤ q ∧ iv = .int .i64 k ∧ IsStamp wr (pb + 1) pb 4 e4 ∧ Below w.heap.size w wr) (fun iv _ => q - (intOf iv).toNat)
  case atStart => exact ⟨0, Nat.zero_le _, rfl, I2.out⟩
  case round =>
    obtain ⟨k, hk, rfl, hI, hB⟩ := hrel
    have HI : Hid (IsStamp wr (pb + 1) pb 4 e4 ∧ Below w.heap.size w wr) := ⟨hI, hB⟩
    clear hI hB
    by_cases hlt : k < q
    · have t1 : Int.tmod (k : Int) 4 = ((k % 4 : Nat) : Int) := by rw [Int.tmod_eq_emod_of_nonneg (by omega)]; omega
      have t2 : Int.tmod ((k : Int) + 1) 4 = (((k + 1) % 4 : Nat) : Int) := by rw [Int.tmod_eq_emod_of_nonneg (by omega)]; omega
      have hm : k % 4 < 4 := by omega
      have hm' : (k + 1) % 4 < 4 := by omega
      have hmm : (k + 1) % 4 ≠ k % 4 := by omega
      generalize k % 4 = m at *
      generalize (k + 1) % 4 = m' at *
      have S1 : Hid (Calls Try.prog 8 #[.pointer (some ⟨pb + 1, 0, none⟩), .int .i64 m, .int .u64 v] wr fun e w' => e = .returned .nilIface ∧ IsStamp w' (pb + 1) pb 4 (e4.set m (some v)) ∧ Fr (pb + 1) pb wr w') := set_calls HI.out.1 m hm v
      have b1 : (m : Int) ≤ 3 := by omega
      go_wp2_with fail
      refine S1.out.mono ?_
      rintro e w3 ⟨rfl, h3⟩
      have I3 : Hid (IsStamp w3 (pb + 1) pb 4 (e4.set m (some v)) ∧ Fr (pb + 1) pb wr w3) := h3
      clear h3
      have S2 : Hid (Calls Try.prog 13 #[.pointer (some ⟨pb + 1, 0, none⟩)] w3 fun e w' => e = .returned (.int .i64 1) ∧ w' = w3) := by
        have h := len_calls I3.out.1
        rw [e4_cnt m hm v] at h
        exact h
      go_wp2_with fail
      refine S2.out.mono ?_
      rintro e w3' ⟨rfl, h3⟩
      subst h3
      have S3 : Hid (Calls Try.prog 10 #[.pointer (some ⟨pb + 1, 0, none⟩), .int .i64 m] w3' fun e w' => e = .returned (.tuple #[.int .u64 v, .bool true]) ∧ Below w3'.heap.size w3' w') := get_in I3.out.1 m (some v) (set_same _ (by simpa [e4] using hm))
      go_wp2_with fail
      refine S3.out.mono ?_
      rintro e w4 ⟨rfl, h4⟩
      have I4 : Hid (IsStamp w4 (pb + 1) pb 4 (e4.set m (some v)) ∧ Fr (pb + 1) pb wr w4) := ⟨I3.out.1.below h4, I3.out.2.trans (Fr.of_below h4)⟩
      clear h4
      have S4 : Hid (Calls Try.prog 10 #[.pointer (some ⟨pb + 1, 0, none⟩), .int .i64 m'] w4 fun e w' => e = .returned (.tuple #[.int .u64 0, .bool false]) ∧ Below w4.heap.size w4 w') := get_in I4.out.1 m' none (by rw [set_other _ hmm]; unfold e4; rw [List.getElem?_replicate, if_pos hm'])
      go_wp2_with fail
      refine S4.out.mono ?_
      rintro e w5 ⟨rfl, h5⟩
      have I5 : Hid (IsStamp w5 (pb + 1) pb 4 (e4.set m (some v)) ∧ Fr (pb + 1) pb wr w5) := ⟨I4.out.1.below h5, I4.out.2.trans (Fr.of_below h5)⟩
      clear h5
      have S5 : Hid (Calls Try.prog 9 #[.pointer (some ⟨pb + 1, 0, none⟩)] w5 fun e w' => e = .returned (.tuple #[]) ∧ IsStamp w' (pb + 1) pb 4 e4 ∧ Fr (pb + 1) pb w5 w') := reset_calls I5.out.1
      go_wp2_with fail
      refine S5.out.mono ?_
      rintro e w6 ⟨rfl, h6⟩
      have I6 : Hid (IsStamp w6 (pb + 1) pb 4 e4 ∧ Fr (pb + 1) pb wr w6) := ⟨h6.1, I5.out.2.trans h6.2⟩
      clear h6
      have S6 : Hid (Calls Try.prog 13 #[.pointer (some ⟨pb + 1, 0, none⟩)] w6 fun e w' => e = .returned (.int .i64 0) ∧ w' = w6) := len_calls I6.out.1
      go_wp2_with fail
      refine S6.out.mono ?_
      rintro e w6' ⟨rfl, h6⟩
      subst h6
      have S7 : Hid (Calls Try.prog 12 #[.pointer (some ⟨pb + 1, 0, none⟩)] w6' fun e w' => ∃ so sc, e = .returned (.slice so 0 sc) ∧ Below w6'.heap.size w6' w') := by
        refine (all_calls I6.out.1).mono ?_
        rintro e w' ⟨sv, rfl, hr, hb⟩
        obtain ⟨so, sc, rfl⟩ := row_slice hr
        exact ⟨so, sc, rfl, hb⟩
      go_wp2_with fail
      refine S7.out.mono ?_
      rintro e w7 ⟨so, sc, rfl, h7⟩
      have I7 : Hid (IsStamp w7 (pb + 1) pb 4 e4 ∧ Below w.heap.size w w7) := ⟨I6.out.1.below h7, HI.out.2.trans ((I6.out.2.trans (Fr.of_below h7)).below HI.out.2.size (by have := PB.out; omega) PB.out)⟩
      clear h7 S1 S2 S3 S4 S5 S6 S7 I3 I4 I5 I6
      go_wp2_with fail
      go_loopw [81] (fun iv wr => ∃ j : Nat, j ≤ 4 ∧ iv = .int .i64 j ∧ IsStamp wr (pb + 1) pb 4 e4 ∧ Below w.heap.size w wr) (fun iv _ => 4 - (intOf iv).toNat)
      case atStart => exact ⟨0, Nat.zero_le _, rfl, I7.out⟩
      case round =>
        obtain ⟨j, hj, rfl, hI, hB⟩ := hrel
        have HJ : Hid (IsStamp wr (pb + 1) pb 4 e4 ∧ Below w.heap.size w wr) := ⟨hI, hB⟩
        clear hI hB
        by_cases hj4 : j < 4
        · have S8 : Hid (Calls Try.prog 10 #[.pointer (some ⟨pb + 1, 0, none⟩), .int .i64 j] wr fun e w' => e = .returned (.tuple #[.int .u64 0, .bool false]) ∧ Below wr.heap.size wr w') := get_in HJ.out.1 j none (by unfold e4; rw [List.getElem?_replicate, if_pos hj4])
          have b2 : (j : Int) < 4 := by omega
          go_wp2_with fail
          refine S8.out.mono ?_
          rintro e w8 ⟨rfl, h8⟩
          have I8 : Hid (IsStamp w8 (pb + 1) pb 4 e4 ∧ Below w.heap.size w w8) := ⟨HJ.out.1.below h8, HJ.out.2.trans (h8.mono HJ.out.2.size)⟩
          clear h8
          go_wp2
          go_roundw
          case rel => exact ⟨j + 1, by omega, by go_num, I8.out⟩
          case measure => simp [intOf]; omega
        · obtain rfl : j = 4 := by omega
          go_wp2
          exact ⟨⟨k + 1, by omega, by go_num, HJ.out⟩, by simp [intOf]; omega⟩
    · obtain rfl : k = q := by omega
      go_wp2
      go_ret
      exact ⟨rfl, HI.out.2⟩
end Go.Proofs.Ytlgdhoemjllfdaa
