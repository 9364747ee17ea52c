/- The heap's calls at what isn't there: no such thing, nothing in, no heap. -/
import Derived.Test.YtkeniogcjhmikaaDoorPop
namespace Go.Proofs.YtkeniogcjhmikaaDoor
open Go.RowKit

attribute [local go_sem] Oper.semAt_some

section
variable {w : World} {hb wb n : Nat} {sv : Value} {f : Int → Option Int}

set_option maxHeartbeats 1000000 in
theorem key_far (h : IsHeap w hb wb n sv f) (d : Nat) (hd : n ≤ d) (hm : d ≤ 4294967295) : Calls Tryd.prog 15 #[.pointer (some ⟨hb, 0, none⟩), .int .u32 d] w fun e w' => e = .returned (.tuple #[.int .u64 0, .bool false]) ∧ w' = w := by
  obtain ⟨ps, wh, hM, hH⟩ := h
  have HP : Hid (type_of% (place_far hM d hd hm)) := place_far hM d hd hm
  clear hM hH
  go_enter Tryd.func15, Tryd.ntmps15
  go_wp2_with fail
  refine HP.out.mono ?_
  rintro e w1 ⟨rfl, hw1⟩
  subst hw1
  go_wp2
  go_ret2
  exact ⟨rfl, rfl⟩

set_option maxHeartbeats 1000000 in
theorem set_far (h : IsHeap w hb wb n sv f) (d : Nat) (hd : n ≤ d) (hm : d ≤ 4294967295) (k : Int) : Calls Tryd.prog 14 #[.pointer (some ⟨hb, 0, none⟩), .int .u32 d, .int .u64 k] w fun e w' => e = .returned (.iface 55 (.int .i64 7)) ∧ w' = w := by
  obtain ⟨ps, wh, hM, hH⟩ := h
  obtain ⟨c0, c1, _, _⟩ := hM.cells
  have hd' : (n : Int) ≤ (d : Int) := by omega
  have hd0 : (0 : Int) ≤ (d : Int) := by omega
  have hbig := hM.big
  clear hM hH
  go_enter Tryd.func14, Tryd.ntmps14
  go_wp2
  go_ret
  exact ⟨rfl, rfl⟩

set_option maxHeartbeats 1000000 in
theorem push_far (h : IsHeap w hb wb n sv f) (d : Nat) (hd : n ≤ d) (hm : d ≤ 4294967295) (k : Int) : Calls Tryd.prog 17 #[.pointer (some ⟨hb, 0, none⟩), .int .u32 d, .int .u64 k] w fun e w' => e = .returned (.iface 55 (.int .i64 7)) ∧ w' = w := by
  have HK : Hid (type_of% (key_far h d hd hm)) := key_far h d hd hm
  have HS : Hid (type_of% (set_far h d hd hm k)) := set_far h d hd hm k
  clear h
  go_enter Tryd.func17, Tryd.ntmps17
  go_wp2_with fail
  refine HK.out.mono ?_
  rintro e w1 ⟨rfl, hw1⟩
  subst hw1
  go_wp2_with fail
  refine HS.out.mono ?_
  rintro e w2 ⟨rfl, hw2⟩
  subst hw2
  go_wp2
  go_ret
  exact ⟨rfl, rfl⟩

set_option maxHeartbeats 1000000 in
theorem remove_far (h : IsHeap w hb wb n sv f) (d : Nat) (hd : n ≤ d) (hm : d ≤ 4294967295) : Calls Tryd.prog 16 #[.pointer (some ⟨hb, 0, none⟩), .int .u32 d] w fun e w' => e = .returned (.bool false) ∧ w' = w := by
  obtain ⟨ps, wh, hM, hH⟩ := h
  have HP : Hid (type_of% (place_far hM d hd hm)) := place_far hM d hd hm
  clear hM hH
  go_enter Tryd.func16, Tryd.ntmps16
  go_wp2_with fail
  refine HP.out.mono ?_
  rintro e w1 ⟨rfl, hw1⟩
  subst hw1
  go_wp2
  go_ret
  exact ⟨rfl, rfl⟩

set_option maxHeartbeats 1000000 in
theorem remove_out (h : IsHeap w hb wb n sv f) (d : Nat) (hd : d < n) (hf : f d = none) : Calls Tryd.prog 16 #[.pointer (some ⟨hb, 0, none⟩), .int .u32 d] w fun e w' => e = .returned (.bool false) ∧ w' = w := by
  obtain ⟨ps, wh, hM, hH⟩ := h
  have h0 : wh[d]? = some 0 := by
    rcases hH.back d (by rw [hM.len]; exact hd) with ⟨h0, _⟩ | ⟨i, y, _, _, _, h1⟩
    · exact h0
    · rw [hf] at h1; cases h1
  have HP : Hid (type_of% (place_out hM d h0)) := place_out hM d h0
  clear hM hH h0
  go_enter Tryd.func16, Tryd.ntmps16
  go_wp2_with fail
  refine HP.out.mono ?_
  rintro e w1 ⟨rfl, hw1⟩
  subst hw1
  go_wp2
  go_ret
  exact ⟨rfl, rfl⟩
end

set_option maxHeartbeats 1000000 in
theorem new_bad (n : Int) (hn : n < 0 ∨ 65536 < n) (w : World) : Calls Tryd.prog 7 #[.int .i64 n] w fun e w' => e = .returned (.tuple #[.pointer none, .iface 55 (.int .i64 1)]) ∧ w' = w := by
  rcases (show n < 0 ∨ (¬ n < 0 ∧ 65536 < n) by omega) with h | ⟨h, h2⟩
  · go_enter Tryd.func7, Tryd.ntmps7
    go_wp2
    go_ret2
    exact ⟨rfl, rfl⟩
  · go_enter Tryd.func7, Tryd.ntmps7
    go_wp2
    go_ret2
    exact ⟨rfl, rfl⟩

theorem place_nil (d : Int) (w : World) : Calls Tryd.prog 26 #[.pointer none, .int .u32 d] w fun e w' => e = .returned (.tuple #[.int .i64 0, .bool false]) ∧ w' = w := by
  go_enter Tryd.func26, Tryd.ntmps26
  go_wp2
  go_ret2
  exact ⟨rfl, rfl⟩
theorem len_nil (w : World) : Calls Tryd.prog 21 #[.pointer none] w fun e w' => e = .returned (.int .i64 0) ∧ w' = w := by
  go_enter Tryd.func21, Tryd.ntmps21
  go_wp2
  go_ret
  exact ⟨rfl, rfl⟩
theorem clear_nil (w : World) : Calls Tryd.prog 13 #[.pointer none] w fun e w' => e = .returned (.tuple #[]) ∧ w' = w := by
  go_enter Tryd.func13, Tryd.ntmps13
  go_wp2
  exact bodyPost_ret (v := .tuple #[]) (by simp [results, Tryd.results13]) rfl ⟨rfl, rfl⟩
theorem set_nil (d k : Int) (w : World) : Calls Tryd.prog 14 #[.pointer none, .int .u32 d, .int .u64 k] w fun e w' => e = .returned (.iface 55 (.int .i64 19)) ∧ w' = w := by
  go_enter Tryd.func14, Tryd.ntmps14
  go_wp2
  go_ret
  exact ⟨rfl, rfl⟩
theorem key_nil (d : Int) (w : World) : Calls Tryd.prog 15 #[.pointer none, .int .u32 d] w fun e w' => e = .returned (.tuple #[.int .u64 0, .bool false]) ∧ w' = w := by
  go_enter Tryd.func15, Tryd.ntmps15
  go_wp2_with fail
  refine (place_nil _ _).mono ?_
  rintro e w1 ⟨rfl, hw1⟩
  subst hw1
  go_wp2
  go_ret2
  exact ⟨rfl, rfl⟩
theorem remove_nil (d : Int) (w : World) : Calls Tryd.prog 16 #[.pointer none, .int .u32 d] w fun e w' => e = .returned (.bool false) ∧ w' = w := by
  go_enter Tryd.func16, Tryd.ntmps16
  go_wp2_with fail
  refine (place_nil _ _).mono ?_
  rintro e w1 ⟨rfl, hw1⟩
  subst hw1
  go_wp2
  go_ret
  exact ⟨rfl, rfl⟩
theorem push_nil (d k : Int) (w : World) : Calls Tryd.prog 17 #[.pointer none, .int .u32 d, .int .u64 k] w fun e w' => e = .returned (.iface 55 (.int .i64 19)) ∧ w' = w := by
  go_enter Tryd.func17, Tryd.ntmps17
  go_wp2_with fail
  refine (key_nil _ _).mono ?_
  rintro e w1 ⟨rfl, hw1⟩
  subst hw1
  go_wp2_with fail
  refine (set_nil _ _ _).mono ?_
  rintro e w2 ⟨rfl, hw2⟩
  subst hw2
  go_wp2
  go_ret
  exact ⟨rfl, rfl⟩
theorem top_nil (w : World) : Calls Tryd.prog 20 #[.pointer none] w fun e w' => e = .returned (.tuple #[.int .u32 0, .int .u64 0, .bool false]) ∧ w' = w := by
  go_enter Tryd.func20, Tryd.ntmps20
  go_wp2_with fail
  refine (len_nil _).mono ?_
  rintro e w1 ⟨rfl, hw1⟩
  subst hw1
  go_wp2
  go_ret3
  exact ⟨rfl, rfl⟩
theorem pop_nil (w : World) : Calls Tryd.prog 19 #[.pointer none] w fun e w' => e = .returned (.tuple #[.int .u32 0, .int .u64 0, .bool false]) ∧ w' = w := by
  go_enter Tryd.func19, Tryd.ntmps19
  go_wp2_with fail
  refine (top_nil _).mono ?_
  rintro e w1 ⟨rfl, hw1⟩
  subst hw1
  go_wp2
  go_ret3
  exact ⟨rfl, rfl⟩
end Go.Proofs.YtkeniogcjhmikaaDoor
