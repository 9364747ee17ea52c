/- heap.Push, whose keys are the things' own numbers. -/
import Derived.Test.YtepkogijignmlabHpA
namespace Go.Proofs.Ytepkogijignmlab.Hp
open Go.RowKit Go.Extern

attribute [local go_sem] Oper.semAt_some
section
variable {w : World} {hb wb n : Nat} {sv : Value} {f : Int → Option Int}

set_option maxHeartbeats 1000000 in
theorem key_out (h : IsHeap w hb wb n sv f) (d : Nat) (hd : d < n) (hf : f d = none) : Calls Try.prog 51 #[.pointer (some ⟨hb, 0, none⟩), .int .u32 d] w fun e w' => e = .returned (.tuple #[.int .u64 0, .bool false]) ∧ w' = w := by
  obtain ⟨ps, wh, hM, hH⟩ := h
  have h0 : wh[d]? = some 0 := by
    rcases hH.back d (by rw [hM.len]; exact hd) with ⟨h0, _⟩ | ⟨i, y, _, _, _, h1⟩
    · exact h0
    · rw [hf] at h1; cases h1
  have HP : Hid (Calls Try.prog 54 #[.pointer (some ⟨hb, 0, none⟩), .int .u32 d] w fun e w' => e = .returned (.tuple #[.int .i64 0, .bool false]) ∧ w' = w) := place_out hM d h0
  clear hM hH h0
  go_enter Try.func51, Try.ntmps51
  go_wp2_with fail
  refine HP.out.mono ?_
  rintro e w1 ⟨rfl, hw1⟩
  subst hw1
  go_wp2
  go_ret2
  exact ⟨rfl, rfl⟩

set_option maxHeartbeats 1000000 in
theorem key_in (h : IsHeap w hb wb n sv f) (d : Nat) (hd : d < n) (k : Int) (hf : f d = some k) : Calls Try.prog 51 #[.pointer (some ⟨hb, 0, none⟩), .int .u32 d] w fun e w' => e = .returned (.tuple #[.int .u64 k, .bool true]) ∧ w' = w := by
  obtain ⟨ps, wh, hM, hH⟩ := h
  have hlen := hM.len
  have hbig := hM.big
  obtain ⟨i, y, h0, hy, _, hk⟩ : ∃ (i : Nat) (y : Th), wh[d]? = some ((i : Int) + 1) ∧ ps[i]? = some y ∧ y.2 = d ∧ f d = some y.1 := by
    rcases hH.back d (by omega) with ⟨_, h1⟩ | h1
    · rw [hf] at h1; cases h1
    · exact h1
  have hil := (List.getElem?_eq_some_iff.1 hy).1
  have hfew := hH.few
  obtain ⟨yk, yd⟩ := y
  obtain rfl : k = yk := by rw [hf] at hk; exact Option.some.inj hk
  have HP : Hid (Calls Try.prog 54 #[.pointer (some ⟨hb, 0, none⟩), .int .u32 d] w fun e w' => e = .returned (.tuple #[.int .i64 i, .bool true]) ∧ w' = w) := place_in hM d i h0 (by omega)
  obtain ⟨c0, c1, _, _⟩ := hM.cells
  obtain ⟨g, cap, e, hc1, hc2, hgl, _, _, q0, q1, _, _⟩ := hM.thing hy
  subst e
  have b1 : (0 : Int) ≤ (i : Int) := by omega
  have b2 : (i : Int) < (ps.length : Int) := by omega
  unfold maxLen at hc2
  clear hM hH h0 hy hk hf hfew
  go_enter Try.func51, Try.ntmps51
  go_wp2_with fail
  refine HP.out.mono ?_
  rintro e w1 ⟨rfl, hw1⟩
  subst hw1
  go_wp2
  go_ret2
  exact ⟨rfl, rfl⟩


set_option maxHeartbeats 1000000 in
theorem push_out (h : IsHeap w hb wb n sv f) (d : Nat) (hd : d < n) (k : Int) (hf : f d = none) : Calls Try.prog 46 #[.pointer (some ⟨hb, 0, none⟩), .int .u32 d, .int .u64 k] w fun e w' => e = .returned .nilIface ∧ ∃ sv', IsHeap w' hb wb n sv' (upd f d (some k)) ∧ Fr hb wb sv sv' w w' := by
  have HK : Hid (type_of% (key_out h d hd hf)) := key_out h d hd hf
  have HS : Hid (type_of% (set_calls h d hd k)) := set_calls h d hd k
  clear h hf
  go_enter Try.func46, Try.ntmps46
  go_wp2_with fail
  refine HK.out.mono ?_
  rintro e w1 ⟨rfl, hw1⟩
  subst hw1
  go_wp2_with fail
  refine HS.out.mono ?_
  rintro e w2 ⟨rfl, hS⟩
  have HS2 : Hid _ := hS
  clear hS
  go_wp2
  go_ret
  exact ⟨rfl, HS2.out⟩

set_option maxHeartbeats 1000000 in
theorem push_in (h : IsHeap w hb wb n sv f) (d : Nat) (hd : d < n) (k k0 : Int) (hf : f d = some k0) : Calls Try.prog 46 #[.pointer (some ⟨hb, 0, none⟩), .int .u32 d, .int .u64 k] w fun e w' => e = .returned .nilIface ∧ ∃ sv', IsHeap w' hb wb n sv' (upd f d (some (if k0 < k then k0 else k))) ∧ Fr hb wb sv sv' w w' := by
  have HK : Hid (type_of% (key_in h d hd k0 hf)) := key_in h d hd k0 hf
  by_cases hlt : k0 < k
  · rw [if_pos hlt]
    have HS : Hid (type_of% (set_calls h d hd k0)) := set_calls h d hd k0
    clear h hf
    go_enter Try.func46, Try.ntmps46
    go_wp2_with fail
    refine HK.out.mono ?_
    rintro e w1 ⟨rfl, hw1⟩
    subst hw1
    go_wp2_with fail
    refine HS.out.mono ?_
    rintro e w2 ⟨rfl, hS⟩
    have HS2 : Hid _ := hS
    clear hS
    go_wp2
    go_ret
    exact ⟨rfl, HS2.out⟩
  · rw [if_neg hlt]
    have HS : Hid (type_of% (set_calls h d hd k)) := set_calls h d hd k
    clear h hf
    go_enter Try.func46, Try.ntmps46
    go_wp2_with fail
    refine HK.out.mono ?_
    rintro e w1 ⟨rfl, hw1⟩
    subst hw1
    go_wp2_with fail
    refine HS.out.mono ?_
    rintro e w2 ⟨rfl, hS⟩
    have HS2 : Hid _ := hS
    clear hS
    go_wp2
    go_ret
    exact ⟨rfl, HS2.out⟩
/-- a thing under its own number, whether it is in or not. -/
theorem push_own (h : IsHeap w hb wb n sv f) (d : Nat) (hd : d < n) (hf : f d = none ∨ f d = some (d : Int)) : Calls Try.prog 46 #[.pointer (some ⟨hb, 0, none⟩), .int .u32 d, .int .u64 d] w fun e w' => e = .returned .nilIface ∧ ∃ sv', IsHeap w' hb wb n sv' (upd f d (some (d : Int))) ∧ Fr hb wb sv sv' w w' := by
  rcases hf with hf | hf
  · exact push_out h d hd d hf
  · have g := push_in h d hd d d hf
    rw [if_neg (Int.lt_irrefl _)] at g
    exact g
end
end Go.Proofs.Ytepkogijignmlab.Hp
