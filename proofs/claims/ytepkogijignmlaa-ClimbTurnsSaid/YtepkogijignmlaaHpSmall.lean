/- less, place, Len, Key, Top, New: what they answer. -/
import Derived.Test.YtepkogijignmlaaHpMem
import Derived.Deep.RegionHeld3
import Derived.Deep.RegionWith
import Derived.Deep.QuietTactic
import Derived.BigQuiet
namespace Go.Proofs.Ytepkogijignmlaa.Hp
open Go.RowKit

attribute [local go_sem] Oper.semAt_some

/-- by keys, alike ones by ids. -/
def ltB (x y : Th) : Bool := decide (ltT x y)
theorem ltB_true {x y : Th} (h : ltT x y) : ltB x y = true := decide_eq_true h
theorem ltB_false {x y : Th} (h : ¬ ltT x y) : ltB x y = false := decide_eq_false h

set_option maxHeartbeats 1000000 in
theorem less_calls (a b c d : Int) (w : World) : Calls Try.prog 80 #[.agg #[.int .u64 a, .int .u32 b], .agg #[.int .u64 c, .int .u32 d]] w fun e w' => e = .returned (.bool (ltB (a, b) (c, d))) ∧ Below w.heap.size w w' := by
  have HB : Hid (Below w.heap.size w ((w.alloc (.cells #[.int .u64 a, .int .u32 b] 145)).alloc (.cells #[.int .u64 c, .int .u32 d] 145))) := ((Below.refl _ w).alloc (Nat.le_refl _) _).alloc (by simp) _
  rcases (show a < c ∨ (¬ a < c ∧ a = c ∧ b < d) ∨ (¬ a < c ∧ a = c ∧ ¬ b < d) ∨ (¬ a < c ∧ ¬ a = c) by omega) with h | ⟨h, rfl, h2⟩ | ⟨h, rfl, h2⟩ | ⟨h, h1⟩
  · rw [ltB_true (Or.inl h)]
    go_enter Try.func80, Try.ntmps80
    go_wp2
    go_ret
    exact ⟨rfl, HB.out⟩
  · rw [ltB_true (show ltT (a, b) (a, d) from Or.inr ⟨rfl, h2⟩)]
    go_enter Try.func80, Try.ntmps80
    go_wp2
    go_ret
    exact ⟨rfl, HB.out⟩
  · rw [ltB_false (by unfold ltT; simp only; omega)]
    go_enter Try.func80, Try.ntmps80
    go_wp2
    go_ret
    exact ⟨rfl, HB.out⟩
  · rw [ltB_false (by unfold ltT; simp only; omega)]
    go_enter Try.func80, Try.ntmps80
    go_wp2
    go_ret
    exact ⟨rfl, HB.out⟩

section
variable {hb wb n : Nat} {sv : Value} {ps : List Th} {wh : List Int} {w : World}

set_option maxHeartbeats 1000000 in
/-- place of a thing that isn't one. -/
theorem place_far (h : Mem w hb wb n sv ps wh) (d : Nat) (hd : n ≤ d) (hm : d ≤ 4294967295) : Calls Try.prog 76 #[.pointer (some ⟨hb, 0, none⟩), .int .u32 d] w fun e w' => e = .returned (.tuple #[.int .i64 0, .bool false]) ∧ w' = w := by
  obtain ⟨c0, c1, _, _⟩ := h.cells
  have hd' : (n : Int) ≤ (d : Int) := by omega
  have hd0 : (0 : Int) ≤ (d : Int) := by omega
  have hbig := h.big
  clear h
  go_enter Try.func76, Try.ntmps76
  go_wp2
  go_ret2
  exact ⟨rfl, rfl⟩

set_option maxHeartbeats 1000000 in
/-- place of a thing that isn't in. -/
theorem place_out (h : Mem w hb wb n sv ps wh) (d : Nat) (hd : wh[d]? = some 0) : Calls Try.prog 76 #[.pointer (some ⟨hb, 0, none⟩), .int .u32 d] w fun e w' => e = .returned (.tuple #[.int .i64 0, .bool false]) ∧ w' = w := by
  obtain ⟨c0, c1, _, _⟩ := h.cells
  obtain ⟨c2, _⟩ := h.where_ hd
  have hlt := (List.getElem?_eq_some_iff.1 hd).1
  have hbig := h.big
  have hd' : (d : Int) < (n : Int) := by have := h.len; omega
  have hd0 : (0 : Int) ≤ (d : Int) := by omega
  clear h
  go_enter Try.func76, Try.ntmps76
  go_wp2
  go_ret2
  exact ⟨rfl, rfl⟩

set_option maxHeartbeats 1000000 in
/-- place of a thing that is in. -/
theorem place_in (h : Mem w hb wb n sv ps wh) (d k : Nat) (hd : wh[d]? = some ((k : Int) + 1)) (hk : k ≤ 65536) : Calls Try.prog 76 #[.pointer (some ⟨hb, 0, none⟩), .int .u32 d] w fun e w' => e = .returned (.tuple #[.int .i64 k, .bool true]) ∧ w' = w := by
  obtain ⟨c0, c1, _, _⟩ := h.cells
  obtain ⟨c2, _⟩ := h.where_ hd
  have hlt := (List.getElem?_eq_some_iff.1 hd).1
  have hbig := h.big
  have hd' : (d : Int) < (n : Int) := by have := h.len; omega
  have hd0 : (0 : Int) ≤ (d : Int) := by omega
  have hne : ((k : Int) + 1 == 0) = false := by simp; omega
  clear h
  go_enter Try.func76, Try.ntmps76
  go_wp2
  go_ret2
  exact ⟨rfl, rfl⟩

set_option maxHeartbeats 1000000 in
theorem len_calls (h : Mem w hb wb n sv ps wh) : Calls Try.prog 75 #[.pointer (some ⟨hb, 0, none⟩)] w fun e w' => e = .returned (.int .i64 ps.length) ∧ w' = w := by
  obtain ⟨c0, c1, _, _⟩ := h.cells
  obtain ⟨so, cap, rfl, _, _⟩ := h.shape
  clear h
  go_enter Try.func75, Try.ntmps75
  go_wp2
  go_ret
  exact ⟨rfl, rfl⟩
end
end Go.Proofs.Ytepkogijignmlaa.Hp
