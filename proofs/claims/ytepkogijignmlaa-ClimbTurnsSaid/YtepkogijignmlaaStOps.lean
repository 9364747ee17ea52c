/- isPlace, holds, Len, Get, New: what they answer. -/
import Derived.Test.YtepkogijignmlaaStMem
namespace Go.Proofs.Ytepkogijignmlaa.St
open Go.RowKit

attribute [local go_sem] Oper.semAt_some

theorem below_draws {B : Nat} {a w : World} (h : Below B a w) (q : Nat) : Below B a (w.drewN q) := ⟨h.os, h.tape, h.output, h.size, h.block⟩
theorem pair_cells {w : World} {b : Nat} {c0 c1 : Value} {T : TypeId} (h : w.heap[b]? = some (.cells #[c0, c1] T)) : w.cell? ⟨b, 0, none⟩ = some c0 ∧ w.cell? ⟨b, 1, none⟩ = some c1 := by simp [World.cell?, h]

section
variable {w : World} {sb pb n held : Nat} {age : Int} {ps : List Pl}

set_option maxHeartbeats 1000000 in
theorem isPlace_in (h : Mem w sb pb n age held ps) (i : Nat) (hi : i < n) : Calls Try.prog 70 #[.pointer (some ⟨sb, 0, none⟩), .int .i64 i] w fun e w' => e = .returned (.bool true) ∧ w' = w := by
  obtain ⟨c0, c1, c2, _, _, _⟩ := h.cells
  have b0 : (0 : Int) ≤ (i : Int) := by omega
  have b1 : (i : Int) < (n : Int) := by omega
  clear h
  go_enter Try.func70, Try.ntmps70
  go_wp2
  go_ret
  exact ⟨rfl, rfl⟩

set_option maxHeartbeats 1000000 in
theorem isPlace_out (h : Mem w sb pb n age held ps) (i : Int) (hi : i < 0 ∨ (n : Int) ≤ i) : Calls Try.prog 70 #[.pointer (some ⟨sb, 0, none⟩), .int .i64 i] w fun e w' => e = .returned (.bool false) ∧ w' = w := by
  obtain ⟨c0, c1, c2, _, _, _⟩ := h.cells
  clear h
  rcases (show i < 0 ∨ (0 ≤ i ∧ (n : Int) ≤ i) by omega) with hi | ⟨hi, hj⟩
  · go_enter Try.func70, Try.ntmps70
    go_wp2
    go_ret
    exact ⟨rfl, rfl⟩
  · have e1 : decide (i < (n : Int)) = false := decide_eq_false (by omega)
    go_enter Try.func70, Try.ntmps70
    go_wp2
    go_ret
    exact ⟨rfl, rfl⟩

theorem isPlace_nil (i : Int) (w : World) : Calls Try.prog 70 #[.pointer none, .int .i64 i] w fun e w' => e = .returned (.bool false) ∧ w' = w := by
  go_enter Try.func70, Try.ntmps70
  go_wp2
  go_ret
  exact ⟨rfl, rfl⟩

set_option maxHeartbeats 1000000 in
theorem holds_calls (h : Mem w sb pb n age held ps) {i : Nat} {p : Pl} (hi : ps[i]? = some p) : Calls Try.prog 71 #[.pointer (some ⟨sb, 0, none⟩), .int .i64 i] w fun e w' => e = .returned (.bool (seenP age p).isSome) ∧ Below w.heap.size w w' := by
  obtain ⟨c0, c1, c2, _, _, _⟩ := h.cells
  obtain ⟨p0, p1, p2, _, _, _⟩ := h.place hi
  have hlt := (List.getElem?_eq_some_iff.1 hi).1
  have b0 : (0 : Int) ≤ (i : Int) := by omega
  have b1 : (i : Int) < (n : Int) := by have := h.len; omega
  obtain ⟨x, a, b⟩ := p
  clear h hlt hi
  cases b with
  | false =>
    have e0 : (seenP age (x, a, false)).isSome = false := by simp [seenP]
    rw [e0]
    go_enter Try.func71, Try.ntmps71
    go_wp2_with fail
    go_quiet (fail)
    go_wp2
    go_ret
    exact ⟨rfl, below_draws (Below.refl _ _) _⟩
  | true =>
    by_cases ha : a = age
    · subst ha
      have e0 : (seenP a (x, a, true)).isSome = true := by simp [seenP]
      rw [e0]
      go_enter Try.func71, Try.ntmps71
      go_wp2_with fail
      go_quiet (fail)
      go_wp2
      go_ret
      exact ⟨rfl, below_draws (Below.refl _ _) _⟩
    · have e0 : (seenP age (x, a, true)).isSome = false := by simp [seenP, ha]
      rw [e0]
      have e1 : (a == age) = false := by simpa using ha
      go_enter Try.func71, Try.ntmps71
      go_wp2_with fail
      go_quiet (fail)
      go_wp2
      go_ret
      exact ⟨rfl, below_draws (Below.refl _ _) _⟩
end

section
variable {w : World} {sb pb n : Nat} {vs : List (Option Int)}
set_option maxHeartbeats 1000000 in
theorem get_far (h : IsStamp w sb pb n vs) (i : Int) (hi : i < 0 ∨ (n : Int) ≤ i) : Calls Try.prog 56 #[.pointer (some ⟨sb, 0, none⟩), .int .i64 i] w fun e w' => e = .returned (.tuple #[.int .u64 0, .bool false]) ∧ w' = w := by
  obtain ⟨age, held, ps, hM, _⟩ := h
  have HP : Hid (type_of% (isPlace_out hM i hi)) := isPlace_out hM i hi
  clear hM
  go_enter Try.func56, Try.ntmps56
  go_wp2_with fail
  refine HP.out.mono ?_
  rintro e w1 ⟨rfl, hw1⟩
  subst hw1
  go_wp2
  go_ret2
  exact ⟨rfl, rfl⟩

/-- what Get answers of a place. -/
def gotV : Option Int → Value
  | some x => .tuple #[.int .u64 x, .bool true]
  | none => .tuple #[.int .u64 0, .bool false]

set_option maxHeartbeats 1000000 in
theorem get_in (h : IsStamp w sb pb n vs) (i : Nat) (o : Option Int) (hi : vs[i]? = some o) : Calls Try.prog 56 #[.pointer (some ⟨sb, 0, none⟩), .int .i64 i] w fun e w' => e = .returned (gotV o) ∧ Below w.heap.size w w' := by
  obtain ⟨age, held, ps, hM, _, _, rfl, _, _⟩ := h
  rw [List.getElem?_map] at hi
  obtain ⟨p, hp, rfl⟩ := Option.map_eq_some_iff.1 hi
  have hlt : i < n := by have := (List.getElem?_eq_some_iff.1 hp).1; have := hM.len; omega
  have HP : Hid (type_of% (isPlace_in hM i hlt)) := isPlace_in hM i hlt
  have HH : Hid (type_of% (holds_calls hM hp)) := holds_calls hM hp
  have HK : Hid (∀ wx, Below w.heap.size w wx → wx.cell? ⟨sb, 0, none⟩ = some (.slice (some ⟨pb, 0, none⟩) n n) ∧ wx.cell? ⟨sb, 1, none⟩ = some (.int .u32 age) ∧ wx.cell? ⟨sb, 2, none⟩ = some (.int .i64 held) ∧ wx.cell? ⟨pb, i * 3, none⟩ = some (.int .u64 p.1) ∧ wx.cell? ⟨pb, i * 3 + 1, none⟩ = some (.int .u32 p.2.1) ∧ wx.cell? ⟨pb, i * 3 + 2, none⟩ = some (.bool p.2.2)) := fun wx hb => by
    have hX := hM.below hb
    obtain ⟨c0, c1, c2, _, _, _⟩ := hX.cells
    obtain ⟨p0, p1, p2, _, _, _⟩ := hX.place hp
    exact ⟨c0, c1, c2, p0, p1, p2⟩
  have b0 : (0 : Int) ≤ (i : Int) := by omega
  have b1 : (i : Int) < (n : Int) := by omega
  clear hM hi hp
  by_cases hs : p.2.2 = true ∧ p.2.1 = age
  · have e0 : seenP age p = some p.1 := by simp [seenP, hs]
    rw [e0] at HH ⊢
    unfold gotV
    clear e0 hs
    go_enter Try.func56, Try.ntmps56
    go_wp2_with fail
    refine HP.out.mono ?_
    rintro e w1 ⟨rfl, hw1⟩
    subst hw1
    go_wp2_with fail
    refine HH.out.mono ?_
    rintro e w2 ⟨rfl, hw2⟩
    have HB : Hid (Below w1.heap.size w1 w2) := hw2
    obtain ⟨c0, c1, c2, p0, p1, p2⟩ := HK.out w2 hw2
    clear hw2
    go_wp2
    go_ret2
    exact ⟨rfl, HB.out⟩
  · have e0 : seenP age p = none := by simp [seenP, hs]
    rw [e0] at HH ⊢
    unfold gotV
    clear e0 hs
    go_enter Try.func56, Try.ntmps56
    go_wp2_with fail
    refine HP.out.mono ?_
    rintro e w1 ⟨rfl, hw1⟩
    subst hw1
    go_wp2_with fail
    refine HH.out.mono ?_
    rintro e w2 ⟨rfl, hw2⟩
    have HB : Hid (Below w1.heap.size w1 w2) := hw2
    obtain ⟨c0, c1, c2, p0, p1, p2⟩ := HK.out w2 hw2
    clear hw2
    go_wp2
    go_ret2
    exact ⟨rfl, HB.out⟩
end

set_option maxHeartbeats 1000000 in
theorem new_bad (n : Int) (age : Int) (hn : n < 0 ∨ 65536 < n) (w : World) : Calls Try.prog 52 #[.int .i64 n, .int .u32 age] w fun e w' => e = .returned (.tuple #[.pointer none, .iface 67 (.int .i64 1)]) ∧ w' = w := by
  rcases (show n < 0 ∨ (¬ n < 0 ∧ 65536 < n) by omega) with h | ⟨h, h2⟩
  · go_enter Try.func52, Try.ntmps52
    go_wp2
    go_ret2
    exact ⟨rfl, rfl⟩
  · go_enter Try.func52, Try.ntmps52
    go_wp2
    go_ret2
    exact ⟨rfl, rfl⟩
end Go.Proofs.Ytepkogijignmlaa.St
