/- Errors that the program's stamp answers, seen. -/
import Derived.Test.YtlgdhoemjllfdaaDoorRefGet
import Derived.Test.YtlgdhoemjllfdaaDoorSeen
namespace Go.Proofs.YtlgdhoemjllfdaaDoor
open Go.RowKit

/-- an error that is a number, seen. -/
theorem seenE (c : Int) (hc : c ≠ 0) (w : World) (hg : HasType w) : Calls Tryd.prog 8 #[.iface 49 (.int .i64 c), .agg #[.int .i64 c, .slice none 0 0]] w fun r w' => r = .returned (.bool true) ∧ Below w.heap.size w w' :=
  seen_told (c, []) (.iface 49 (.int .i64 c)) none 0 w (Or.inr ⟨hc, rfl⟩) ⟨none, 0, rfl, fun j p hj => by simp at hj⟩ (Nat.zero_le _) hg
theorem badP (C : Int) (hC : C ≠ 0) (w : World) : Calls Tryd.prog 9 #[.agg #[.int .i64 C, .slice none 0 0]] w fun e w' => e = .returned (.bool true) ∧ Below w.heap.size w w' := by
  have h := bad_calls C none 0 0 w
  have e : (C != 0 || decide (0 < 0)) = true := by simp [hC]
  rw [e] at h
  exact h
theorem badN (w : World) : Calls Tryd.prog 9 #[.agg #[.int .i64 0, .slice none 0 0]] w fun e w' => e = .returned (.bool false) ∧ Below w.heap.size w w' := bad_calls 0 none 0 0 w

theorem allB_none (k n : Nat) : allB k (List.replicate n false) = [] := by
  induction n generalizing k with
  | zero => rfl
  | succ n ih => rw [List.replicate_succ]; unfold allB; rw [ih]; rfl
theorem allB_one (k n i : Nat) (h : i < n) : allB k ((List.replicate n false).set i true) = [((k + i : Nat) : Int)] := by
  induction n generalizing k i with
  | zero => omega
  | succ n ih =>
    rw [List.replicate_succ]
    cases i with
    | zero => rw [List.set_cons_zero]; unfold allB; rw [allB_none]; rfl
    | succ i =>
      rw [List.set_cons_succ]
      unfold allB
      rw [ih (k + 1) i (by omega)]
      simp
      omega
/-- one place is set. -/
theorem all_one {w : World} {sb pb n i : Nat} {x : Int} (h : IsStamp w sb pb n ((List.replicate n none).set i (some x))) (hi : i < n) : Calls Tryd.prog 17 #[.pointer (some ⟨sb, 0, none⟩)] w fun e w' => ∃ so sc, e = .returned (.slice so 1 sc) ∧ HasInts w' (.slice so 1 sc) [(i : Int)] ∧ Below w.heap.size w w' := by
  refine (all_calls h).mono ?_
  have e1 : ((List.replicate n none).set i (some x)).map Option.isSome = (List.replicate n false).set i true := by rw [List.map_set, List.map_replicate]; rfl
  rw [e1, allB_one 0 n i hi, Nat.zero_add]
  rintro e w' ⟨sv, rfl, hr, hb⟩
  have hr' : w'.ownsRow w.heap.size 3 1 sv 1 (intsV [(i : Int)]) := hr
  obtain ⟨so, sc, rfl⟩ := row_slice hr'
  exact ⟨so, sc, rfl, ints_of_row hr, hb⟩
theorem ints_lit (w : World) (x : Int) : HasInts (w.alloc (.cells #[.int .i64 x] 3)) (.slice (some ⟨w.heap.size, 0, none⟩) 1 1) [x] ∧ Below w.heap.size w (w.alloc (.cells #[.int .i64 x] 3)) := by
  refine ⟨⟨some ⟨w.heap.size, 0, none⟩, 1, rfl, fun j a hj => ?_⟩, (Below.refl _ w).alloc (Nat.le_refl _) _⟩
  rcases j with _ | j
  · simp at hj
    subst hj
    refine ⟨w.heap.size, 0, rfl, by simp, ?_⟩
    exact (cells_at (heap_new w _) 0).1
  · simp at hj
theorem set_big {w : World} {sb pb : Nat} (h : IsStamp w sb pb 65536 (List.replicate 65536 none)) : Calls Tryd.prog 13 #[.pointer (some ⟨sb, 0, none⟩), .int .i64 65535, .int .u64 3] w fun e w' => e = .returned .nilIface ∧ IsStamp w' sb pb 65536 ((List.replicate 65536 none).set 65535 (some 3)) ∧ Fr sb pb w w' := set_calls h 65535 (by omega) 3
theorem all_big {w : World} {sb pb : Nat} (h : IsStamp w sb pb 65536 ((List.replicate 65536 none).set 65535 (some 3))) : Calls Tryd.prog 17 #[.pointer (some ⟨sb, 0, none⟩)] w fun e w' => ∃ so sc, e = .returned (.slice so 1 sc) ∧ HasInts w' (.slice so 1 sc) [65535] ∧ Below w.heap.size w w' := all_one (i := 65535) h (by decide)
end Go.Proofs.YtlgdhoemjllfdaaDoor
