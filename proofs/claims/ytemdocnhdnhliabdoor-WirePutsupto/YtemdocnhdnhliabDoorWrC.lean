/- numbers as bytes: wire.Words. -/
import Derived.Test.YtemdocnhdnhliabDoorWrB
import Derived.Test.YtemdocnhdnhliabDoorWrW
namespace Go.Proofs.YtemdocnhdnhliabDoor
open Go.RowKit Go.Extern Cr

attribute [local go_sem] Oper.semAt_some

/-- the words that lie from a place on. -/
def wordsOf (l : List Nat) (a c : Nat) : List Nat := (List.range c).map fun i => num (piece l (a + 4 * i) 4)
theorem wordsOf_len (l : List Nat) (a c : Nat) : (wordsOf l a c).length = c := by simp [wordsOf]
theorem wordsOf_at {l : List Nat} {a c i : Nat} (h : i < c) : (wordsOf l a c)[i]? = some (num (piece l (a + 4 * i) 4)) := by
  unfold wordsOf
  rw [List.getElem?_map, List.getElem?_range h]
  rfl
theorem num_4 {l : List Nat} (h : Bts l) (hl : l.length = 4) : num l < 4294967296 := by
  have h1 := num_lt h
  rw [hl] at h1
  exact h1
theorem set_next {L M : List Nat} {k x : Nat} (hk : k < M.length) (hx : L[k]? = some x) (h : M.take k = L.take k) : (M.set k x).take (k + 1) = L.take (k + 1) := by
  rw [List.take_add_one, List.take_add_one, List.take_set_of_le (Nat.le_refl _), h, hx, List.getElem?_set_self hk]
/-- what Words answers. -/
def WordsIs (w : World) (l : List Nat) (at_ c : Int) (e : Ending) (w' : World) : Prop := Below w.heap.size w w' ∧
  ((0 ≤ at_ ∧ 0 ≤ c ∧ (4 * c ≤ (l.length : Int) - at_ ∨ c = 0) ∧ ∃ mo mc, e = .returned (.tuple #[.slice mo c.toNat mc, .nilIface]) ∧ w'.ownsRow w.heap.size 25 1 (.slice mo c.toNat mc) c.toNat (wv (wordsOf l at_.toNat c.toNat))) ∨
   ((at_ < 0 ∨ c < 0 ∨ ((l.length : Int) - at_ < 4 * c ∧ 0 < c)) ∧ ∃ t x, e = .returned (.tuple #[.slice none 0 0, .iface t x])))
end Go.Proofs.YtemdocnhdnhliabDoor
