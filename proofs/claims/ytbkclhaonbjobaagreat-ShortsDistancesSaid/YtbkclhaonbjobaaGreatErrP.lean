/- The contracts of fault.At, of api.Fault's Unwrap and of First over this translation: what each call answers, and what becomes of the world. -/
import Derived.Test.YtbkclhaonbjobaaGreatProg
import Derived.WalkKit
import Derived.WalkSpells
import Derived.WalkLawsBesides
import Derived.LaidEql
namespace Go.Proofs.YtbkclhaonbjobaaGreat
open Go.RowKit

/-- At of an error that is not nil: one new block, that fault. -/
theorem at_some (k n : Int) (t : TypeId) (v : Value) (w : World) :
    Calls Tryz.prog 60 #[.int .i64 k, .int .i64 n, .iface t v] w fun e w' => e = .returned (.iface 141 (.pointer (some ⟨w.heap.size, 0, none⟩))) ∧ w' = w.alloc (.cells #[.int .i64 k, .int .i64 n, .iface t v] 143) := by
  go_enter Tryz.func60, Tryz.ntmps60
  go_wp2
  go_ret
  exact ⟨rfl, rfl⟩

/-- The chain of faults with these places that ends in the value tv. -/
def IsErr (w : World) (tv : Value) : List (Int × Int) → Value → Prop
  | [], v => v = tv
  | p :: ps, v => ∃ (b : Nat) (u : Value), v = .iface 141 (.pointer (some ⟨b, 0, none⟩)) ∧ w.heap[b]? = some (.cells #[.int .i64 p.1, .int .i64 p.2, u] 143) ∧ IsErr w tv ps u

/-- Every fault's block stays as it was. -/
def Keeps (w w' : World) : Prop := ∀ (b : Nat) (c : Array Value), w.heap[b]? = some (.cells c 143) → w'.heap[b]? = some (.cells c 143)

theorem lt_of_get {w : World} {b : Nat} {o : Obj} (h : w.heap[b]? = some o) : b < w.heap.size := by
  rcases Nat.lt_or_ge b w.heap.size with h' | h'
  · exact h'
  · rw [Array.getElem?_eq_none h'] at h; cases h
theorem Below.keeps {w w' : World} (h : Below w.heap.size w w') : Keeps w w' := fun b c hb => by
  rw [h.block b (lt_of_get hb)]; exact hb

theorem IsErr.keep {w w' : World} (hk : Keeps w w') {tv : Value} : ∀ {ps : List (Int × Int)} {v : Value}, IsErr w tv ps v → IsErr w' tv ps v
  | [], _, h => h
  | _ :: _, _, ⟨b, u, e, hb, hr⟩ => ⟨b, u, e, hk _ _ hb, IsErr.keep hk hr⟩

/-- All blocks but one are as they were. -/
structure Touch (t : Nat) (w w' : World) : Prop where
  os : w'.os = w.os
  tape : w'.tape = w.tape
  output : w'.output = w.output
  size : w.heap.size ≤ w'.heap.size
  block : ∀ k, k < w.heap.size → k ≠ t → w'.heap[k]? = w.heap[k]?

end Go.Proofs.YtbkclhaonbjobaaGreat
