/- new bytes in memory. -/
import Derived.Test.YtemdocnhdnhliabDoorCrD
namespace Go.Proofs.YtemdocnhdnhliabDoor
open Go.RowKit Go.Extern Cr

theorem hasB_new' (w : World) (xs : List Nat) (cap : Nat) (fr : Nat × Nat) : HasB (w.alloc (.cells (bv xs).toArray 5 fr)) (.slice (some ⟨w.heap.size, 0, none⟩) xs.length cap) xs := by
  have h : (w.alloc (.cells (bv xs).toArray 5 fr)).heap[w.heap.size]? = some (.cells (bv xs).toArray 5 fr) := by show (w.heap.push _)[w.heap.size]? = _; simp
  generalize w.alloc (.cells (bv xs).toArray 5 fr) = W at h
  refine ⟨_, cap, rfl, fun j x hj => ⟨w.heap.size, 0, rfl, b_lt_get h, ?_⟩⟩
  rw [Nat.zero_add]
  simp only [World.cell?, h]
  simp [bv, hj]
theorem bts_of' {l : List Nat} (h : l.all (· < 256) = true) : Bts l := fun v hv => by
  have := List.all_eq_true.1 h v hv
  simpa using this
theorem own_cap' {w : World} {B n cap : Nat} {ao : Option Addr} {xs : List Value} (h : w.ownsRow B 5 1 (.slice ao n cap) n xs) : n ≤ cap ∧ (ao = none → cap = 0) := by
  rcases h.2 with ⟨e, h0⟩ | ⟨g, c, cur, e, _, _, hn, _⟩
  · injection e with e1 e2 e3
    subst e1 e3
    exact ⟨by omega, fun _ => rfl⟩
  · injection e with e1 e2 e3
    subst e1 e3
    exact ⟨hn, fun h => by cases h⟩

end Go.Proofs.YtemdocnhdnhliabDoor
