/- a row of arcs lies apart from a box. -/
import Derived.Test.YtghbekpilhnkfabDoorFlat
namespace Go.Proofs.YtghbekpilhnkfabDoor
open Go.RowKit Go.Extern

theorem own_far {w w' : World} {base base' n b : Nat} {v : Value} {xs : List Value} {c : Array Value} {T : TypeId} (h : w.ownsRow base 42 3 v n xs) (hb : w.heap[b]? = some (.cells c T)) (hT : T ≠ 42) (hk : ∀ g, g ≠ b → w'.heap[g]? = w.heap[g]?) (hbb : base' ≤ base) : w'.ownsRow base' 42 3 v n xs := by
  rcases h.2 with ⟨e, h0⟩ | ⟨g, cap, cur, e, hbs, hh, r⟩
  · exact ⟨h.1, Or.inl ⟨e, h0⟩⟩
  · have hne : g ≠ b := by
      rintro rfl
      rw [hh] at hb
      injection hb with hb
      injection hb with _ hb
      exact hT hb.symm
    exact ⟨h.1, Or.inr ⟨g, cap, cur, e, by omega, (hk g hne).trans hh, r⟩⟩
end Go.Proofs.YtghbekpilhnkfabDoor
