/- An error as it is told. -/
import Derived.Test.YtlgdhoemjllfdaaDoorErrD
namespace Go.Proofs.YtlgdhoemjllfdaaDoor
open Go.RowKit Go.Extern

theorem eNew (w : World) (o : Obj) : (w.alloc o).heap[w.heap.size]? = some o := by show (w.heap.push _)[w.heap.size]? = _; simp
/-- an error as it is told: nothing, or a chain. -/
def IsTold (w : World) (e : Int × List (Int × Int)) (v : Value) : Prop := (e = (0, []) ∧ v = .nilIface) ∨ (e.1 ≠ 0 ∧ IsErr w (.iface 49 (.int .i64 e.1)) e.2 v)
theorem IsTold.keep {w w' : World} {e : Int × List (Int × Int)} {v : Value} (h : IsTold w e v) (hk : Keeps w w') : IsTold w' e v := by
  rcases h with h | ⟨h1, h2⟩
  · exact Or.inl h
  · exact Or.inr ⟨h1, h2.keep hk⟩
end Go.Proofs.YtlgdhoemjllfdaaDoor
