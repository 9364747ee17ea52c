/- Rows of numbers in memory. (genwta.py) -/
import Derived.Test.YtbkclhaonbjobaaGreatCheck
import Derived.Deep.OwnRows
namespace Go.Proofs.YtbkclhaonbjobaaGreat.Wt
open Go.RowKit Go.Extern Go.Deep

/-- a list of numbers of 64 bits in a block of its own. -/
def U64s (w : World) (b : Nat) (D : List Int) : Prop := w.heap[b]? = some (.cells (D.map (Value.int .u64)).toArray 47)
theorem U64s.at {w : World} {b : Nat} {D : List Int} (h : U64s w b D) {k : Nat} {x : Int} (hk : D[k]? = some x) : w.cell? ⟨b, k, none⟩ = some (.int .u64 x) ∧ b < w.heap.size ∧ w.frozen? ⟨b, k, none⟩ = false := by
  refine ⟨?_, lt_of_get h, ?_⟩
  · simp [World.cell?, show w.heap[b]? = _ from h, hk]
  · simp [World.frozen?, show w.heap[b]? = _ from h]
theorem U64s.set {w : World} {b : Nat} {D : List Int} (h : U64s w b D) (k : Nat) (x : Int) : U64s (w.setCell ⟨b, k, none⟩ (.int .u64 x)) b (D.set k x) := by
  unfold U64s
  rw [Go.heap_setCell_same _ _ k _ _ _ h]
  congr 2
  rw [List.setIfInBounds_toArray, List.map_set]
theorem infoU : (Tryz.prog.info? 47).map (fun i => (i.zero, i.size, i.bytes)) = some (some (.int .u64 0), 1, 8) := by kernel_rfl
theorem made_u64s (w : World) (n : Nat) : U64s (w.alloc (.cells (madeCells #[.int .u64 0] n) 47)) w.heap.size (List.replicate n 0) := by
  unfold U64s
  rw [heap_new]
  congr 2
  have := toList_madeCells_one (.int .u64 0) n
  apply Array.ext'
  rw [this]
  simp
end Go.Proofs.YtbkclhaonbjobaaGreat.Wt
