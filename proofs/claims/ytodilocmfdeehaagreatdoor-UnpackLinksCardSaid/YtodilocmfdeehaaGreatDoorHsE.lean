/- hier.turnChildren on a row of one's own. -/
import Derived.Test.YtodilocmfdeehaaGreatDoorHsD
import Derived.Test.YtodilocmfdeehaaGreatDoorHrJ
import Derived.Laws.OwnMore
import Derived.Deep.RegionHeld3
namespace Go.Proofs.YtodilocmfdeehaaGreatDoor.Hi
open Go.RowKit Go.Extern Go.Shelf

attribute [local go_sem] Oper.semAt_some

/-- a link turned about, in a hierarchy that had p up links and q down links. -/
def turnL (p q : Nat) (l : Lk) : Lk := if l.plain then l else ⟨l.hd, l.wt, q + l.rt, l.lf - p⟩
/-- nothing but the block g is written. -/
structure Touch (w w' : World) (g : Nat) : Prop where
  os : w'.os = w.os
  tape : w'.tape = w.tape
  output : w'.output = w.output
  size : w.heap.size ≤ w'.heap.size
  block : ∀ k, k < w.heap.size → k ≠ g → w'.heap[k]? = w.heap[k]?
/-- the row when k links are turned. -/
def turnK (p q k : Nat) (L : List Lk) : List Lk := (L.take k).map (turnL p q) ++ L.drop k
end Go.Proofs.YtodilocmfdeehaaGreatDoor.Hi
