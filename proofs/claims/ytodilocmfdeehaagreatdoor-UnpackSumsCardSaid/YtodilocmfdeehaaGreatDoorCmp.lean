/- cmp.Compare, cmp.Or at two numbers, normal's byEnds, isLoop and its two closures: what they answer; blocks are laid and draws are made, nothing else turns. -/
import Derived.Test.YtodilocmfdeehaaGreatDoorErrA
import Derived.Deep.RegionWith
import Derived.Deep.RegionHeld
import Derived.Deep.QuietTactic
import Derived.BigQuiet
import Derived.Sort.Grow
namespace Go.Proofs.YtodilocmfdeehaaGreatDoor
open Go.RowKit Go.Extern Go.Sort

/-- blocks laid and draws made, nothing else. -/
def Laid (W w' : World) : Prop := ∃ q os, w' = grow (W.drewN q) os
theorem heap_new (w : World) (o : Obj) : (w.alloc o).heap[w.heap.size]? = some o := by show (w.heap.push _)[w.heap.size]? = _; simp

/-- what cmp.Compare tells. -/
def cmpI (a b : Int) : Int := if a < b then -1 else if b < a then 1 else 0
/-- what cmp.Or tells of two numbers. -/
def orI (a b : Int) : Int := if a = 0 then b else a

/-- how arcs stand by their ends, and wholly. -/
def endsI (a b : Int × Int × Int) : Int := orI (cmpI a.1 b.1) (cmpI a.2.1 b.2.1)
def arcI (a b : Int × Int × Int) : Int := orI (endsI a b) (cmpI a.2.2 b.2.2)
def arcV (a : Int × Int × Int) : Value := .agg #[.int .i64 a.1, .int .i64 a.2.1, .int .i64 a.2.2]

end Go.Proofs.YtodilocmfdeehaaGreatDoor
