/- A graph among the arguments, opened: the arcs that it reads as lie in memory. -/
import Derived.Test.YtlehlghagddogaaLift
import Derived.Test.YtlehlghagddogaaCheck
import Derived.Deep.Slices
import Derived.Deep.Strs
namespace Go.Proofs.Ytlehlghagddogaa
open Go.ChangeShapes Go.WideShapes Go.RowKit Go.Deep

theorem Try.cells3 : Try.prog.cellsOf 3 = 1 := by kernel_rfl

end Go.Proofs.Ytlehlghagddogaa
