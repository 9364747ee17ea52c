/- A graph among the arguments, opened: the arcs that it reads as lie in memory. -/
import Derived.Test.YtodilocmfdeehaaGreatDoorFrame
import Derived.Deep.Slices
import Derived.Deep.Strs
namespace Go.Proofs.YtodilocmfdeehaaGreatDoor
open Go.ChangeShapes Go.WideShapes Go.RowKit Go.Deep

end Go.Proofs.YtodilocmfdeehaaGreatDoor
