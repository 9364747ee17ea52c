/- slices.Clone at words and links: copies in new memory. (genclone.py) -/
import Derived.Test.YtodilocmfdeehaaGreatDoorHsA
import Derived.Lib.SliceRun
namespace Go.Proofs.YtodilocmfdeehaaGreatDoor.Hi
open Go.RowKit Go.Extern Go.Shelf

attribute [local go_sem] Oper.semAt_some

end Go.Proofs.YtodilocmfdeehaaGreatDoor.Hi
