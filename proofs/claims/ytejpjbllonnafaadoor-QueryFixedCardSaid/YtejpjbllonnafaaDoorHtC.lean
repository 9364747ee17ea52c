/- hier.Turn at a hierarchy that is not in form; what HierTurns leans on. -/
import Derived.Test.YtejpjbllonnafaaDoorHsF
import Derived.Test.YtejpjbllonnafaaDoorHrZ
import Derived.Test.YtejpjbllonnafaaDoorHtA
namespace Go.Proofs.YtejpjbllonnafaaDoor.Hi
open Go.RowKit Go.Extern Go.Shelf

end Go.Proofs.YtejpjbllonnafaaDoor.Hi
