/- hier.Turn at a hierarchy that is not in form; what HierTurns leans on. -/
import Derived.Test.YtocgbgjpafdhmaaDoorHsF
import Derived.Test.YtocgbgjpafdhmaaDoorHrZ
import Derived.Test.YtocgbgjpafdhmaaDoorHtA
namespace Go.Proofs.YtocgbgjpafdhmaaDoor.Hi
open Go.RowKit Go.Extern Go.Shelf

end Go.Proofs.YtocgbgjpafdhmaaDoor.Hi
