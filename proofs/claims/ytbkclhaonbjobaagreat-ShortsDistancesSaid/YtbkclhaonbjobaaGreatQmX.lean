/- an overlay that is nil. an overlay's New refused, and a bare error seen. the steps of the law OverlayFixed. -/
import Derived.Test.YtbkclhaonbjobaaGreatQcX
import Derived.Test.YtbkclhaonbjobaaGreatQfX
import Derived.Test.YtbkclhaonbjobaaGreatPlaces
import Derived.Test.YtbkclhaonbjobaaGreatDocCheck
import Derived.Test.YtbkclhaonbjobaaGreatQnX
namespace Go.Proofs.YtbkclhaonbjobaaGreat
open Go.RowKit Go.Extern Go.Sort

attribute [local go_sem] Oper.semAt_some

section
variable {w : World}
end
end Go.Proofs.YtbkclhaonbjobaaGreat

namespace Go.Proofs.YtbkclhaonbjobaaGreat
open Go.RowKit Go.Extern Go.Sort

attribute [local go_sem] Oper.semAt_some

section
variable {PX : Nat → Option Obj} {w w' : World} {B0 pb n : Nat} {bs : List Bool} {R : Bool → Nat → Rw} {nodes arcs : Int}
end
end Go.Proofs.YtbkclhaonbjobaaGreat

namespace Go.Proofs.YtbkclhaonbjobaaGreat
open Go.RowKit Go.Extern Go.Sort

attribute [local go_sem] Oper.semAt_some

def xsF : List (Int × Int × Int) := [(0, 1, 4), (0, 1, 3), (2, 2, 1), (1, 2, 1)]
abbrev cellsF : Array Value := #[.int .i64 0, .int .i64 1, .int .i64 4, .int .i64 0, .int .i64 1, .int .i64 3, .int .i64 2, .int .i64 2, .int .i64 1, .int .i64 1, .int .i64 2, .int .i64 1]
section
variable {PX : Nat → Option Obj} {w w' : World} {B0 pb n : Nat} {bs : List Bool} {R : Bool → Nat → Rw} {nodes arcs : Int}
end
/-- what is known of the rows later. -/
def Row0 (R : Bool → Nat → Rw) (L : List H3) : Prop := (R false 0).2 = (L, 0) ∧ (R false 2).2 = ([], 0)
end Go.Proofs.YtbkclhaonbjobaaGreat
