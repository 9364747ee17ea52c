/- an overlay's loseArcs. -/
import Derived.Test.YtcfpkbmeblfhoaaOuX
namespace Go.Proofs.Ytcfpkbmeblfhoaa
open Go.RowKit Go.Extern Go.Sort

attribute [local go_sem] Oper.semAt_some
section
variable {w w' : World} {PX : Nat → Option Obj} {B pb ab n : Nat} {sb : Bool → Nat} {bs : List Bool} {R : Bool → Nat → Rw} {nodes arcs : Int}
end
end Go.Proofs.Ytcfpkbmeblfhoaa
