/- an overlay that is nil. an overlay's New refused, and a bare error seen. the steps of the law OverlayFixed. -/
import Derived.Test.YtbkclhaonbjobaaGreatDoorQcX
import Derived.Test.YtbkclhaonbjobaaGreatDoorQfX
import Derived.Test.YtbkclhaonbjobaaGreatDoorSeen
import Derived.Test.YtbkclhaonbjobaaGreatDoorDocCheck
import Derived.Test.YtbkclhaonbjobaaGreatDoorQnX
namespace Go.Proofs.YtbkclhaonbjobaaGreatDoor
open Go.RowKit Go.Extern Go.Sort

attribute [local go_sem] Oper.semAt_some

section
variable {w : World}
end
end Go.Proofs.YtbkclhaonbjobaaGreatDoor

namespace Go.Proofs.YtbkclhaonbjobaaGreatDoor
open Go.RowKit Go.Extern Go.Sort

attribute [local go_sem] Oper.semAt_some

theorem told_bare (w : World) {c : Int} (hc : c ≠ 0) : IsTold w (c, []) (.iface 59 (.int .i64 c)) := Or.inr ⟨hc, rfl⟩
theorem places_none (w : World) : HasPlaces w (.slice none 0 0) [] := ⟨none, 0, rfl, fun j p hj => by simp at hj⟩
theorem seen_bare (c : Int) (hc : c ≠ 0) (w : World) (hg : HasType w) : Calls Tryz.prog 12 #[.iface 59 (.int .i64 c), .agg #[.int .i64 c, .slice none 0 0]] w fun r w' => r = .returned (.bool true) ∧ Below w.heap.size w w' := seen_told (c, []) _ none 0 w (told_bare w hc) (places_none w) (by simp) hg
section
variable {PX : Nat → Option Obj} {w w' : World} {B0 pb n : Nat} {bs : List Bool} {R : Bool → Nat → Rw} {nodes arcs : Int}
end
end Go.Proofs.YtbkclhaonbjobaaGreatDoor

namespace Go.Proofs.YtbkclhaonbjobaaGreatDoor
open Go.RowKit Go.Extern Go.Sort

attribute [local go_sem] Oper.semAt_some

def xsF : List (Int × Int × Int) := [(0, 1, 4), (0, 1, 3), (2, 2, 1), (1, 2, 1)]
abbrev cellsF : Array Value := #[.int .i64 0, .int .i64 1, .int .i64 4, .int .i64 0, .int .i64 1, .int .i64 3, .int .i64 2, .int .i64 2, .int .i64 1, .int .i64 1, .int .i64 2, .int .i64 1]
section
variable {PX : Nat → Option Obj} {w w' : World} {B0 pb n : Nat} {bs : List Bool} {R : Bool → Nat → Rw} {nodes arcs : Int}
end
/-- what is known of the rows later. -/
def Row0 (R : Bool → Nat → Rw) (L : List H3) : Prop := (R false 0).2 = (L, 0) ∧ (R false 2).2 = ([], 0)
end Go.Proofs.YtbkclhaonbjobaaGreatDoor
