/- The contracts of fault.At, of api.Fault's Unwrap and of First over this translation: what each call answers, and what becomes of the world. -/
import Derived.Test.YtlgdhoemjllfdaaDoorProg
import Derived.WalkKit
import Derived.WalkSpells
import Derived.WalkLawsBesides
import Derived.LaidEql
namespace Go.Proofs.YtlgdhoemjllfdaaDoor
open Go.RowKit

/-- Unwrap of a fault that is there. -/
theorem unwrap_fault (b : Nat) (v : Value) (w : World) (hc : w.cell? ⟨b, 2, none⟩ = some v) :
    Calls Tryd.prog 53 #[.pointer (some ⟨b, 0, none⟩)] w fun e w' => e = .returned v ∧ w' = w := by
  go_enter Tryd.func53, Tryd.ntmps53
  go_wp2
  go_ret
  exact ⟨rfl, rfl⟩
end Go.Proofs.YtlgdhoemjllfdaaDoor
