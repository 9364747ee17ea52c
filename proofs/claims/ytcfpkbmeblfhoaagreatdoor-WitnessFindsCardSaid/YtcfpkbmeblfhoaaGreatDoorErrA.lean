/- The contracts of fault.At, of api.Fault's Unwrap and of First over this translation: what each call answers, and what becomes of the world. -/
import Derived.Test.YtcfpkbmeblfhoaaGreatDoorProg
import Derived.WalkKit
import Derived.WalkSpells
import Derived.WalkLawsBesides
import Derived.LaidEql
namespace Go.Proofs.YtcfpkbmeblfhoaaGreatDoor
open Go.RowKit

/-- At of an error that is not nil: one new block, that fault. -/
theorem at_some (k n : Int) (t : TypeId) (v : Value) (w : World) :
    Calls Tryz.prog 47 #[.int .i64 k, .int .i64 n, .iface t v] w fun e w' => e = .returned (.iface 86 (.pointer (some ⟨w.heap.size, 0, none⟩))) ∧ w' = w.alloc (.cells #[.int .i64 k, .int .i64 n, .iface t v] 90) := by
  go_enter Tryz.func47, Tryz.ntmps47
  go_wp2
  go_ret
  exact ⟨rfl, rfl⟩

theorem at_nil (k n : Int) (w : World) :
    Calls Tryz.prog 47 #[.int .i64 k, .int .i64 n, .nilIface] w fun e w' => e = .returned .nilIface ∧ w' = w := by
  go_enter Tryz.func47, Tryz.ntmps47
  go_wp2
  go_ret
  exact ⟨rfl, rfl⟩

/-- Unwrap of a fault that is there. -/
theorem unwrap_fault (b : Nat) (v : Value) (w : World) (hc : w.cell? ⟨b, 2, none⟩ = some v) :
    Calls Tryz.prog 153 #[.pointer (some ⟨b, 0, none⟩)] w fun e w' => e = .returned v ∧ w' = w := by
  go_enter Tryz.func153, Tryz.ntmps153
  go_wp2
  go_ret
  exact ⟨rfl, rfl⟩
end Go.Proofs.YtcfpkbmeblfhoaaGreatDoor
