/- errors.As, whole: at a target of faults where the error is a fault or a number, at a target of numbers over a chain that ends in a number or in nothing. -/
import Derived.Test.YtodilocmfdeehaaGreatDoorErrD
namespace Go.Proofs.YtodilocmfdeehaaGreatDoor
open Go.RowKit Go.Extern

set_option maxHeartbeats 4000000 in
/-- the inner errors.as: a number at a target of faults. -/
theorem as32_num (x : Value) (t a : Addr) (w : World) :
    Calls Tryz.prog 65 #[.iface 61 x, .iface 81 (.pointer (some t)), .agg #[.pointer (some ⟨1, 81, none⟩), .pointer (some a), .int .u64 150], .iface 156 (.agg #[.pointer (some ⟨1, 79, none⟩)])] w fun ev w' =>
      ev = .returned (.bool false) ∧ w' = w.alloc (.cells #[.pointer (some ⟨1, 81, none⟩), .pointer (some a), .int .u64 150] 114) := by
  have h33 := x33
  have h95 := x95
  have f1 := Tryz.typeOf24
  have f2 := Tryz.methodAssignableTo
  have f3 := Tryz.asg2430
  have g1 := Tryz.noAs24
  have g2 := Tryz.noUn24
  have g3 := Tryz.noUns24
  go_enter Tryz.func65, Tryz.ntmps65
  go_wp2
  refine wp_loop_rounds 1 ?_
  rw [rounds_succ]
  go_wp2
  go_ret
  exact ⟨rfl, rfl⟩

end Go.Proofs.YtodilocmfdeehaaGreatDoor
