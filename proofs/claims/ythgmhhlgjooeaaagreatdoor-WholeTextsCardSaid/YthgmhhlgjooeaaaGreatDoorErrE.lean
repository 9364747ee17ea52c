/- errors.As, whole: at a target of faults where the error is a fault or a number, at a target of numbers over a chain that ends in a number or in nothing. -/
import Derived.Test.YthgmhhlgjooeaaaGreatDoorErrD
namespace Go.Proofs.YthgmhhlgjooeaaaGreatDoor
open Go.RowKit Go.Extern

set_option maxHeartbeats 4000000 in
/-- the inner errors.as: a number at a target of faults. -/
theorem as32_num (x : Value) (t a : Addr) (w : World) :
    Calls Tryz.prog 40 #[.iface 29 x, .iface 43 (.pointer (some t)), .agg #[.pointer (some ⟨5, 43, none⟩), .pointer (some a), .int .u64 150], .iface 98 (.agg #[.pointer (some ⟨5, 41, none⟩)])] w fun ev w' =>
      ev = .returned (.bool false) ∧ w' = w.alloc (.cells #[.pointer (some ⟨5, 43, none⟩), .pointer (some a), .int .u64 150] 90) := by
  have h33 := x33
  have h95 := x95
  have f1 := Tryz.typeOf24
  have f2 := Tryz.methodAssignableTo
  have f3 := Tryz.asg2430
  have g1 := Tryz.noAs24
  have g2 := Tryz.noUn24
  have g3 := Tryz.noUns24
  go_enter Tryz.func40, Tryz.ntmps40
  go_wp2
  refine wp_loop_rounds 1 ?_
  rw [rounds_succ]
  go_wp2
  go_ret
  exact ⟨rfl, rfl⟩

end Go.Proofs.YthgmhhlgjooeaaaGreatDoor
