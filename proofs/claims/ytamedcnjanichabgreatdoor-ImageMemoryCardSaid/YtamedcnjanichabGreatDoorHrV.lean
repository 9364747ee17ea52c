/- a hierarchy that Check lets through: Ends, Check, Ranks. -/
import Derived.Test.YtamedcnjanichabGreatDoorHrU
import Derived.Deep.RegionHeld3
namespace Go.Proofs.YtamedcnjanichabGreatDoor.Hi
open Go.RowKit Go.Extern Go.Sort Go.Shelf

attribute [local go_sem] Oper.semAt_some

theorem btrH {Z a b : World} (h : Below Z.heap.size Z a) (g : Below a.heap.size a b) : Below Z.heap.size Z b := h.trans (g.mono h.size)
set_option maxRecDepth 100000 in
theorem field_wt (a b c d : Int) (wx : World) : (Instr.field 43 (.agg #[.int .u32 a, .int .u64 b, .int .u32 c, .int .u32 d]) 1).run Tryz.prog wx = .ok (.int .u64 b) wx := by
  first | kernel_rfl | rfl
theorem check_ok {v : HV} {h : Hr} {w : World} (hH : HasH w v h) (hc : chk h = (0, [])) : Calls Tryz.prog 19 #[hvl v h] w fun e w' => e = .returned .nilIface ∧ Below w.heap.size w w' := by
  obtain ⟨k1, k2, k3, k4, k5, k6, k7, k8⟩ := chk_ok hc
  refine (check_calls v h w hH (by omega) (by omega) (by omega)).mono ?_
  rintro e w2 ⟨u, rfl, ht, hb⟩
  rw [hc] at ht
  rw [isTold_nil ht]
  exact ⟨rfl, hb⟩
end Go.Proofs.YtamedcnjanichabGreatDoor.Hi
