/- a hierarchy that Check lets through: Ends, Check, Ranks. -/
import Derived.Test.YtodilocmfdeehaaGreatDoorHrU
import Derived.Deep.RegionHeld3
namespace Go.Proofs.YtodilocmfdeehaaGreatDoor.Hi
open Go.RowKit Go.Extern Go.Sort Go.Shelf

attribute [local go_sem] Oper.semAt_some

theorem btrH {Z a b : World} (h : Below Z.heap.size Z a) (g : Below a.heap.size a b) : Below Z.heap.size Z b := h.trans (g.mono h.size)
set_option maxRecDepth 100000 in
theorem field_wt (a b c d : Int) (wx : World) : (Instr.field 65 (.agg #[.int .u32 a, .int .u64 b, .int .u32 c, .int .u32 d]) 1).run Tryz.prog wx = .ok (.int .u64 b) wx := by
  first | kernel_rfl | rfl
theorem check_ok {v : HV} {h : Hr} {w : World} (hH : HasH w v h) (hc : chk h = (0, [])) : Calls Tryz.prog 31 #[hvl v h] w fun e w' => e = .returned .nilIface ∧ Below w.heap.size w w' := by
  obtain ⟨k1, k2, k3, k4, k5, k6, k7, k8⟩ := chk_ok hc
  refine (check_calls v h w hH (by omega) (by omega) (by omega)).mono ?_
  rintro e w2 ⟨u, rfl, ht, hb⟩
  rw [hc] at ht
  rw [isTold_nil ht]
  exact ⟨rfl, hb⟩
theorem ranks_ok {v : HV} {h : Hr} {w : World} (hH : HasH w v h) (hc : chk h = (0, [])) : Calls Tryz.prog 110 #[hvl v h] w fun e w' => ∃ lo c, e = .returned (.tuple #[.slice lo h.node.length c, .nilIface]) ∧ HasInts w' (.slice lo h.node.length c) (intsL (rkM h.node)) ∧ Below w.heap.size w w' := by
  obtain ⟨k1, k2, k3, k4, k5, k6, k7, k8⟩ := chk_ok hc
  refine (ranks_calls v h w hH (by omega) (by omega) (by omega)).mono ?_
  rintro e w2 ⟨lo, k, c, u, L, rfl, hb, hI, _, hh⟩
  rcases hh with ⟨_, rfl, rfl⟩ | ⟨hc', _⟩
  · have hk : k = h.node.length := by
      obtain ⟨_, _, e, _⟩ := hI
      injection e with _ e _
      rw [e]
      unfold intsL
      rw [List.length_map, rkM_len]
    subst hk
    exact ⟨lo, c, rfl, hI, hb⟩
  · exact absurd hc hc'
end Go.Proofs.YtodilocmfdeehaaGreatDoor.Hi
