/- hier.Turn at a hierarchy that is not in form; what HierTurns leans on. -/
import Derived.Test.YtepkogijignmlabHsF
import Derived.Test.YtepkogijignmlabHrZ
import Derived.Test.YtepkogijignmlabHtA
namespace Go.Proofs.Ytepkogijignmlab.Hi
open Go.RowKit Go.Extern Go.Shelf

attribute [local go_sem] Oper.semAt_some

set_option maxRecDepth 100000 in
set_option maxHeartbeats 4000000 in
theorem turn_bad (v : HV) (h : Hr) (w : World) (hH : HasH w v h) (hb1 : h.up.length ≤ 1152921504606846976) (hb2 : h.dn.length ≤ 1152921504606846976) (hb3 : h.node.length ≤ 1152921504606846976) (hc : chk h ≠ (0, [])) :
    Calls Try.prog 6 #[hvl v h] w fun e w' => ∃ T x, e = .returned (.tuple #[.agg #[.slice none 0 0, .slice none 0 0, .slice none 0 0, .slice none 0 0, .slice none 0 0], .iface T x]) ∧ Below w.heap.size w w' := by
  obtain ⟨z, hz⟩ : ∃ z, w.heap.size = z := ⟨_, rfl⟩
  obtain ⟨W0, hW0⟩ : ∃ W0, (w.alloc (.cells (cellsH v h) 25)).alloc (.cells #[.slice none 0 0, .slice none 0 0, .slice none 0 0, .slice none 0 0, .slice none 0 0] 25) = W0 := ⟨_, rfl⟩
  have hB0 : Below w.heap.size w W0 := by rw [← hW0]; exact ((Below.refl _ w).alloc (Nat.le_refl _) _).alloc (by simp) _
  have h0 : W0.heap[z]? = some (.cells (cellsH v h) 25) := by
    rw [← hW0, ← hz]; exact (Below.heap_alloc _ _ _ (by simp)).trans (heap_newW _ _)
  have h1 : W0.heap[z + 1]? = some (.cells #[.slice none 0 0, .slice none 0 0, .slice none 0 0, .slice none 0 0, .slice none 0 0] 25) := by
    have g := heap_newW (w.alloc (.cells (cellsH v h) 25)) (.cells #[.slice none 0 0, .slice none 0 0, .slice none 0 0, .slice none 0 0, .slice none 0 0] 25)
    rw [World.size_alloc, hW0, hz] at g
    exact g
  have HB0 : Hid (∀ wx, Below W0.heap.size W0 wx → Below w.heap.size w wx ∧ wx.heap[z + 1]? = some (.cells #[.slice none 0 0, .slice none 0 0, .slice none 0 0, .slice none 0 0, .slice none 0 0] 25)) := fun wx hx => ⟨hB0.trans (hx.mono hB0.size), (hx.block _ (some_lt h1)).trans h1⟩
  have HCK : Hid (Calls Try.prog 7 #[hvl v h] W0 fun e w' => ∃ u, e = .returned u ∧ IsTold w' (chk h) u ∧ Below W0.heap.size W0 w') := check_calls v h W0 (hH.keep hB0) hb1 hb2 hb3
  have HW0 : Hid ((w.alloc (.cells (cellsH v h) 25)).alloc (.cells #[.slice none 0 0, .slice none 0 0, .slice none 0 0, .slice none 0 0, .slice none 0 0] 25) = W0) := hW0
  have HC : Hid (chk h ≠ (0, [])) := hc
  have HZZ : Hid (w.heap.size = z) := hz
  obtain ⟨a0, a1, a2, a3, a4⟩ := five_cells h0
  clear hW0 h0 h1 hB0 hH hc
  unfold cellsH at HW0
  unfold hvl at HCK ⊢
  go_enter Try.func6, Try.ntmps6
  go_upto_region 1 with fail
  rw [HW0.out]
  go_wp2_with fail
  refine HCK.out.mono ?_
  rintro e y0 ⟨u, rfl, ht, hy⟩
  obtain ⟨tt, xx, hu1, _⟩ := isTold_some ht HC.out
  subst hu1
  have Y0 : Hid (Below W0.heap.size W0 y0) := hy
  obtain ⟨z0, z1, z2, z3, z4⟩ := five_cells (HB0.out y0 hy).2
  obtain ⟨f0, f1, f2, f3, f4⟩ := five_free (HB0.out y0 hy).2
  clear hy ht a0 a1 a2 a3 a4
  go_wp2
  have hS := set_five (HB0.out _ Y0.out).2 (.slice none 0 0) (.slice none 0 0) (.slice none 0 0) (.slice none 0 0) (.slice none 0 0)
  have hbb : Below w.heap.size w (((((y0.setCell ⟨z + 1, 0, none⟩ (.slice none 0 0)).setCell ⟨z + 1, 1, none⟩ (.slice none 0 0)).setCell ⟨z + 1, 2, none⟩ (.slice none 0 0)).setCell ⟨z + 1, 3, none⟩ (.slice none 0 0)).setCell ⟨z + 1, 4, none⟩ (.slice none 0 0)) := (((((HB0.out _ Y0.out).1.setCell (by rw [HZZ.out]; exact Nat.le_succ _) _).setCell (by rw [HZZ.out]; exact Nat.le_succ _) _).setCell (by rw [HZZ.out]; exact Nat.le_succ _) _).setCell (by rw [HZZ.out]; exact Nat.le_succ _) _).setCell (by rw [HZZ.out]; exact Nat.le_succ _) _
  obtain ⟨c0, c1, c2, c3, c4⟩ := five_cells hS
  refine bodyPost_ret (v := .tuple #[.agg #[.slice none 0 0, .slice none 0 0, .slice none 0 0, .slice none 0 0, .slice none 0 0], .iface tt xx]) (by simp [results, Try.results6, go_sem, c0, c1, c2, c3, c4]) rfl ⟨tt, xx, rfl, hbb⟩

theorem turn_ok {v : HV} {h : Hr} {w : World} (hH : HasH w v h) (hc : chk h = (0, [])) :
    Calls Try.prog 6 #[hvl v h] w fun e w' => ∃ u, e = .returned (.tuple #[hvl u (turnH h), .nilIface]) ∧ HasH w' u (turnH h) ∧ OwnH w' w.heap.size u (turnH h) ∧ Below w.heap.size w w' := by
  obtain ⟨k1, k2, k3, k4, k5, k6, k7, k8⟩ := chk_ok hc
  refine (turn_good v h w hH hc).mono ?_
  rintro e w' ⟨u, rfl, ho, hb⟩
  refine ⟨u, rfl, ⟨ws_of_own ho.node hH.node.ok, ws_of_own ho.upF hH.dnF.ok, ls_of_own ho.up fun l hl => ?_, ws_of_own ho.dnF hH.upF.ok, ls_of_own ho.dn fun l hl => ?_⟩, ho, hb⟩
  · obtain ⟨l0, h0, rfl⟩ := List.mem_map.1 hl
    exact turnL_ok k2 (fun hp => kids_mem hc (Or.inr h0) hp) (hH.dn.ok _ h0)
  · obtain ⟨l0, h0, rfl⟩ := List.mem_map.1 hl
    exact turnL_ok k2 (fun hp => kids_mem hc (Or.inl h0) hp) (hH.up.ok _ h0)
end Go.Proofs.Ytepkogijignmlab.Hi
