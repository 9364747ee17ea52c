/- the law's own example: four; its distances from 0. -/
import Derived.Test.YtnkfggccahohpaaDoorSqD
import Derived.Test.YtnkfggccahohpaaDoorSrM
namespace Go.Proofs.YtnkfggccahohpaaDoor
open Go.RowKit Go.Extern

attribute [local go_sem] Oper.semAt_some

def Z8 : List (Int × Int × Int) := [(0, 1, 4), (0, 2, 9), (1, 2, 1), (2, 3, 2)]
theorem fine8 : Fine 4 Z8 := ⟨by unfold Z8 RiseA lessA; simp, by unfold Z8; simp, by decide, by decide⟩
theorem dist8 : IsDist 4 Z8 0 [0, 4, 5, 7] := by
  have r0 : ReachN Z8 0 0 0 0 := ⟨rfl, rfl⟩
  have r1 : ReachN Z8 0 1 1 4 := ⟨0, 0, 4, r0, by decide, by decide⟩
  have r2 : ReachN Z8 0 2 2 5 := ⟨1, 4, 1, r1, by decide, by decide⟩
  have r3 : ReachN Z8 0 3 3 7 := ⟨2, 5, 2, r2, by decide, by decide⟩
  have hc : cntD [0, 4, 5, 7] = 4 := by decide
  refine BF.dist fine8 ⟨rfl, rfl, fun v x hv => Or.inr ?_⟩ ?_
  · rw [hc]
    rcases v with _ | _ | _ | _ | v
    · cases hv; exact ⟨by omega, by omega, 0, r0⟩
    · cases hv; exact ⟨by omega, by omega, 1, r1⟩
    · cases hv; exact ⟨by omega, by omega, 2, r2⟩
    · cases hv; exact ⟨by omega, by omega, 3, r3⟩
    · simp at hv
  · intro a ha
    unfold Z8 at ha
    simp at ha
    rcases ha with rfl | rfl | rfl | rfl <;> (intro x y hx hy _; cases hx; cases hy; decide)
theorem arcs8 {W : World} {b : Nat} (h : W.heap[b]? = some (.cells #[.int .i64 0, .int .i64 1, .int .i64 4, .int .i64 0, .int .i64 2, .int .i64 9, .int .i64 1, .int .i64 2, .int .i64 1, .int .i64 2, .int .i64 3, .int .i64 2] 95)) : HasArcs W (.slice (some ⟨b, 0, none⟩) 4 4) Z8 := by
  refine ⟨_, 4, rfl, fun j a hj => ⟨b, 0, rfl, lt_of_get h, ?_⟩⟩
  unfold Z8 at hj
  rcases j with _ | _ | _ | _ | j
  · cases hj; simp [World.cell?, h]
  · cases hj; simp [World.cell?, h]
  · cases hj; simp [World.cell?, h]
  · cases hj; simp [World.cell?, h]
  · simp at hj

set_option maxRecDepth 100000 in
set_option maxHeartbeats 4000000 in
theorem four8_calls (w : World) : Calls Tryd.prog 22 #[] w fun e w' => ∃ fo fc uo tc wo wc, e = .returned (.agg #[.slice fo 5 fc, .slice uo 4 tc, .slice wo 4 wc]) ∧ CsrIn w' 4 Z8 fo uo wo fc tc wc ∧ Below w.heap.size w w' := by
  obtain ⟨W0, hW0⟩ : ∃ W0, (w.alloc (.cells #[.slice none 0 0, .slice none 0 0, .slice none 0 0] 24)).alloc (.cells #[.int .i64 0, .int .i64 1, .int .i64 4, .int .i64 0, .int .i64 2, .int .i64 9, .int .i64 1, .int .i64 2, .int .i64 1, .int .i64 2, .int .i64 3, .int .i64 2] 95) = W0 := ⟨_, rfl⟩
  have HW0 : Hid ((w.alloc (.cells #[.slice none 0 0, .slice none 0 0, .slice none 0 0] 24)).alloc (.cells #[.int .i64 0, .int .i64 1, .int .i64 4, .int .i64 0, .int .i64 2, .int .i64 9, .int .i64 1, .int .i64 2, .int .i64 1, .int .i64 2, .int .i64 3, .int .i64 2] 95) = W0) := hW0
  have hB0 : Below w.heap.size w W0 := by rw [← hW0]; exact ((Below.refl _ w).alloc (Nat.le_refl _) _).alloc (by simp) _
  have k1 : W0.heap[w.heap.size]? = some (.cells #[.slice none 0 0, .slice none 0 0, .slice none 0 0] 24) := by rw [← hW0, Below.heap_alloc _ _ _ (by simp)]; exact heap_new _ _
  have k2 : W0.heap[w.heap.size + 1]? = some (.cells #[.int .i64 0, .int .i64 1, .int .i64 4, .int .i64 0, .int .i64 2, .int .i64 9, .int .i64 1, .int .i64 2, .int .i64 1, .int .i64 2, .int .i64 3, .int .i64 2] 95) := by
    have h := heap_new (w.alloc (.cells #[.slice none 0 0, .slice none 0 0, .slice none 0 0] 24)) (.cells #[.int .i64 0, .int .i64 1, .int .i64 4, .int .i64 0, .int .i64 2, .int .i64 9, .int .i64 1, .int .i64 2, .int .i64 1, .int .i64 2, .int .i64 3, .int .i64 2] 95)
    rw [hW0] at h
    simpa using h
  have HRB : Hid (type_of% (rBuild_calls 4 Z8 (some ⟨w.heap.size + 1, 0, none⟩) 4 W0 (arcs8 k2) fine8)) := rBuild_calls 4 Z8 (some ⟨w.heap.size + 1, 0, none⟩) 4 W0 (arcs8 k2) fine8
  have HB : Hid (Below w.heap.size w W0 ∧ w.heap.size < W0.heap.size) := ⟨hB0, lt_of_get k1⟩
  have HR : Hid (∀ wx, Below W0.heap.size W0 wx → wx.heap[w.heap.size]? = some (.cells #[.slice none 0 0, .slice none 0 0, .slice none 0 0] 24)) := fun wx hx => (hx.block _ (lt_of_get k1)).trans k1
  clear hW0 hB0 k1 k2
  go_enter Tryd.func22, Tryd.ntmps22
  go_wp2_with fail
  rw [HW0.out]
  refine HRB.out.mono ?_
  rintro e w1 ⟨fo, fc, uo, tc, wo, wc, rfl, o1, o2, o3, hb⟩
  have H1 : Hid (type_of% (And.intro o1 (And.intro o2 (And.intro o3 hb)))) := ⟨o1, o2, o3, hb⟩
  obtain ⟨r0, r1, r2⟩ := box3 (HR.out w1 hb)
  have rs := lt_of_get (HR.out w1 hb)
  have z0 : w1.frozen? ⟨w.heap.size, 0, none⟩ = false := by simp [World.frozen?, HR.out w1 hb]
  have z1 : w1.frozen? ⟨w.heap.size, 1, none⟩ = false := by simp [World.frozen?, HR.out w1 hb]
  have z2 : w1.frozen? ⟨w.heap.size, 2, none⟩ = false := by simp [World.frozen?, HR.out w1 hb]
  clear o1 o2 o3 hb
  rw [show Z8.length = 4 from rfl]
  go_wp2
  refine bodyPost_ret (v := .agg #[.slice fo 5 fc, .slice uo 4 tc, .slice wo 4 wc]) (by simp [results, Tryd.results22, go_sem, r0, r1, r2]) rfl ?_
  obtain ⟨o1, o2, o3, hb⟩ := H1.out
  have hfar : ∀ g, W0.heap.size ≤ g → (((w1.setCell ⟨w.heap.size, 0, none⟩ (.slice fo 5 fc)).setCell ⟨w.heap.size, 1, none⟩ (.slice uo 4 tc)).setCell ⟨w.heap.size, 2, none⟩ (.slice wo 4 wc)).heap[g]? = w1.heap[g]? := fun g hg => by
    have hne : g ≠ w.heap.size := by have := HB.out.2; omega
    exact ((heap_setCell_other _ _ _ _ hne).trans (heap_setCell_other _ _ _ _ hne)).trans (heap_setCell_other _ _ _ _ hne)
  refine ⟨fo, fc, uo, tc, wo, wc, rfl, ⟨ints_of_iown (iown_keep o1 fun k hk => hfar k (o1.lt k hk).1), ints_of_iown (iown_keep o2 fun k hk => hfar k (o2.lt k hk).1), ints_of_iown (iown_keep o3 fun k hk => hfar k (o3.lt k hk).1)⟩, ?_⟩
  exact (((HB.out.1.trans (hb.mono HB.out.1.size)).setCell (p := ⟨w.heap.size, 0, none⟩) (by simp) _).setCell (p := ⟨w.heap.size, 1, none⟩) (by simp) _).setCell (p := ⟨w.heap.size, 2, none⟩) (by simp) _
end Go.Proofs.YtnkfggccahohpaaDoor
