/- viaductref03.Kept: where the list is as it was laid it says so. -/
import Derived.Test.YtghbekpilhnkfabDoorCsrSp
import Derived.Deep.RegionHeld3
namespace Go.Proofs.YtghbekpilhnkfabDoor
open Go.RowKit Go.Extern

attribute [local go_sem] Oper.semAt_some

theorem marks_at (xs : List (Int × Int × Int)) : (xs ++ marks)[xs.length]? = some (41, 0, 0) ∧ (xs ++ marks)[xs.length + 1]? = some (42, 0, 0) := by
  constructor
  · rw [List.getElem?_append_right (Nat.le_refl _)]; simp [marks]
  · rw [List.getElem?_append_right (by omega)]; simp [marks]
theorem arcs_front {w : World} {lo : Option Addr} {n lc : Nat} {xs ys : List (Int × Int × Int)} (h : HasArcs w (.slice lo n lc) (xs ++ ys)) : HasArcs w (.slice lo xs.length lc) xs := by
  refine ⟨lo, lc, rfl, fun j a hj => ?_⟩
  have hlt := (List.getElem?_eq_some_iff.1 hj).1
  exact h.at (by rw [List.getElem?_append_left hlt]; exact hj)

set_option maxRecDepth 100000 in
set_option maxHeartbeats 1000000 in
theorem kept_calls (N : Int) (ao : Option Addr) (cap g sc : Nat) (xs : List (Int × Int × Int)) (w : World) (hl : HasArcs w (.slice ao xs.length cap) xs) (hf : HasArcs w (.slice (some ⟨g, 0, none⟩) (xs.length + 2) sc) (xs ++ marks)) (hsc : xs.length + 2 ≤ sc) (hm : xs.length * 24 ≤ 140737488351232) :
    Calls Tryd.prog 9 #[.agg #[.int .i64 N, .slice ao xs.length cap], .slice (some ⟨g, 0, none⟩) (xs.length + 2) sc] w fun e w' => e = .returned (.bool true) ∧ Below w.heap.size w w' := by
  obtain ⟨W0, hW0⟩ : ∃ W0, w.alloc (.cells #[.int .i64 N, .slice ao xs.length cap] 24) = W0 := ⟨_, rfl⟩
  have HW0 : Hid (w.alloc (.cells #[.int .i64 N, .slice ao xs.length cap] 24) = W0) := hW0
  have hB0 : Below w.heap.size w W0 := by rw [← hW0]; exact (Below.refl _ w).alloc (Nat.le_refl _) _
  have k0 : W0.heap[w.heap.size]? = some (.cells #[.int .i64 N, .slice ao xs.length cap] 24) := by rw [← hW0]; exact heap_new _ _
  obtain ⟨b', o', e', hgl, p0, p1, p2⟩ := hf.at (marks_at xs).1
  cases e'
  obtain ⟨b', o', e', _, q0, q1, q2⟩ := hf.at (marks_at xs).2
  cases e'
  simp only [Nat.zero_add] at p0 p1 p2 q0 q1 q2
  have HK : Hid (∀ wx, Below W0.heap.size W0 wx → (wx.cell? ⟨w.heap.size, 0, none⟩ = some (.int .i64 N) ∧ wx.cell? ⟨w.heap.size, 1, none⟩ = some (.slice ao xs.length cap)) ∧ (w.heap.size < wx.heap.size ∧ g < wx.heap.size) ∧ (wx.cell? ⟨g, xs.length * 3, none⟩ = some (.int .i64 41) ∧ wx.cell? ⟨g, xs.length * 3 + 1, none⟩ = some (.int .i64 0) ∧ wx.cell? ⟨g, xs.length * 3 + 2, none⟩ = some (.int .i64 0)) ∧ (wx.cell? ⟨g, (xs.length + 1) * 3, none⟩ = some (.int .i64 42) ∧ wx.cell? ⟨g, (xs.length + 1) * 3 + 1, none⟩ = some (.int .i64 0) ∧ wx.cell? ⟨g, (xs.length + 1) * 3 + 2, none⟩ = some (.int .i64 0)) ∧ Below w.heap.size w wx) := fun wx hx => by
    have g0 := (hx.block _ (lt_of_get k0)).trans k0
    have hb := hB0.trans (hx.mono hB0.size)
    exact ⟨⟨(cell_two g0).1, (cell_two g0).2.1⟩, ⟨lt_of_get g0, Nat.lt_of_lt_of_le hgl hb.size⟩, ⟨(hb.cell (p := ⟨g, _, none⟩) hgl).trans p0, (hb.cell (p := ⟨g, _, none⟩) hgl).trans p1, (hb.cell (p := ⟨g, _, none⟩) hgl).trans p2⟩, ⟨(hb.cell (p := ⟨g, _, none⟩) hgl).trans q0, (hb.cell (p := ⟨g, _, none⟩) hgl).trans q1, (hb.cell (p := ⟨g, _, none⟩) hgl).trans q2⟩, hb⟩
  have HSA : Hid (∀ wx, Below W0.heap.size W0 wx → Calls Tryd.prog 24 #[.slice (some ⟨g, 0, none⟩) xs.length sc, .slice ao xs.length cap] wx fun e w' => e = .returned (.bool true) ∧ Below W0.heap.size W0 w') := fun wx hx => by
    have hb := hB0.trans (hx.mono hB0.size)
    refine (sameArcs_yes _ _ xs wx (arcs_front (hf.keep hb)) (hl.keep hb) (by unfold maxLen; omega)).mono ?_
    rintro e w' ⟨he, h⟩
    exact ⟨he, hx.trans (h.mono hx.size)⟩
  have hsl : ∀ wx, (Instr.slice 22 (.slice (some ⟨g, 0, none⟩) (xs.length + 2) sc) none (some (.int .i64 (xs.length : Int))) none).run Tryd.prog wx = .ok (.slice (some ⟨g, 0, none⟩) xs.length sc) wx := fun wx => slice_upto g (xs.length + 2) sc xs.length hsc (by omega) wx
  have hw2 : IntKind.i64.wrap ((xs.length : Int) + 2) = (xs.length : Int) + 2 := by rw [IntKind.wrap_i64] <;> omega
  have hw1 : IntKind.i64.wrap ((xs.length : Int) + 1) = (xs.length : Int) + 1 := by rw [IntKind.wrap_i64] <;> omega
  have l1 : (xs.length : Int) < (xs.length : Int) + 2 := by omega
  have l2 : (xs.length : Int) + 1 < (xs.length : Int) + 2 := by omega
  have l3 : (0 : Int) ≤ (xs.length : Int) := by omega
  have l4 : (0 : Int) ≤ (xs.length : Int) + 1 := by omega
  clear hl hf hB0 k0 hgl p0 p1 p2 q0 q1 q2 hW0
  go_enter Tryd.func9, Tryd.ntmps9
  go_upto_region 1 with fail
  rw [HW0.out]
  obtain ⟨⟨c0, c1⟩, ⟨cs, cg⟩, _, _, _⟩ := HK.out W0 (Below.refl _ _)
  go_upto_region 2 with fail
  obtain ⟨_, _, ⟨p0, p1, p2⟩, ⟨q0, q1, q2⟩, _⟩ := HK.out W0 (Below.refl _ _)
  go_region_held3 (fun w' => (w'.cell? ⟨w.heap.size, 0, none⟩ = some (.int .i64 N) ∧ w'.cell? ⟨w.heap.size, 1, none⟩ = some (.slice ao xs.length cap)) ∧ (w'.cell? ⟨g, xs.length * 3, none⟩ = some (.int .i64 41) ∧ w'.cell? ⟨g, xs.length * 3 + 1, none⟩ = some (.int .i64 0) ∧ w'.cell? ⟨g, xs.length * 3 + 2, none⟩ = some (.int .i64 0)) ∧ (w'.cell? ⟨g, (xs.length + 1) * 3, none⟩ = some (.int .i64 42) ∧ w'.cell? ⟨g, (xs.length + 1) * 3 + 1, none⟩ = some (.int .i64 0) ∧ w'.cell? ⟨g, (xs.length + 1) * 3 + 2, none⟩ = some (.int .i64 0))) (go_keep) (first
    | (go_at_call 24; refine (HSA.out _ (Below.refl _ _).drew).mono ?_; rintro e w1 ⟨rfl, h1⟩; have HB1 : Hid (Below W0.heap.size W0 w1) := h1; obtain ⟨⟨d0, d1⟩, ⟨ds, dg⟩, ⟨r0, r1, r2⟩, ⟨s0, s1, s2⟩, hbe⟩ := HK.out w1 h1; have HBE : Hid (Below w.heap.size w w1) := hbe; clear h1 hbe))
  go_wp2
  go_ret
  exact ⟨rfl, HBE.out⟩
end Go.Proofs.YtghbekpilhnkfabDoor
