/- the law's awake. -/
import Derived.Test.YtlhblkahnenjcaaDoorHrQ
import Derived.Test.YtlhblkahnenjcaaDoorHrS
namespace Go.Proofs.YtlhblkahnenjcaaDoor.Hi
open Go.RowKit Go.Extern Go.Sort Go.Shelf

attribute [local go_sem] Oper.semAt_some

theorem arcs_three : sortE (gArcs three (stds three)) = [(0, 1, 4), (1, 2, 1)] := by kernel_rfl

def xsW : List (Int × Int × Int) := [(0, 1, 4), (1, 2, 1)]
theorem arcs_two (w : World) : HasArcs (w.alloc (.cells #[.int .i64 0, .int .i64 1, .int .i64 4, .int .i64 1, .int .i64 2, .int .i64 1] 60)) (.slice (some ⟨w.heap.size, 0, none⟩) 2 2) xsW := by
  have k0 := heap_newW w (.cells #[.int .i64 0, .int .i64 1, .int .i64 4, .int .i64 1, .int .i64 2, .int .i64 1] 60)
  generalize w.alloc (.cells #[.int .i64 0, .int .i64 1, .int .i64 4, .int .i64 1, .int .i64 2, .int .i64 1] 60) = W0 at *
  refine ⟨_, 2, rfl, fun j a hj => ⟨w.heap.size, 0, rfl, some_lt k0, ?_⟩⟩
  rcases j with _ | _ | j <;> simp [xsW] at hj <;> subst hj <;> simp [World.cell?, k0]

theorem graph_three {v : HV} {w : World} (h : HasH w v three) : Calls Tryd.prog 16 #[hvl v three] w fun e w' => ∃ lo c, e = .returned (.tuple #[.agg #[.int .i64 3, .slice lo 2 c], .nilIface]) ∧ Below w.heap.size w w' ∧ HasArcs w' (.slice lo 2 c) xsW := by
  refine (graph_calls v three w h (by decide) (by decide) (by decide)).mono ?_
  rintro e w2 ⟨N, lo, k, c, u, L, rfl, hb2, hA, hh⟩
  rcases hh with ⟨_, hN, hL, rfl⟩ | ⟨hc, _⟩
  · rw [arcs_three] at hL
    subst hL
    have hk : k = 2 := by obtain ⟨_, _, e, _⟩ := hA; injection e
    subst hk
    subst hN
    exact ⟨lo, c, rfl, hb2, hA⟩
  · exact absurd chk_three hc
theorem ends_three' {v : HV} {w : World} (h : HasH w v three) : Calls Tryd.prog 10 #[hvl v three, .int .i64 2] w fun e w' => e = .returned (.tuple #[.int .i64 1, .int .i64 0, .nilIface]) ∧ Below w.heap.size w w' := by
  refine (ends_calls v three 2 w h (by decide) (by decide) (by decide)).mono ?_
  rintro e w2 ⟨x, y, u, rfl, hb2, hh⟩
  rw [ends_three] at hh
  rcases hh with ⟨_, h1, rfl⟩ | ⟨_, h1, _⟩ | ⟨hc, _⟩
  · simp only [Prod.mk.injEq] at h1
    obtain ⟨rfl, rfl, _⟩ := h1
    exact ⟨rfl, hb2⟩
  · simp at h1
  · exact absurd chk_three hc
theorem check_three {v : HV} {w : World} (h : HasH w v three) : Calls Tryd.prog 9 #[hvl v three] w fun e w' => e = .returned .nilIface ∧ Below w.heap.size w w' := by
  refine (check_calls v three w h (by decide) (by decide) (by decide)).mono ?_
  rintro e w2 ⟨u, rfl, ht, hb⟩
  rw [chk_three] at ht
  rw [isTold_nil ht]
  exact ⟨rfl, hb⟩

set_option maxRecDepth 100000 in
set_option maxHeartbeats 4000000 in
theorem awake10_calls (w : World) : Calls Tryd.prog 4 #[] w fun e w' => e = .returned (.bool true) ∧ Below w.heap.size w w' := by
  go_enter Tryd.func4, Tryd.ntmps4
  go_wp2_with (first | (go_at_call 16; refine (graph_three HH1.out).mono ?_; rintro e w2 ⟨lo, c, rfl, hb2, hA2⟩; have HA2 : Hid (HasArcs w2 (.slice lo 2 c) xsW ∧ Below w.heap.size w w2) := ⟨hA2, HB1.out.trans (hb2.mono HB1.out.size)⟩; clear hA2 hb2) | (go_at_call 6; refine (three_calls _).mono ?_; rintro e w1 ⟨v1, rfl, hH1, hb1⟩; have HH1 : Hid (HasH w1 v1 three) := hH1; have HB1 : Hid (Below w.heap.size w w1) := hb1; clear hH1 hb1))
  obtain ⟨y, hy⟩ : ∃ y, w2.heap.size = y := ⟨_, rfl⟩
  obtain ⟨W2, hW2⟩ : ∃ W2, w2.alloc (.cells #[.int .i64 3, .slice lo 2 c] 55) = W2 := ⟨_, rfl⟩
  have HQ : Hid (∀ W, Below W2.heap.size W2 W → W.heap[y]? = some (.cells #[.int .i64 3, .slice lo 2 c] 55) ∧ HasArcs W (.slice lo 2 c) xsW ∧ Below w.heap.size w W) := by
    intro W hW
    have h1 : Below w2.heap.size w2 W2 := by rw [← hW2]; exact (Below.refl _ _).alloc (Nat.le_refl _) _
    have h2 : W2.heap[y]? = some (.cells #[.int .i64 3, .slice lo 2 c] 55) := by rw [← hW2, ← hy]; exact heap_newW _ _
    have h3 : Below w2.heap.size w2 W := h1.trans (hW.mono h1.size)
    exact ⟨(hW.block _ (some_lt h2)).trans h2, HA2.out.1.keep h3, HA2.out.2.trans (h3.mono HA2.out.2.size)⟩
  rw [hW2, hy]
  have HY : Hid (w2.heap.size = y) := hy
  clear hy hW2
  go_wp2_with (first | (go_at_call 10; refine (ends_three' HH3.out.1).mono ?_; rintro e w4 ⟨rfl, hb4⟩; have HB4 : Hid (Below W2.heap.size W2 w4) := HH3.out.2.trans (hb4.mono HH3.out.2.size); clear hb4) | (go_at_call 9; refine (check_three HH5.out.1).mono ?_; rintro e w6 ⟨rfl, hb6⟩; have HB6 : Hid (Below W2.heap.size W2 w6) := HH5.out.2.trans (hb6.mono HH5.out.2.size); clear hb6; have hq6 := (HQ.out _ HB6.out).1; have c0 : w6.cell? ⟨y, 0, none⟩ = some (.int .i64 3) := (by simp [World.cell?, hq6]); have c1 : w6.cell? ⟨y, 1, none⟩ = some (.slice lo 2 c) := (by simp [World.cell?, hq6]); clear hq6) | (go_at_call 6; first | (refine (three_calls w4).mono ?_; rintro e w5 ⟨v5, rfl, hH5, hb5⟩; have HH5 : Hid (HasH w5 v5 three ∧ Below W2.heap.size W2 w5) := ⟨hH5, HB4.out.trans (hb5.mono HB4.out.size)⟩; clear hH5 hb5) | (refine (three_calls W2).mono ?_; rintro e w3 ⟨v3, rfl, hH3, hb3⟩; have HH3 : Hid (HasH w3 v3 three ∧ Below W2.heap.size W2 w3) := ⟨hH3, hb3⟩; clear hH3 hb3)))
  have hA7 := arcs_two w6
  have hb7 : Below w6.heap.size w6 (w6.alloc (.cells #[.int .i64 0, .int .i64 1, .int .i64 4, .int .i64 1, .int .i64 2, .int .i64 1] 60)) := (Below.refl _ _).alloc (Nat.le_refl _) _
  obtain ⟨_, hq2, hq3⟩ := HQ.out _ (HB6.out.trans (hb7.mono HB6.out.size))
  generalize w6.alloc (.cells #[.int .i64 0, .int .i64 1, .int .i64 4, .int .i64 1, .int .i64 2, .int .i64 1] 60) = W7 at *
  refine (gsame_yes 3 lo (some ⟨w6.heap.size, 0, none⟩) c 2 xsW W7 hq2 hA7 (by unfold maxLen; decide)).mono ?_
  rintro e w8 ⟨rfl, hb8⟩
  have HB8 : Hid (Below w.heap.size w w8) := hq3.trans (hb8.mono hq3.size)
  clear hq2 hq3 hA7 hb7 hb8 c0 c1
  go_wp2
  go_ret
  exact ⟨rfl, HB8.out⟩
end Go.Proofs.YtlhblkahnenjcaaDoor.Hi
