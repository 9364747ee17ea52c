/- viaducttop.small. -/
import Derived.Test.YthgmhhlgjooeaaaGreatDoorWjF
namespace Go.Proofs.YthgmhhlgjooeaaaGreatDoor
open Go.RowKit Go.Extern

attribute [local go_sem] Oper.semAt_some

theorem btr {w wm wy : World} (h1 : Below w.heap.size w wm) (h2 : Below wm.heap.size wm wy) : Below w.heap.size w wy := h1.trans (h2.mono h1.size)
set_option maxHeartbeats 1000000 in
theorem small_calls (N : Int) (ao : Option Addr) (cap : Nat) (xs : List (Int × Int × Int)) (w : World) (hX : HasArcs w (.slice ao xs.length cap) xs) (hm : xs.length ≤ maxLen) :
    Calls Tryz.prog 10 #[.agg #[.int .i64 N, .slice ao xs.length cap], .int .i64 10] w fun e w' => e = .returned (.bool (fewB N xs 10 && decide (xs.length ≤ 200))) ∧ Below w.heap.size w w' := by
  obtain ⟨W0, hW0⟩ : ∃ W0, w.alloc (.cells #[.int .i64 N, .slice ao xs.length cap] 24) = W0 := ⟨_, rfl⟩
  have HW0 : Hid (w.alloc (.cells #[.int .i64 N, .slice ao xs.length cap] 24) = W0) := hW0
  have hB0 : Below w.heap.size w W0 := by rw [← hW0]; exact (Below.refl _ w).alloc (Nat.le_refl _) _
  have hbx : W0.heap[w.heap.size]? = some (.cells #[.int .i64 N, .slice ao xs.length cap] 24) := by rw [← hW0]; exact heap_new _ _
  have HFW : Hid (Calls Tryz.prog 35 #[.agg #[.int .i64 N, .slice ao xs.length cap], .int .i64 10] W0 fun e w' => e = .returned (.bool (fewB N xs 10)) ∧ Below W0.heap.size W0 w') := few_calls N ao cap xs 10 W0 (hX.keep hB0) hm
  have HB0 : Hid (Below w.heap.size w W0) := hB0
  have HK : Hid (∀ wx, Below W0.heap.size W0 wx → wx.heap[w.heap.size]? = some (.cells #[.int .i64 N, .slice ao xs.length cap] 24)) := fun wx hx => (hx.block _ (lt_of_get hbx)).trans hbx
  obtain ⟨g0, g1, _, _⟩ := cell_two hbx
  have gs := lt_of_get hbx
  clear hW0 hB0 hbx hX
  generalize fewB N xs 10 = fb at *
  go_enter Tryz.func10, Tryz.ntmps10
  go_upto_region 1 with fail
  rw [HW0.out]
  go_wp2_with fail
  refine HFW.out.mono ?_
  rintro e w1 ⟨rfl, hb⟩
  have H1 : Hid (Below w.heap.size w w1) := btr HB0.out hb
  clear g0 g1 gs
  obtain ⟨g0, g1, _, _⟩ := cell_two (HK.out w1 hb)
  have gs := lt_of_get (HK.out w1 hb)
  clear hb
  cases fb with
  | false =>
    go_wp2
    go_ret
    exact ⟨rfl, H1.out⟩
  | true =>
    by_cases h : xs.length ≤ 200
    · have h1 : (xs.length : Int) ≤ 200 := by omega
      have h2 : decide (xs.length ≤ 200) = true := decide_eq_true h
      go_wp2
      go_ret
      exact ⟨by simp [h], H1.out⟩
    · have h1 : ¬ (xs.length : Int) ≤ 200 := by omega
      have h2 : decide (xs.length ≤ 200) = false := decide_eq_false h
      go_wp2
      go_ret
      exact ⟨by simp [h]; try omega, H1.out⟩
end Go.Proofs.YthgmhhlgjooeaaaGreatDoor
