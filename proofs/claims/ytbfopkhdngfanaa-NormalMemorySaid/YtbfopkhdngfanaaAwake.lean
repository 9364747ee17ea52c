/- The laws' own example ('awake'): it answers true, and nothing that was there turns. -/
import Derived.Test.YtbfopkhdngfanaaOf
import Derived.Test.YtbfopkhdngfanaaOfAll
import Derived.Test.YtbfopkhdngfanaaIs
import Derived.Test.YtbfopkhdngfanaaSameG
namespace Go.Proofs.Ytbfopkhdngfanaa
open Go.RowKit Go.Extern Go.Sort Go.Shelf

attribute [local go_sem] Oper.semAt_some

def xs4 : List (Int × Int × Int) := [(2, 0, 5), (0, 1, 4), (1, 1, 0), (0, 1, 3)]
def zs2 : List (Int × Int × Int) := [(0, 1, 3), (2, 0, 5)]
theorem xs4_good : graphErr 3 xs4 = (0, []) := by kernel_rfl
theorem zs2_good : graphErr 3 zs2 = (0, []) := by kernel_rfl
theorem xs4_compacts : Compacts xs4 zs2 := by
  have h := compacts_all xs4 (by decide)
  rw [show normA xs4 = zs2 by kernel_rfl] at h
  exact h
theorem zs2_rises : Rises zs2 := by
  refine ⟨fun a ha => ?_, fun i a b ha hb => ?_⟩
  · simp [zs2] at ha
    rcases ha with rfl | rfl <;> rfl
  · rcases i with _ | i
    · simp [zs2] at ha hb
      subst ha hb
      decide
    · simp [zs2] at hb

set_option maxRecDepth 100000 in
set_option maxHeartbeats 4000000 in
theorem awake_calls (w : World) : Calls Try.prog 4 #[] w fun e w' => e = .returned (.bool true) ∧ Below w.heap.size w w' := by
  obtain ⟨W0, hW0⟩ : ∃ W0, w.alloc (.cells #[.int .i64 2, .int .i64 0, .int .i64 5, .int .i64 0, .int .i64 1, .int .i64 4, .int .i64 1, .int .i64 1, .int .i64 0, .int .i64 0, .int .i64 1, .int .i64 3] 42) = W0 := ⟨_, rfl⟩
  have hB0 : Below w.heap.size w W0 := by rw [← hW0]; exact (Below.refl _ w).alloc (Nat.le_refl _) _
  have k0 : W0.heap[w.heap.size]? = some (.cells #[.int .i64 2, .int .i64 0, .int .i64 5, .int .i64 0, .int .i64 1, .int .i64 4, .int .i64 1, .int .i64 1, .int .i64 0, .int .i64 0, .int .i64 1, .int .i64 3] 42) := by rw [← hW0]; exact heap_new _ _
  have hA : HasArcs W0 (.slice (some ⟨w.heap.size, 0, none⟩) 4 4) xs4 := by
    refine ⟨_, 4, rfl, fun j a hj => ⟨w.heap.size, 0, rfl, lt_of_get k0, ?_⟩⟩
    rcases j with _ | _ | _ | _ | j <;> simp [xs4] at hj <;> subst hj <;> simp [World.cell?, k0]
  have HOF : Hid (Calls Try.prog 7 #[.agg #[.int .i64 3, .slice (some ⟨w.heap.size, 0, none⟩) 4 4]] W0 fun e w' => ∃ b, e = .returned (.tuple #[.agg #[.int .i64 3, .slice (some ⟨b, 0, none⟩) 2 4], .nilIface]) ∧ HasArcs w' (.slice (some ⟨b, 0, none⟩) 2 4) zs2 ∧ Below W0.heap.size W0 w') :=
    Calls.mono (of_calls 3 (some ⟨w.heap.size, 0, none⟩) 4 xs4 zs2 W0 hA xs4_good (by decide) xs4_compacts) fun e w' ⟨b, h1, h2, _, h3⟩ => ⟨b, h1, h2, h3⟩
  have HW0 : Hid (w.alloc (.cells #[.int .i64 2, .int .i64 0, .int .i64 5, .int .i64 0, .int .i64 1, .int .i64 4, .int .i64 1, .int .i64 1, .int .i64 0, .int .i64 0, .int .i64 1, .int .i64 3] 42) = W0) := hW0
  have HB0 : Hid (Below w.heap.size w W0) := hB0
  clear hB0 k0 hA hW0
  go_enter Try.func4, Try.ntmps4
  go_wp2_with fail
  rw [HW0.out]
  refine HOF.out.mono ?_
  rintro e w1 ⟨b, rfl, hA1, hb1⟩
  have HB1 : Hid (Below w.heap.size w w1) := HB0.out.trans (hb1.mono HB0.out.size)
  have HA1 : Hid (HasArcs w1 (.slice (some ⟨b, 0, none⟩) 2 4) zs2) := hA1
  clear hA1 hb1
  have HIS : Hid (∀ wx, Below w1.heap.size w1 wx → Calls Try.prog 10 #[.agg #[.int .i64 3, .slice (some ⟨b, 0, none⟩) 2 4]] wx fun e w' => e = .returned (.tuple #[.bool true, .nilIface]) ∧ Below wx.heap.size wx w') := fun wx h =>
    is_yes 3 (some ⟨b, 0, none⟩) 4 zs2 wx (HA1.out.keep h) zs2_good (by unfold maxLen; decide) zs2_rises
  have hbg : Below w1.heap.size w1 (w1.alloc (.cells #[.int .i64 3, .slice (some ⟨b, 0, none⟩) 2 4] 24)) := (Below.refl _ w1).alloc (Nat.le_refl _) _
  have HBG : Hid (Below w1.heap.size w1 (w1.alloc (.cells #[.int .i64 3, .slice (some ⟨b, 0, none⟩) 2 4] 24))) := hbg
  have HNG : Hid ((w1.alloc (.cells #[.int .i64 3, .slice (some ⟨b, 0, none⟩) 2 4] 24)).heap[w1.heap.size]? = some (.cells #[.int .i64 3, .slice (some ⟨b, 0, none⟩) 2 4] 24)) := heap_new _ _
  clear hbg
  go_wp2_with fail
  refine (HIS.out _ HBG.out).mono ?_
  rintro e w2 ⟨rfl, hb2⟩
  have HB2 : Hid (Below w1.heap.size w1 w2) := HBG.out.trans (hb2.mono HBG.out.size)
  have hN2 := (hb2.block w1.heap.size (by simp)).trans HNG.out
  obtain ⟨c0, c1⟩ : w2.cell? ⟨w1.heap.size, 0, none⟩ = some (.int .i64 3) ∧ w2.cell? ⟨w1.heap.size, 1, none⟩ = some (.slice (some ⟨b, 0, none⟩) 2 4) := by simp [World.cell?, hN2]
  have hs2 : w1.heap.size < w2.heap.size := lt_of_get hN2
  clear hb2 hN2
  have HSM : Hid (Calls Try.prog 16 #[.agg #[.int .i64 3, .slice (some ⟨b, 0, none⟩) 2 4], .agg #[.int .i64 3, .slice (some ⟨w2.heap.size, 0, none⟩) 2 2]] (w2.alloc (.cells #[.int .i64 0, .int .i64 1, .int .i64 3, .int .i64 2, .int .i64 0, .int .i64 5] 42)) fun e w' => e = .returned (.bool true) ∧ Below w.heap.size w w') := by
    have hn := heap_new w2 (.cells #[.int .i64 0, .int .i64 1, .int .i64 3, .int .i64 2, .int .i64 0, .int .i64 5] 42)
    have hbl : Below w2.heap.size w2 (w2.alloc (.cells #[.int .i64 0, .int .i64 1, .int .i64 3, .int .i64 2, .int .i64 0, .int .i64 5] 42)) := (Below.refl _ w2).alloc (Nat.le_refl _) _
    refine (same_yes 3 (some ⟨b, 0, none⟩) (some ⟨w2.heap.size, 0, none⟩) 2 2 4 2 zs2 _ ((HA1.out.keep HB2.out).keep hbl) ⟨_, 2, rfl, fun j a hj => ⟨w2.heap.size, 0, rfl, lt_of_get hn, ?_⟩⟩ (by unfold maxLen; decide)).mono ?_
    · rcases j with _ | _ | j <;> simp [zs2] at hj <;> subst hj <;> (simp only [World.cell?, hn]; simp)
    · rintro e w' ⟨rfl, hb⟩
      have h1 : Below w.heap.size w w2 := HB1.out.trans (HB2.out.mono HB1.out.size)
      have h2 := h1.trans (hbl.mono h1.size)
      exact ⟨rfl, h2.trans (hb.mono h2.size)⟩
  go_wp2_with fail
  refine HSM.out.mono ?_
  rintro e w3 ⟨rfl, hb3⟩
  have HB3 : Hid (Below w.heap.size w w3) := hb3
  clear hb3
  go_wp2
  go_ret
  exact ⟨rfl, HB3.out⟩
end Go.Proofs.Ytbfopkhdngfanaa
