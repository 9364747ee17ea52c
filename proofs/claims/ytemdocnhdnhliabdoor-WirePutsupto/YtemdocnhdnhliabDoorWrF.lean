/- numbers as bytes: the law's own sanity (awake); the law WireBytes, walked. -/
import Derived.Test.YtemdocnhdnhliabDoorWrE
import Derived.Test.YtemdocnhdnhliabDoorCrH2
namespace Go.Proofs.YtemdocnhdnhliabDoor
open Go.RowKit Go.Extern Cr

attribute [local go_sem] Oper.semAt_some

theorem put_awake (w0 : Nat) (w : World) (hl : HasB w (.slice (some ⟨w0, 0, none⟩) 1 1) [255]) : Calls Tryd.prog 12 #[.slice (some ⟨w0, 0, none⟩) 1 1, .int .u64 258, .int .i64 3] w fun e w' => ∃ g, e = .returned (.tuple #[.slice (some ⟨g, 0, none⟩) 4 4, .nilIface]) ∧ HasB w' (.slice (some ⟨g, 0, none⟩) 4 4) [255, 2, 1, 0] ∧ Below w.heap.size w w' := by
  refine (put_calls (some ⟨w0, 0, none⟩) 1 [255] 258 (by omega) 3 w hl (by show 1 ≤ _; omega) (fun e => by cases e)).mono ?_
  rintro e w' (⟨_, _, _, g, he, hr⟩ | ⟨h, _⟩ | ⟨_, _, h, _⟩)
  · exact ⟨g, he, hr.has, hr.below⟩
  · omega
  · exact absurd h (by decide)
theorem take_awake (w0 : Nat) (w : World) (hl : HasB w (.slice (some ⟨w0, 0, none⟩) 3 3) [1, 2, 3]) : Calls Tryd.prog 21 #[.slice (some ⟨w0, 0, none⟩) 3 3, .int .i64 1, .int .i64 2] w fun e w' => e = .returned (.tuple #[.int .u64 770, .nilIface]) ∧ Below w.heap.size w w' := by
  refine (take_calls (some ⟨w0, 0, none⟩) 3 [1, 2, 3] 1 2 w hl (bts_of' rfl) (by show 3 ≤ _; omega) (Nat.le_refl _) (by omega)).mono ?_
  rintro e w' ⟨hb, ⟨_, _, _, _, he⟩ | ⟨h, _⟩⟩
  · exact ⟨he, hb⟩
  · have h' : (2 : Int) < 1 ∨ 8 < (2 : Int) ∨ (1 : Int) < 0 ∨ (3 : Int) < 1 + 2 := h
    omega
set_option maxRecDepth 100000 in
set_option maxHeartbeats 1000000 in
theorem awake18_calls (w : World) : Calls Tryd.prog 11 #[] w fun e w' => e = .returned (.bool true) ∧ Below w.heap.size w w' := by
  go_enter Tryd.func11, Tryd.ntmps11
  go_wp2_with (go_at_call 12; refine (put_awake _ _ (hasB_new' w [255] 1 (0, 0))).mono ?_; rintro e w1 ⟨g, rfl, hB, hb⟩; have H1 : Hid (HasB w1 (.slice (some ⟨g, 0, none⟩) 4 4) [255, 2, 1, 0] ∧ Below w.heap.size w w1) := ⟨hB, ((Below.refl _ w).alloc (Nat.le_refl _) _).trans (hb.mono (by simp))⟩; clear hB hb)
  refine (take_awake _ _ (hasB_new' w1 [1, 2, 3] 3 (0, 0))).mono ?_
  rintro e w2 ⟨rfl, hb⟩
  have hb2 : Below w1.heap.size w1 w2 := ((Below.refl _ w1).alloc (Nat.le_refl _) _).trans (hb.mono (by simp))
  have H2 : Hid (HasB w2 (.slice (some ⟨g, 0, none⟩) 4 4) [255, 2, 1, 0] ∧ Below w.heap.size w w2) := ⟨H1.out.1.keep hb2, H1.out.2.trans (hb2.mono H1.out.2.size)⟩
  clear hb hb2 H1
  go_wp2_with fail
  have hS := kSame_calls (some ⟨g, 0, none⟩) (some ⟨w2.heap.size, 0, none⟩) 4 4 [255, 2, 1, 0] _ (H2.out.1.keep ((Below.refl _ w2).alloc (Nat.le_refl _) (.cells #[.int .u8 255, .int .u8 2, .int .u8 1, .int .u8 0] 5))) (hasB_new' w2 [255, 2, 1, 0] 4 (0, 0))
  refine hS.mono ?_
  rintro e w3 ⟨rfl, hw3⟩
  have H3 : Hid (Below w.heap.size w w3) := by rw [hw3]; exact H2.out.2.alloc H2.out.2.size _
  clear hw3 hS
  go_wp2_with fail
  go_ret
  exact ⟨rfl, H3.out⟩
end Go.Proofs.YtemdocnhdnhliabDoor
