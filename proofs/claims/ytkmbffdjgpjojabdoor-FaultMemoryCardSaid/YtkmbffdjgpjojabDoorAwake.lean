/- The law's own example ('awake'): it answers true, and nothing that was there turns. -/
import Derived.Test.YtkmbffdjgpjojabDoorTextW
import Derived.Test.YtkmbffdjgpjojabDoorErrI
namespace Go.Proofs.YtkmbffdjgpjojabDoor
open Go.RowKit Go.Extern

theorem itoa2 : Lib.itoa 2 = [50] := by simp [Lib.itoa, Lib.decDigits]
theorem itoa3 : Lib.itoa 3 = [51] := by simp [Lib.itoa, Lib.decDigits]
theorem awakeText : Lib.join ((([(5, 2), (1, 3)] : List (Int × Int)).take 64).map wordOf ++ (if codeOf (cutTail (.iface 27 (.int .i64 4)) [(5, 2), (1, 3)] 64) = 0 then [] else [numText (codeOf (cutTail (.iface 27 (.int .i64 4)) [(5, 2), (1, 3)] 64))])) [58, 32]
    = [115, 116, 101, 112, 32, 50, 58, 32, 108, 105, 110, 101, 32, 51, 58, 32, 110, 111, 116, 32, 97, 32, 110, 117, 109, 98, 101, 114] := by
  simp [cutTail, codeOf, wordOf, kindBytes, itoa2, itoa3, numText, numWords, Lib.join, List.intercalate]

set_option maxRecDepth 100000 in
set_option maxHeartbeats 1000000 in
theorem awake_calls (w : World) (hg : HasType w) (hpow : HasPow w) :
    Calls Tryd.prog 5 #[] w fun e w' => e = .returned (.bool true) ∧ Below w.heap.size w w' := by
  have HG : Hid (HasType w) := hg
  have HP : Hid (HasPow w) := hpow
  have hg0 : 0 < w.heap.size := hg.pos
  clear hg hpow
  go_enter Tryd.func5, Tryd.ntmps5
  go_wp2_with fail
  refine (at_some 1 3 27 _ _).mono ?_
  rintro e w1 ⟨rfl, hw1⟩
  have HE1 : Hid (IsErr w1 (.iface 27 (.int .i64 4)) [(1, 3)] (.iface 34 (.pointer (some ⟨w.heap.size, 0, none⟩)))) := by
    subst hw1
    exact isErr_new (p := (1, 3)) (show IsErr w (.iface 27 (.int .i64 4)) [] (.iface 27 (.int .i64 4)) from rfl)
  have HB1 : Hid (Below w.heap.size w w1) := by subst hw1; exact (Below.refl _ _).alloc (Nat.le_refl _) _
  clear hw1
  go_wp2_with fail
  refine (at_some 5 2 34 _ w1).mono ?_
  rintro e w2 ⟨rfl, hw2⟩
  have HE2 : Hid (IsErr w2 (.iface 27 (.int .i64 4)) [(5, 2), (1, 3)] (.iface 34 (.pointer (some ⟨w1.heap.size, 0, none⟩)))) := by
    subst hw2
    exact isErr_new (p := (5, 2)) HE1.out
  have HB2 : Hid (Below w.heap.size w w2) := by subst hw2; exact HB1.out.alloc HB1.out.size _
  clear hw2
  go_wp2_with fail
  refine (errorsIs_num _ 4 4 _ w2 HE2.out).mono ?_
  rintro e w3 ⟨rfl, hw3⟩
  subst hw3
  have HG2 : Hid (HasType w3) := HG.out.keep HB2.out hg0
  have HP2 : Hid (HasPow w3) := HP.out.keep HB2.out
  go_wp2_with fail
  refine (code_num _ 4 _ w3 HE2.out (by decide) HG2.out).mono ?_
  rintro e w4 ⟨rfl, hb4⟩
  have HE4 : Hid (IsErr w4 (.iface 27 (.int .i64 4)) [(5, 2), (1, 3)] (.iface 34 (.pointer (some ⟨w1.heap.size, 0, none⟩)))) := HE2.out.keep (Below.keeps hb4)
  have HB4 : Hid (Below w.heap.size w w4) := HB2.out.trans (hb4.mono HB2.out.size)
  have HG4 : Hid (HasType w4) := HG.out.keep HB4.out hg0
  have HP4 : Hid (HasPow w4) := HP.out.keep HB4.out
  clear hb4
  have HTX : Hid (Calls Tryd.prog 7 #[.iface 34 (.pointer (some ⟨w1.heap.size, 0, none⟩))] w4 fun e w' => e = .returned (.string ⟨#[115, 116, 101, 112, 32, 50, 58, 32, 108, 105, 110, 101, 32, 51, 58, 32, 110, 111, 116, 32, 97, 32, 110, 117, 109, 98, 101, 114]⟩) ∧ Below w4.heap.size w4 w') := by
    have h := text_calls (Or.inr ⟨4, rfl⟩) _ _ w4 HE4.out HG4.out HP4.out (fun p hp => by simp at hp; rcases hp with rfl | rfl <;> simp [in64]) (by simp [cutTail, codeOf, in64])
    rw [awakeText] at h
    exact h
  go_wp2_with fail
  refine HTX.out.mono ?_
  rintro e w5 ⟨rfl, hb5⟩
  have HE5 : Hid (IsErr w5 (.iface 27 (.int .i64 4)) [(5, 2), (1, 3)] (.iface 34 (.pointer (some ⟨w1.heap.size, 0, none⟩)))) := HE4.out.keep (Below.keeps hb5)
  have HB5 : Hid (Below w.heap.size w w5) := HB4.out.trans (hb5.mono HB4.out.size)
  have HG5 : Hid (HasType w5) := HG.out.keep HB5.out hg0
  clear hb5
  go_wp2_with fail
  refine (places_calls (Or.inr ⟨4, rfl⟩) _ _ w5 HE5.out HG5.out).mono ?_
  rintro e w6 ⟨pl, rfl, hrow, hb6⟩
  have HB6 : Hid (Below w.heap.size w w6) := HB5.out.trans (hb6.mono HB5.out.size)
  obtain ⟨g, cap, hpl⟩ : ∃ g cap, pl = .slice (some ⟨g, 0, none⟩) 2 cap := by
    rcases hrow.2 with ⟨_, h⟩ | ⟨g, cap, cur, h, _⟩
    · simp at h
    · exact ⟨g, cap, h⟩
  clear hrow hb6
  rw [hpl]
  clear hpl
  go_wp2
  go_ret
  exact ⟨rfl, HB6.out⟩
end Go.Proofs.YtkmbffdjgpjojabDoor
