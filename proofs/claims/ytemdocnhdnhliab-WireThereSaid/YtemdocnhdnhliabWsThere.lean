/- WireThere holds: what was put behind bytes is taken from there again: for all bytes, numbers and lists the law answers true and its arguments read as they did. No condition beside the row's own. -/
import Derived.Test.YtemdocnhdnhliabCrU
import Derived.Test.YtemdocnhdnhliabWrI
import Derived.SizedLaws
namespace Go.Proofs.Ytemdocnhdnhliab
open Go.ChangeShapes Go.WideShapes Go.ChangeAt Go.RowKit Go.Deep Cr

set_option maxRecDepth 100000 in
theorem wireThere_lifted (os : Os) (started : os.Started) (H : Type) (enc : TypeId × Value → H) :
    ReturnsInHanded {} Try.checked os 3 .any (Rows.wireThereSpec.pre6 enc Try.prog Try.f3 Rows.wireThereRow.domain false) (Rows.wireThereSpec.post enc Try.prog Try.f3 false true false false) := by
  refine returnsInHanded_of_change_sized (C := Try.checked) Try.own started (by kernel_rfl) Try.func3
    (ChangeSpec.witness6 (enc := enc) (C := Try.checked) false ⟨#[], #[.slice none 0 0, .int .u64 0, .int .i64 0, .slice none 0 0], []⟩ 8 (by kernel_rfl) (by kernel_rfl) (by kernel_rfl) (by kernel_rfl)) ?_
  intro W base args ds gs before hval0 hW _ hsz0 _
  have hval : ∀ (j : Nat) t v, Try.f3.params[j]? = some t → args[j]? = some v → Value.okWide Try.prog W .any base t v := hval0
  have hsz : (DataW.weightsEach Try.prog (Try.f3.params.toList ++ Rows.wireThereSpec.plain.varTypes Try.prog) (ds ++ gs)).all (· ≤ reachBytes) = true := hsz0
  have hW' := hW
  obtain ⟨p, q, hA0, hV, rfl, hfz, hnd⟩ := hW
  have hA : DataW.TrodAll enc Try.prog W 0 (fun _ => true) true Try.f3.params.toList args.toList ds p := hA0
  rw [Try.params3] at hA hval hsz
  obtain ⟨v0, vs0, d0, ds0, p0, q0, hargs, rfl, rfl, hr0, r0⟩ := trodAll_cons hA
  obtain ⟨v1, vs1, d1, ds1, p1, q1, rfl, rfl, rfl, hr1, r1⟩ := trodAll_cons r0
  obtain ⟨v2, vs2, d2, ds2, p2, q2, rfl, rfl, rfl, hr2, r2⟩ := trodAll_cons r1
  obtain ⟨v3, vs3, d3, ds3, p3, q3, rfl, rfl, rfl, hr3, r3⟩ := trodAll_cons r2
  obtain ⟨rfl, rfl, rfl⟩ := trodAll_nil r3
  obtain rfl : args = #[v0, v1, v2, v3] := by cases args; simp at hargs; simp [hargs]
  obtain ⟨rfl, rfl⟩ := trodVars_none hV
  obtain ⟨a0, c0, l0, rfl, hl0, hb0, hr0', hc0, hn0⟩ := bytes_open (hval 0 22 v0 rfl rfl) hr0
  obtain ⟨x1, rfl, _, _, hw1⟩ := open_int Try.underlying23 (hval 1 23 v1 rfl rfl) hr1
  have hx1 := u64_range hw1
  obtain ⟨n1, rfl⟩ : ∃ n : Nat, x1 = n := ⟨x1.toNat, by omega⟩
  obtain ⟨n2, rfl, _, _, hw2⟩ := open_int Try.underlying3 (hval 2 3 v2 rfl rfl) hr2
  have hx2 := i64_range hw2
  obtain ⟨a3, c3, l3, rfl, hl3, hb3, hr3', hc3, hn3⟩ := words_open (hval 3 24 v3 rfl rfl) hr3
  refine (there_calls a0 a3 c0 c3 l0 l3 n1 (by omega) n2 W hl0 hl3 hb0 (reach_bytes hsz (j := 0) rfl rfl hr0') (reach_words hsz (j := 3) rfl rfl hr3') hn0 hb3).mono fun e W' ⟨he, hw⟩ => ?_
  subst he
  exact ⟨_, rfl, post_of_law hW' rfl (by kernel_rfl) rfl (by rw [Try.params3]; intro t ht; simp at ht; rcases ht with rfl | rfl | rfl | rfl <;> exact ⟨by kernel_rfl, of_decide_eq_true (by kernel_rfl)⟩) hw⟩

theorem wireThere_holds : Rows.WireThereSaid :=
  OpenClaim.holds_of_wide 3 Try.f3 rfl rfl rfl rfl rfl rfl rfl ⟨rfl, rfl, rfl, rfl, rfl⟩ rfl rfl rfl rfl rfl (by kernel_rfl) Try.func3 (by kernel_rfl)
    (of_decide_eq_true (by kernel_rfl)) (by unfold Func.isWrapper; rw [if_neg (of_decide_eq_false (by kernel_rfl))]; exact ⟨rfl, rfl⟩)
    (fun os started H enc _ => wireThere_lifted os started H enc)
#print axioms wireThere_holds
end Go.Proofs.Ytemdocnhdnhliab
