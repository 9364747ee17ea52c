/- HierMemory holds: for every hierarchy the law answers true and its argument reads as it did. No condition beside the row's own. -/
import Derived.Test.YtkehpmbnbknpfaaHgC
import Derived.SizedLaws
namespace Go.Proofs.Ytkehpmbnbknpfaa.Hi
open Go.ChangeShapes Go.WideShapes Go.ChangeAt Go.RowKit Go.Deep Go.Extern

set_option maxRecDepth 100000 in
theorem memory_lifted (os : Os) (started : os.Started) (H : Type) (enc : TypeId × Value → H) :
    ReturnsInHanded {} Try.checked os 3 .any (Rows.hierMemorySpec.pre6 enc Try.prog Try.f3 Rows.hierMemoryRow.domain false) (Rows.hierMemorySpec.post enc Try.prog Try.f3 false true false false) := by
  refine returnsInHanded_of_change_sized (C := Try.checked) Try.own started (by kernel_rfl) Try.func3
    (ChangeSpec.witness6 (enc := enc) (C := Try.checked) false ⟨#[], #[.agg #[.slice none 0 0, .slice none 0 0, .slice none 0 0, .slice none 0 0, .slice none 0 0]], []⟩ 8 (by kernel_rfl) (by kernel_rfl) (by kernel_rfl) (by kernel_rfl)) ?_
  intro W base args ds gs before hval0 hW _ hsz0 _
  have hval : ∀ (j : Nat) t v, Try.f3.params[j]? = some t → args[j]? = some v → Value.okWide Try.prog W .any base t v := hval0
  have hsz : (DataW.weightsEach Try.prog (Try.f3.params.toList ++ Rows.hierMemorySpec.plain.varTypes Try.prog) (ds ++ gs)).all (· ≤ reachBytes) = true := hsz0
  have hW' := hW
  obtain ⟨p, q, hA0, hV, rfl, hfz, hnd⟩ := hW
  have hA : DataW.TrodAll enc Try.prog W 0 (fun _ => true) true Try.f3.params.toList args.toList ds p := hA0
  rw [Try.params3] at hA hval hsz
  obtain ⟨v0, d0, rfl, rfl, hr0⟩ := trodAll_one hA
  obtain ⟨rfl, rfl⟩ := trodVars_none hV
  obtain ⟨x, a, e0, e1, e2, e3, e4, rfl, hH, rfl, s0, s2, s4, s1, s3⟩ := hier_open (hval 0 25 v0 rfl rfl) hr0
  have ra : Reach a := ⟨reach_w hsz (j := 0) rfl rfl (Or.inl rfl) s0, reach_w hsz (j := 0) rfl rfl (Or.inr (Or.inl rfl)) s1, reach_l hsz (j := 0) rfl rfl (Or.inl rfl) s2, reach_w hsz (j := 0) rfl rfl (Or.inr (Or.inr rfl)) s3, reach_l hsz (j := 0) rfl rfl (Or.inr rfl) s4⟩
  refine (memory_aux x.no x.uo x.ul x.wo x.dl x.nc x.uc x.ulc x.wc x.dlc a W hH ra).mono fun e W' ⟨he, hw⟩ => ?_
  subst he
  exact ⟨_, rfl, post_of_law hW' rfl (by kernel_rfl) rfl (by rw [Try.params3]; intro t ht; simp at ht; subst ht; exact ⟨by kernel_rfl, of_decide_eq_true (by kernel_rfl)⟩) hw⟩

end Go.Proofs.Ytkehpmbnbknpfaa.Hi

namespace Go.Proofs.Ytkehpmbnbknpfaa
open Go.ChangeShapes Go.WideShapes Go.ChangeAt Go.RowKit Go.Deep Go.Extern
theorem hierMemory_holds : Rows.HierMemorySaid :=
  OpenClaim.holds_of_wide 3 Try.f3 rfl rfl rfl rfl rfl rfl rfl ⟨rfl, rfl, rfl, rfl, rfl⟩ rfl rfl rfl rfl rfl (by kernel_rfl) Try.func3 (by kernel_rfl)
    (of_decide_eq_true (by kernel_rfl)) (by unfold Func.isWrapper; rw [if_neg (of_decide_eq_false (by kernel_rfl))]; exact ⟨rfl, rfl⟩)
    (fun os started H enc _ => Hi.memory_lifted os started H enc)
#print axioms hierMemory_holds
end Go.Proofs.Ytkehpmbnbknpfaa
