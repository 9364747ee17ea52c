/- CsrThere holds: for every graph the law answers true and its argument reads as it did. No condition beside the row's own. -/
import Derived.Test.YtgfmalimnbgdeaaOpen
import Derived.Test.YtgfmalimnbgdeaaCsrThW
namespace Go.Proofs.Ytgfmalimnbgdeaa
open Go.ChangeShapes Go.WideShapes Go.ChangeAt Go.RowKit

attribute [local go_sem] Oper.semAt_some

set_option maxRecDepth 100000 in
set_option maxHeartbeats 4000000 in
theorem there_bad (N : Int) (ao : Option Addr) (k0 cap : Nat) (xs : List (Int × Int × Int)) (w : World) (hl : HasArcs w (.slice ao k0 cap) xs) (hm : xs.length ≤ maxLen) (hg : graphErr N xs ≠ (0, [])) : Calls Try.prog 3 #[.agg #[.int .i64 N, .slice ao k0 cap]] w fun e w' => e = .returned (.bool true) ∧ Below w.heap.size w w' := by
  have HGD : Hid (graphErr N xs ≠ (0, []) ∧ xs.length ≤ maxLen) := ⟨hg, hm⟩
  have HL : Hid (HasArcs w (.slice ao k0 cap) xs) := hl
  clear hl hg hm
  go_enter Try.func3, Try.ntmps3
  go_wp2_with fail
  have HN0 : Hid ((w.alloc (.cells #[.int .i64 N, .slice ao k0 cap] 24)).heap[w.heap.size]? = some (.cells #[.int .i64 N, .slice ao k0 cap] 24)) := heap_new _ _
  have HB0 : Hid (Below w.heap.size w (w.alloc (.cells #[.int .i64 N, .slice ao k0 cap] 24))) := below_new w _
  generalize w.alloc (.cells #[.int .i64 N, .slice ao k0 cap] 24) = W0 at *
  have I0 : Hid (Gr W0 w.heap.size N ao k0 cap xs ∧ Below w.heap.size w W0) := ⟨⟨HN0.out, HL.out.keep HB0.out⟩, HB0.out⟩
  clear HN0 HB0
  refine (awake_calls W0).mono ?_
  rintro e w1 ⟨rfl, h⟩
  have I1 : Hid (Gr w1 w.heap.size N ao k0 cap xs ∧ Below w.heap.size w w1) := ⟨I0.out.1.keep h, I0.out.2.trans (h.mono I0.out.2.size)⟩
  clear h
  obtain ⟨g0, g1, gs⟩ := I1.out.1.cells
  go_wp2_with fail
  refine (build_bad N ao k0 cap xs w1 I1.out.1.arcs HGD.out.2 HGD.out.1).mono ?_
  rintro e w2 ⟨T, x, rfl, _, h⟩
  have I2 : Hid (Gr w2 w.heap.size N ao k0 cap xs ∧ Below w.heap.size w w2) := ⟨I1.out.1.keep h, I1.out.2.trans (h.mono I1.out.2.size)⟩
  clear h g0 g1 gs
  obtain ⟨g0, g1, gs⟩ := I2.out.1.cells
  go_wp2_with fail
  have hB := below_new w2 (.cells #[.slice none 0 0, .slice none 0 0, .slice none 0 0] 28)
  have hN := heap_new w2 (.cells #[.slice none 0 0, .slice none 0 0, .slice none 0 0] 28)
  generalize w2.alloc (.cells #[.slice none 0 0, .slice none 0 0, .slice none 0 0] 28) = W2 at *
  have I3 : Hid (Gr W2 w.heap.size N ao k0 cap xs ∧ Below w.heap.size w W2 ∧ W2.heap[w2.heap.size]? = some (.cells #[.slice none 0 0, .slice none 0 0, .slice none 0 0] 28)) := ⟨I2.out.1.keep hB, I2.out.2.trans (hB.mono I2.out.2.size), hN⟩
  clear hB hN g0 g1 gs
  generalize w2.heap.size = cb at *
  refine (back_bad N ao k0 cap xs W2 I3.out.1.arcs HGD.out.2 HGD.out.1).mono ?_
  rintro e w3 ⟨U, y, rfl, _, h⟩
  have I4 : Hid (Below w.heap.size w w3 ∧ w3.heap[cb]? = some (.cells #[.slice none 0 0, .slice none 0 0, .slice none 0 0] 28)) := ⟨I3.out.2.1.trans (h.mono I3.out.2.1.size), (h.block _ (lt_of_get I3.out.2.2)).trans I3.out.2.2⟩
  clear h
  obtain ⟨c0, c1, c2⟩ := box3 I4.out.2
  have cs := lt_of_get I4.out.2
  have HBE : Hid (Below w.heap.size w (w3.alloc (.cells #[.slice none 0 0, .slice none 0 0, .slice none 0 0] 28))) := I4.out.1.alloc I4.out.1.size _
  go_wp2
  go_ret
  exact ⟨rfl, HBE.out⟩
theorem there_calls (N : Int) (ao : Option Addr) (cap : Nat) (xs : List (Int × Int × Int)) (w : World) (hl : HasArcs w (.slice ao xs.length cap) xs) (hm : xs.length ≤ maxLen) : Calls Try.prog 3 #[.agg #[.int .i64 N, .slice ao xs.length cap]] w fun e w' => e = .returned (.bool true) ∧ Below w.heap.size w w' := by
  by_cases h : graphErr N xs = (0, [])
  · obtain ⟨n, rfl⟩ := good_nat h
    exact there_good n ao _ cap xs w hl h
  · exact there_bad N ao _ cap xs w hl hm h

set_option maxRecDepth 100000 in
theorem there_lifted (os : Os) (started : os.Started) (H : Type) (enc : TypeId × Value → H) :
    ReturnsInHanded {} Try.checked os 3 .any (Rows.csrThereSpec.pre6 enc Try.prog Try.f3 Rows.csrThereRow.domain false) (Rows.csrThereSpec.post enc Try.prog Try.f3 false true false false) := by
  refine returnsInHanded_of_change (C := Try.checked) Try.own started (by kernel_rfl) Try.func3
    (ChangeSpec.witness6 (enc := enc) (C := Try.checked) false ⟨#[], #[.agg #[.int .i64 0, .slice none 0 0]], []⟩ 8 (by kernel_rfl) (by kernel_rfl) (by kernel_rfl) (by kernel_rfl)) ?_
  intro W base args ds gs before hval0 hW _ _
  have hval : ∀ (j : Nat) t v, Try.f3.params[j]? = some t → args[j]? = some v → Value.okWide Try.prog W .any base t v := hval0
  have hW' := hW
  obtain ⟨p, q, hA0, hV, rfl, hfz, hnd⟩ := hW
  have hA : DataW.TrodAll enc Try.prog W 0 (fun _ => true) true Try.f3.params.toList args.toList ds p := hA0
  rw [Try.params3] at hA hval
  obtain ⟨v0, d0, rfl, rfl, h0⟩ := trodAll_one hA
  obtain ⟨rfl, rfl⟩ := trodVars_none hV
  obtain ⟨N, ao, ac, xs, rfl, hps, hm⟩ := graph_open (hval 0 24 v0 rfl rfl) h0
  refine (there_calls N ao ac xs W hps hm).mono fun e W' ⟨he, hw⟩ => ?_
  subst he
  exact ⟨_, rfl, post_of_law hW' rfl (by kernel_rfl) rfl (by rw [Try.params3]; intro t ht; simp at ht; subst ht; exact ⟨by kernel_rfl, of_decide_eq_true (by kernel_rfl)⟩) hw⟩

theorem there_holds : Rows.CsrThereSaid :=
  OpenClaim.holds_of_wide 3 Try.f3 rfl rfl rfl rfl rfl rfl rfl ⟨rfl, rfl, rfl, rfl, rfl⟩ rfl rfl rfl rfl rfl (by kernel_rfl) Try.func3 (by kernel_rfl)
    (of_decide_eq_true (by kernel_rfl)) (by unfold Func.isWrapper; rw [if_neg (of_decide_eq_false (by kernel_rfl))]; exact ⟨rfl, rfl⟩)
    (fun os started H enc _ => there_lifted os started H enc)
#print axioms there_holds
end Go.Proofs.Ytgfmalimnbgdeaa
