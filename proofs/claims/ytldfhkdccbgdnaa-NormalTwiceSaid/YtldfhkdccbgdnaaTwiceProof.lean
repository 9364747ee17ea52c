/- NormalTwice holds: for every graph the law answers true and its argument reads as it did. No condition beside the row's own. -/
import Derived.Test.YtldfhkdccbgdnaaOpen
import Derived.Test.YtldfhkdccbgdnaaTwiceW
namespace Go.Proofs.Ytldfhkdccbgdnaa
open Go.ChangeShapes Go.WideShapes Go.ChangeAt Go.RowKit

attribute [local go_sem] Oper.semAt_some

set_option maxRecDepth 100000 in
set_option maxHeartbeats 4000000 in
theorem twice_bad (N : Int) (ao : Option Addr) (k0 cap : Nat) (xs : List (Int × Int × Int)) (w : World) (hl : HasArcs w (.slice ao k0 cap) xs) (hm : xs.length ≤ maxLen) (hg : graphErr N xs ≠ (0, [])) : Calls Try.prog 4 #[.agg #[.int .i64 N, .slice ao k0 cap]] w fun e w' => e = .returned (.bool true) ∧ Below w.heap.size w w' := by
  have HGD : Hid (graphErr N xs ≠ (0, []) ∧ xs.length ≤ maxLen) := ⟨hg, hm⟩
  have HG0 : Hid (type_of% (Gr.new N hl)) := Gr.new N hl
  clear hl hg hm
  go_enter Try.func4, Try.ntmps4
  go_wp2_with fail
  generalize hW0 : w.alloc (.cells #[.int .i64 N, .slice ao k0 cap] 24) = W0
  have I0 : Hid (Gr W0 w.heap.size N ao k0 cap xs ∧ Below w.heap.size w W0) := by rw [← hW0]; exact ⟨HG0.out.1, HG0.out.2⟩
  clear hW0 HG0
  refine (awake_calls W0).mono ?_
  rintro e w1 ⟨rfl, h⟩
  have I1 : Hid (Gr w1 w.heap.size N ao k0 cap xs ∧ Below w.heap.size w w1) := ⟨I0.out.1.keep h, I0.out.2.trans (h.mono I0.out.2.size)⟩
  clear h
  obtain ⟨cg0, cg1, cgs⟩ := I1.out.1.cells
  have S1 : Hid (type_of% (of_bad I1.out.1.arcs HGD.out.2 HGD.out.1)) := of_bad I1.out.1.arcs HGD.out.2 HGD.out.1
  go_wp2_with fail
  refine S1.out.mono ?_
  rintro e w2 ⟨no, nc, T, x, rfl, h⟩
  have I2 : Hid (Gr w2 w.heap.size N ao k0 cap xs ∧ Below w.heap.size w w2) := ⟨I1.out.1.keep h, I1.out.2.trans (h.mono I1.out.2.size)⟩
  clear cg0 cg1 cgs h S1
  obtain ⟨cg0, cg1, cgs⟩ := I2.out.1.cells
  go_wp2_with fail
  generalize hW : w2.alloc (.cells #[.int .i64 0, .slice no 0 nc] 24) = W2
  have hB : Below w2.heap.size w2 W2 := by rw [← hW]; exact (Below.refl _ w2).alloc (Nat.le_refl _) _
  have hN : W2.heap[w2.heap.size]? = some (.cells #[.int .i64 0, .slice no 0 nc] 24) := by rw [← hW]; exact heap_new _ _
  have I3 : Hid (Gr W2 w.heap.size N ao k0 cap xs ∧ Below w.heap.size w W2 ∧ W2.heap[w2.heap.size]? = some (.cells #[.int .i64 0, .slice no 0 nc] 24)) := ⟨I2.out.1.keep hB, I2.out.2.trans (hB.mono I2.out.2.size), hN⟩
  clear cg0 cg1 cgs hW hB hN
  generalize w2.heap.size = nb at *
  obtain ⟨cg0, cg1, cgs⟩ := I3.out.1.cells
  refine (rev_bad I3.out.1.arcs HGD.out.2 HGD.out.1).mono ?_
  rintro e w3 ⟨tp, tc, U, y, rfl, h⟩
  have I4 : Hid (Gr w3 w.heap.size N ao k0 cap xs ∧ Below w.heap.size w w3 ∧ w3.heap[nb]? = some (.cells #[.int .i64 0, .slice no 0 nc] 24)) := ⟨I3.out.1.keep h, I3.out.2.1.trans (h.mono I3.out.2.1.size), (h.block _ (lt_of_get I3.out.2.2)).trans I3.out.2.2⟩
  clear cg0 cg1 cgs h
  obtain ⟨n0, n1⟩ : w3.cell? ⟨nb, 0, none⟩ = some (.int .i64 0) ∧ w3.cell? ⟨nb, 1, none⟩ = some (.slice no 0 nc) := by simp [World.cell?, I4.out.2.2]
  have ns : nb < w3.heap.size := lt_of_get I4.out.2.2
  have HB : Hid (Below w.heap.size w (w3.alloc (.cells #[.int .i64 0, .slice tp 0 tc] 24))) := I4.out.2.1.alloc I4.out.2.1.size _
  go_wp2
  go_ret
  exact ⟨rfl, HB.out⟩
theorem twice_calls (N : Int) (ao : Option Addr) (cap : Nat) (xs : List (Int × Int × Int)) (w : World) (hl : HasArcs w (.slice ao xs.length cap) xs) (hm : xs.length ≤ maxLen) : Calls Try.prog 4 #[.agg #[.int .i64 N, .slice ao xs.length cap]] w fun e w' => e = .returned (.bool true) ∧ Below w.heap.size w w' := by
  by_cases h : graphErr N xs = (0, [])
  · exact twice_good N ao _ cap xs w hl h
  · exact twice_bad N ao _ cap xs w hl hm h

set_option maxRecDepth 100000 in
theorem twice_lifted (os : Os) (started : os.Started) (H : Type) (enc : TypeId × Value → H) :
    ReturnsInHanded {} Try.checked os 4 .any (Rows.normalTwiceSpec.pre6 enc Try.prog Try.f4 Rows.normalTwiceRow.domain false) (Rows.normalTwiceSpec.post enc Try.prog Try.f4 false true false false) := by
  refine returnsInHanded_of_change (C := Try.checked) Try.own started (by kernel_rfl) Try.func4
    (ChangeSpec.witness6 (enc := enc) (C := Try.checked) false ⟨#[], #[.agg #[.int .i64 0, .slice none 0 0]], []⟩ 8 (by kernel_rfl) (by kernel_rfl) (by kernel_rfl) (by kernel_rfl)) ?_
  intro W base args ds gs before hval0 hW _ _
  have hval : ∀ (j : Nat) t v, Try.f4.params[j]? = some t → args[j]? = some v → Value.okWide Try.prog W .any base t v := hval0
  have hW' := hW
  obtain ⟨p, q, hA0, hV, rfl, hfz, hnd⟩ := hW
  have hA : DataW.TrodAll enc Try.prog W 0 (fun _ => true) true Try.f4.params.toList args.toList ds p := hA0
  rw [Try.params4] at hA hval
  obtain ⟨v0, d0, rfl, rfl, h0⟩ := trodAll_one hA
  obtain ⟨rfl, rfl⟩ := trodVars_none hV
  obtain ⟨N, ao, ac, xs, rfl, hps, hm⟩ := graph_open (hval 0 24 v0 rfl rfl) h0
  refine (twice_calls N ao ac xs W hps hm).mono fun e W' ⟨he, hw⟩ => ?_
  subst he
  exact ⟨_, rfl, post_of_law hW' rfl (by kernel_rfl) rfl (by rw [Try.params4]; intro t ht; simp at ht; subst ht; exact ⟨by kernel_rfl, of_decide_eq_true (by kernel_rfl)⟩) hw⟩

theorem twice_holds : Rows.NormalTwiceSaid :=
  OpenClaim.holds_of_wide 4 Try.f4 rfl rfl rfl rfl rfl rfl rfl ⟨rfl, rfl, rfl, rfl, rfl⟩ rfl rfl rfl rfl rfl (by kernel_rfl) Try.func4 (by kernel_rfl)
    (of_decide_eq_true (by kernel_rfl)) (by unfold Func.isWrapper; rw [if_neg (of_decide_eq_false (by kernel_rfl))]; exact ⟨rfl, rfl⟩)
    (fun os started H enc _ => twice_lifted os started H enc)
#print axioms twice_holds
end Go.Proofs.Ytldfhkdccbgdnaa
