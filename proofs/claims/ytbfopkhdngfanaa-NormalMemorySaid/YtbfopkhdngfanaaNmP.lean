/- NormalMemory holds: for every graph the law answers true and its argument reads as it did. No condition beside the row's own. -/
import Derived.Test.YtbfopkhdngfanaaOpen
import Derived.Test.YtbfopkhdngfanaaNmW
import Derived.SizedLaws
namespace Go.Proofs.Ytbfopkhdngfanaa
open Go.ChangeShapes Go.WideShapes Go.ChangeAt Go.RowKit Go.Deep

theorem Try.bytesA : Try.prog.bytesOf 42 = 24 := by kernel_rfl
/-- how a list of arcs reads. -/
def ReadsA {H : Type} (d : DataW H) (n : Nat) : Prop := n = 0 ∨ ∃ el sp, d = .slice el sp ∧ el.length = n
set_option maxRecDepth 100000 in
theorem graph_open2 {H : Type} {enc : TypeId × Value → H} {W : World} {base : Nat} {v : Value} {d : DataW H} {p : List MemPlace} (hv : Value.okWide Try.prog W .any base 24 v) (h : DataW.Trod enc Try.prog W 0 (fun _ => true) true 24 v d p) :
    ∃ (N : Int) (ao : Option Addr) (cap : Nat) (xs : List (Int × Int × Int)), v = .agg #[.int .i64 N, .slice ao xs.length cap] ∧ HasArcs W (.slice ao xs.length cap) xs ∧ (ao = none → cap = 0) ∧ ∃ d0 d1, d = .agg [d0, d1] ∧ ReadsA d1 xs.length := by
  obtain ⟨N, ao, cap, xs, rfl, hA, _⟩ := graph_open hv h
  obtain ⟨fuel, hf⟩ := h
  have hf' : DataW.trod enc Try.prog W 0 (fun _ => true) true fuel 24 [.int .i64 N, .slice ao xs.length cap] = some (d, p) := hf
  obtain ⟨y0, y1, m, hd, _, t0, t1⟩ := trod_struct2 Try.underlying24 hf'
  rw [Try.cells22] at t1
  simp at t1
  have hdd : d = .agg [y0.1, y1.1] := congrArg Prod.fst hd
  rcases open_slice Try.underlying22 t1 with ⟨hcs, _⟩ | ⟨a, len', cap', m, n, D, Pl, hcs, _, hl, hm, hmm, hy, hx⟩
  · have e : Value.slice ao xs.length cap = .slice none 0 0 := by simpa using hcs
    injection e with e1 e2 e3
    exact ⟨N, ao, cap, xs, rfl, hA, (fun _ => e3), y0.1, y1.1, hdd, Or.inl e2⟩
  · have e : Value.slice ao xs.length cap = .slice (some a) len' cap' := by simpa using hcs
    injection e with e1 e2 e3
    refine ⟨N, ao, cap, xs, rfl, hA, (fun e => by rw [e1] at e; cases e), y0.1, y1.1, hdd, Or.inr ⟨_, _, by rw [hy], ?_⟩⟩
    rw [List.length_map, List.length_range]
    exact e2.symm
/-- the list of arcs takes no more than the form's reach. -/
theorem reach_arcs {H : Type} {ts : List TypeId} {r : List (DataW H)} {d0 d1 : DataW H} (hsz : (DataW.weightsEach Try.prog (24 :: ts) (.agg [d0, d1] :: r)).all (· ≤ reachBytes) = true) {n : Nat} (hr : ReadsA d1 n) : n * 24 ≤ 140737488351232 := by
  rcases hr with rfl | ⟨el, sp, rfl, hl⟩
  · simp
  · have hm := List.all_eq_true.1 hsz _ (DataW.weights_mem_each (j := 0) (t := 24) (d := .agg [d0, .slice el sp]) rfl rfl ((el.length + sp.length) * Try.prog.bytesOf 42) (by
      simp [DataW.weights, DataW.weightsEach, Try.underlying24, Try.underlying22]))
    have hm' : (el.length + sp.length) * Try.prog.bytesOf 42 ≤ reachBytes := by simpa using hm
    rw [Try.bytesA] at hm'
    unfold reachBytes at hm'
    omega

set_option maxRecDepth 100000 in
theorem memory_lifted (os : Os) (started : os.Started) (H : Type) (enc : TypeId × Value → H) :
    ReturnsInHanded {} Try.checked os 3 .any (Rows.normalMemorySpec.pre6 enc Try.prog Try.f3 Rows.normalMemoryRow.domain false) (Rows.normalMemorySpec.post enc Try.prog Try.f3 false true false false) := by
  refine returnsInHanded_of_change_sized (C := Try.checked) Try.own started (by kernel_rfl) Try.func3
    (ChangeSpec.witness6 (enc := enc) (C := Try.checked) false ⟨#[], #[.agg #[.int .i64 0, .slice none 0 0]], []⟩ 8 (by kernel_rfl) (by kernel_rfl) (by kernel_rfl) (by kernel_rfl)) ?_
  intro W base args ds gs before hval0 hW _ hsz0 _
  have hval : ∀ (j : Nat) t v, Try.f3.params[j]? = some t → args[j]? = some v → Value.okWide Try.prog W .any base t v := hval0
  have hsz : (DataW.weightsEach Try.prog (Try.f3.params.toList ++ Rows.normalMemorySpec.plain.varTypes Try.prog) (ds ++ gs)).all (· ≤ reachBytes) = true := hsz0
  have hW' := hW
  obtain ⟨p, q, hA0, hV, rfl, hfz, hnd⟩ := hW
  have hA : DataW.TrodAll enc Try.prog W 0 (fun _ => true) true Try.f3.params.toList args.toList ds p := hA0
  rw [Try.params3] at hA hval hsz
  obtain ⟨v0, d0, rfl, rfl, h0⟩ := trodAll_one hA
  obtain ⟨rfl, rfl⟩ := trodVars_none hV
  obtain ⟨N, ao, ac, xs, rfl, hps, hno, e0, e1, rfl, hr⟩ := graph_open2 (hval 0 24 v0 rfl rfl) h0
  refine (memory_calls N ao ac xs W hps hno (reach_arcs hsz hr)).mono fun e W' ⟨he, hw⟩ => ?_
  subst he
  exact ⟨_, rfl, post_of_law hW' rfl (by kernel_rfl) rfl (by rw [Try.params3]; intro t ht; simp at ht; subst ht; exact ⟨by kernel_rfl, of_decide_eq_true (by kernel_rfl)⟩) hw⟩

theorem memory_holds : Rows.NormalMemorySaid :=
  OpenClaim.holds_of_wide 3 Try.f3 rfl rfl rfl rfl rfl rfl rfl ⟨rfl, rfl, rfl, rfl, rfl⟩ rfl rfl rfl rfl rfl (by kernel_rfl) Try.func3 (by kernel_rfl)
    (of_decide_eq_true (by kernel_rfl)) (by unfold Func.isWrapper; rw [if_neg (of_decide_eq_false (by kernel_rfl))]; exact ⟨rfl, rfl⟩)
    (fun os started H enc _ => memory_lifted os started H enc)
#print axioms memory_holds
end Go.Proofs.Ytbfopkhdngfanaa
