/- ShortsDistances holds: for every graph, list of nodes and options the law answers true and its arguments read as they did. No condition beside the row's own. -/
import Derived.Test.YtbkclhaonbjobaaGreatQuX
import Derived.Test.YtbkclhaonbjobaaGreatSd8
import Derived.SizedLaws
namespace Go.Proofs.YtbkclhaonbjobaaGreat
open Go.ChangeShapes Go.WideShapes Go.ChangeAt Go.RowKit Go.Deep Go.Extern

attribute [local go_sem] Oper.semAt_some

theorem Tryz.cellsWI : Tryz.prog.cellsOf 3 = 1 := by kernel_rfl
/-- how a list of numbers reads. -/
def ReadsI {H : Type} (d : DataW H) (l : List Int) : Prop := l = [] ∨ ∃ el sp, d = .slice el sp ∧ el.length = l.length
set_option maxRecDepth 100000 in
theorem ints_open {H : Type} {enc : TypeId × Value → H} {W : World} {fuel : Nat} {g : Value} {y : DataW H × List MemPlace} (t1 : DataW.trod enc Tryz.prog W 0 (fun _ => true) true fuel 25 [g] = some y) :
    ∃ (ao : Option Addr) (cap : Nat) (l : List Int), g = .slice ao l.length cap ∧ HasInts W (.slice ao l.length cap) l ∧ ReadsI y.1 l ∧ l.length ≤ cap ∧ ∀ x ∈ l, (Lit.int .i64 x).wf = true := by
  rcases open_slice1 Tryz.underlying25 Tryz.cellsWI t1 with ⟨hcs, _⟩ | ⟨a, len', cap', m, n, V, D, Pl, hcs, _, hl, hm, hmm, rfl, hx⟩
  · have e : g = .slice none 0 0 := by simpa using hcs
    subst e
    exact ⟨none, 0, [], rfl, ⟨none, 0, rfl, fun j q hj => by simp at hj⟩, Or.inl rfl, Nat.le_refl _, fun x hx => by cases hx⟩
  · have e : g = .slice (some a) len' cap' := by simpa using hcs
    subst e
    simp at hmm
    subst hmm
    have hq : ∀ i, i < len' → ∃ q : Int, W.cell? (a.add i) = some (.int .i64 q) ∧ (Lit.int .i64 q).wf = true := fun i hi => by
      obtain ⟨h1, h2⟩ := hx i (by omega)
      obtain ⟨x0, e0, _, e9⟩ := DataW.trod_int Tryz.underlying3 h2
      simp at e0
      rw [e0] at h1
      exact ⟨x0, h1, e9⟩
    obtain ⟨q, hq'⟩ := choose_lt hq
    have hlen : ((List.range len').map q).length = len' := by rw [List.length_map, List.length_range]
    refine ⟨some a, m, (List.range len').map q, by rw [hlen], ⟨some a, m, rfl, fun j r hj => ?_⟩, Or.inr ⟨_, _, rfl, by rw [List.length_map, List.length_range, hlen]⟩, by rw [hlen]; exact hl, fun x hx => by
      obtain ⟨j, hj, rfl⟩ := List.mem_map.1 hx
      exact (hq' j (List.mem_range.1 hj)).2⟩
    have hj' : j < len' := by
      have := (List.getElem?_eq_some_iff.1 hj).1
      rw [hlen] at this
      exact this
    have er : r = q j := by
      rw [List.getElem?_map, List.getElem?_range hj'] at hj
      exact (Option.some.inj hj).symm
    subst er
    have h0 := (hq' j hj').1
    obtain ⟨b, off, spot⟩ := a
    have hspot : spot = none := by
      have h00 := (hq' 0 (by omega)).1
      simpa [Addr.add] using World.cell?_spot h00
    subst hspot
    have e1 : (Addr.mk b off none).add j = ⟨b, off + j, none⟩ := add_plain _ _ _
    rw [e1] at h0
    refine ⟨b, off, rfl, ?_, h0⟩
    unfold World.cell? at h0
    rcases Nat.lt_or_ge b W.heap.size with h | h
    · exact h
    · simp [Array.getElem?_eq_none h] at h0
set_option maxRecDepth 100000 in
theorem ints_open9 {H : Type} {enc : TypeId × Value → H} {W : World} {base : Nat} {v : Value} {d : DataW H} {p : List MemPlace} (hv : Value.okWide Tryz.prog W .any base 25 v) (h : DataW.Trod enc Tryz.prog W 0 (fun _ => true) true 25 v d p) :
    ∃ (ao : Option Addr) (cap : Nat) (l : List Int), v = .slice ao l.length cap ∧ HasInts W (.slice ao l.length cap) l ∧ ReadsI d l ∧ l.length ≤ cap ∧ ∀ x ∈ l, (Lit.int .i64 x).wf = true := by
  obtain ⟨a, len, cap, rfl⟩ := okWide_slice Tryz.underlying25 hv
  obtain ⟨fuel, hf⟩ := h
  have hf' : DataW.trod enc Tryz.prog W 0 (fun _ => true) true fuel 25 [.slice a len cap] = some (d, p) := hf
  exact ints_open hf'

set_option maxRecDepth 100000 in
theorem sdist_lifted (os : Os) (started : os.Started) (H : Type) (enc : TypeId × Value → H) :
    ReturnsInHanded {} Tryz.checked os 3 .any (Rows.shortsDistancesSpec.pre6 enc Tryz.prog Tryz.f3 Rows.shortsDistancesRow.domain false) (Rows.shortsDistancesSpec.post enc Tryz.prog Tryz.f3 false true false false) := by
  refine returnsInHanded_of_change_sized (C := Tryz.checked) Tryz.own started (by kernel_rfl) Tryz.func3
    (ChangeSpec.witness6 (enc := enc) (C := Tryz.checked) false ⟨#[], #[.agg #[.int .i64 0, .slice none 0 0], .slice none 0 0, .agg #[.int .i64 0, .int .i64 0, .int .i64 0, .int .i64 0, .int .i64 0]], []⟩ 8 (by kernel_rfl) (by kernel_rfl) (by kernel_rfl) (by kernel_rfl)) ?_
  intro W base args ds gs before hval0 hW _ hsz0 _
  have hval : ∀ (j : Nat) t v, Tryz.f3.params[j]? = some t → args[j]? = some v → Value.okWide Tryz.prog W .any base t v := hval0
  have hW' := hW
  obtain ⟨p, q, hA0, hV, rfl, hfz, hnd⟩ := hW
  have hA : DataW.TrodAll enc Tryz.prog W 0 (fun _ => true) true Tryz.f3.params.toList args.toList ds p := hA0
  rw [Tryz.params3] at hA hval
  obtain ⟨v0, vs0, d0, ds0, p0, q0, hargs, rfl, rfl, hr0, r0⟩ := trodAll_cons hA
  obtain ⟨v1, vs1, d1, ds1, p1, q1, rfl, rfl, rfl, hr1, r1⟩ := trodAll_cons r0
  obtain ⟨v2, vs2, d2, ds2, p2, q2, rfl, rfl, rfl, hr2, r2⟩ := trodAll_cons r1
  obtain ⟨rfl, rfl, rfl⟩ := trodAll_nil r2
  obtain rfl : args = #[v0, v1, v2] := by cases args; simp at hargs; simp [hargs]
  obtain ⟨rfl, rfl⟩ := trodVars_none hV
  obtain ⟨N, ao, ac, xs, rfl, hps, hm⟩ := graph_open (hval 0 24 v0 rfl rfl) hr0
  obtain ⟨io, ic, ls, rfl, hls, _, _, _⟩ := ints_open9 (hval 1 25 v1 rfl rfl) hr1
  obtain ⟨a, b, c, d, e, rfl⟩ := Wt.opts_open (hval 2 27 v2 rfl rfl) hr2
  refine (Wt.dist13_calls N ao ac xs W hps hm io ic ls hls a b c d e).mono fun e W' ⟨he, hw⟩ => ?_
  subst he
  exact ⟨_, rfl, post_of_law hW' rfl (by kernel_rfl) rfl (by rw [Tryz.params3]; intro t ht; simp at ht; rcases ht with rfl | rfl | rfl <;> exact ⟨by kernel_rfl, of_decide_eq_true (by kernel_rfl)⟩) hw⟩

theorem sdist_holds : Rows.ShortsDistancesSaid :=
  OpenClaim.holds_of_wide 3 Tryz.f3 rfl rfl rfl rfl rfl rfl rfl ⟨rfl, rfl, rfl, rfl, rfl⟩ rfl rfl rfl rfl rfl (by kernel_rfl) Tryz.func3 (by kernel_rfl)
    (of_decide_eq_true (by kernel_rfl)) (by unfold Func.isWrapper; rw [if_neg (of_decide_eq_false (by kernel_rfl))]; exact ⟨rfl, rfl⟩)
    (fun os started H enc _ => sdist_lifted os started H enc)
#print axioms sdist_holds
end Go.Proofs.YtbkclhaonbjobaaGreat
