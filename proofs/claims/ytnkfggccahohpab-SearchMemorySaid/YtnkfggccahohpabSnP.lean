/- SearchMemory holds: for all arrays and all numbers s and t the law answers true and its arguments read as they did. No condition beside the row's own. -/
import Derived.Test.YtnkfggccahohpabLift
import Derived.Test.YtnkfggccahohpabSnW
import Derived.Deep.Slices
import Derived.Deep.Strs
import Derived.SizedLaws
namespace Go.Proofs.Ytnkfggccahohpab
open Go.ChangeShapes Go.WideShapes Go.ChangeAt Go.RowKit Go.Deep Go.Extern

theorem Try.cells3 : Try.prog.cellsOf 3 = 1 := by kernel_rfl
theorem Try.bytesI9 : Try.prog.bytesOf 3 = 8 := by kernel_rfl
/-- how a list of numbers reads. -/
def ReadsI {H : Type} (d : DataW H) (l : List Int) : Prop := l = [] ∨ ∃ el sp, d = .slice el sp ∧ el.length = l.length
set_option maxRecDepth 100000 in
theorem ints_open {H : Type} {enc : TypeId × Value → H} {W : World} {fuel : Nat} {g : Value} {y : DataW H × List MemPlace} (t1 : DataW.trod enc Try.prog W 0 (fun _ => true) true fuel 22 [g] = some y) :
    ∃ (ao : Option Addr) (cap : Nat) (l : List Int), g = .slice ao l.length cap ∧ HasInts W (.slice ao l.length cap) l ∧ ReadsI y.1 l ∧ l.length ≤ cap ∧ ∀ x ∈ l, (Lit.int .i64 x).wf = true := by
  rcases open_slice1 Try.underlying22 Try.cells3 t1 with ⟨hcs, _⟩ | ⟨a, len', cap', m, n, V, D, Pl, hcs, _, hl, hm, hmm, rfl, hx⟩
  · have e : g = .slice none 0 0 := by simpa using hcs
    subst e
    exact ⟨none, 0, [], rfl, ⟨none, 0, rfl, fun j q hj => by simp at hj⟩, Or.inl rfl, Nat.le_refl _, fun x hx => by cases hx⟩
  · have e : g = .slice (some a) len' cap' := by simpa using hcs
    subst e
    simp at hmm
    subst hmm
    have hq : ∀ i, i < len' → ∃ q : Int, W.cell? (a.add i) = some (.int .i64 q) ∧ (Lit.int .i64 q).wf = true := fun i hi => by
      obtain ⟨h1, h2⟩ := hx i (by omega)
      obtain ⟨x0, e0, _, e9⟩ := DataW.trod_int Try.underlying3 h2
      simp at e0
      rw [e0] at h1
      exact ⟨x0, h1, e9⟩
    obtain ⟨q, hq'⟩ := choose_lt hq
    have hlen : ((List.range len').map q).length = len' := by rw [List.length_map, List.length_range]
    refine ⟨some a, m, (List.range len').map q, by rw [hlen], ⟨some a, m, rfl, fun j r hj => ?_⟩, Or.inr ⟨_, _, rfl, by rw [List.length_map, List.length_range, hlen]⟩, by rw [hlen]; exact hl, fun x hx => by
      obtain ⟨j, hj, rfl⟩ := List.mem_map.1 hx
      exact (hq' j (List.mem_range.1 hj)).2⟩
    have hj' : j < len' := by
      have := (List.getElem?_eq_some_iff.1 hj).1
      rw [hlen] at this
      exact this
    have er : r = q j := by
      rw [List.getElem?_map, List.getElem?_range hj'] at hj
      exact (Option.some.inj hj).symm
    subst er
    have h0 := (hq' j hj').1
    obtain ⟨b, off, spot⟩ := a
    have hspot : spot = none := by
      have h00 := (hq' 0 (by omega)).1
      simpa [Addr.add] using World.cell?_spot h00
    subst hspot
    have e1 : (Addr.mk b off none).add j = ⟨b, off + j, none⟩ := add_plain _ _ _
    rw [e1] at h0
    refine ⟨b, off, rfl, ?_, h0⟩
    unfold World.cell? at h0
    rcases Nat.lt_or_ge b W.heap.size with h | h
    · exact h
    · simp [Array.getElem?_eq_none h] at h0
/-- a list takes no more than the form's reach. -/
theorem reach_ints {H : Type} {ts : List TypeId} {r : List (DataW H)} (hsz : (DataW.weightsEach Try.prog ts r).all (· ≤ reachBytes) = true) {j : Nat} {d : DataW H} {l : List Int} (ht : ts[j]? = some 22) (hd : r[j]? = some d) (hr : ReadsI d l) : l.length * 8 ≤ 140737488351232 := by
  rcases hr with rfl | ⟨el, sp, rfl, hl⟩
  · simp
  · have hm := List.all_eq_true.1 hsz _ (DataW.weights_mem_each (j := j) (t := 22) (d := .slice el sp) ht hd ((el.length + sp.length) * Try.prog.bytesOf 3) (by
      simp [DataW.weights, Try.underlying22]))
    have hm' : (el.length + sp.length) * Try.prog.bytesOf 3 ≤ reachBytes := by simpa using hm
    rw [Try.bytesI9] at hm'
    unfold reachBytes at hm'
    omega
set_option maxRecDepth 100000 in
theorem ints_open9 {H : Type} {enc : TypeId × Value → H} {W : World} {base : Nat} {v : Value} {d : DataW H} {p : List MemPlace} (hv : Value.okWide Try.prog W .any base 22 v) (h : DataW.Trod enc Try.prog W 0 (fun _ => true) true 22 v d p) :
    ∃ (ao : Option Addr) (cap : Nat) (l : List Int), v = .slice ao l.length cap ∧ HasInts W (.slice ao l.length cap) l ∧ ReadsI d l ∧ l.length ≤ cap ∧ ∀ x ∈ l, (Lit.int .i64 x).wf = true := by
  obtain ⟨a, len, cap, rfl⟩ := okWide_slice Try.underlying22 hv
  obtain ⟨fuel, hf⟩ := h
  have hf' : DataW.trod enc Try.prog W 0 (fun _ => true) true fuel 22 [.slice a len cap] = some (d, p) := hf
  exact ints_open hf'

theorem Try.cellsC9 : Try.prog.cellsOf 24 = 3 := by kernel_rfl
theorem Try.cellsI9 : Try.prog.cellsOf 22 = 1 := by kernel_rfl
set_option maxRecDepth 100000 in
theorem csr_open {H : Type} {enc : TypeId × Value → H} {W : World} {base : Nat} {v : Value} {d : DataW H} {p : List MemPlace} (hv : Value.okWide Try.prog W .any base 24 v) (h : DataW.Trod enc Try.prog W 0 (fun _ => true) true 24 v d p) :
    ∃ (fo uo wo : Option Addr) (fc tc wc : Nat) (F T V : List Int), v = .agg #[.slice fo F.length fc, .slice uo T.length tc, .slice wo V.length wc] ∧ Arr W F T V fo uo wo fc tc wc ∧ ∃ d0 d1 d2, d = .agg [d0, d1, d2] ∧ ReadsI d0 F ∧ ReadsI d1 T ∧ ReadsI d2 V := by
  obtain ⟨cs, rfl, hsz⟩ := okWide_struct Try.underlying24 hv
  rw [Try.cellsC9] at hsz
  obtain ⟨g0, g1, g2, rfl⟩ : ∃ g0 g1 g2, cs = #[g0, g1, g2] := by
    obtain ⟨l⟩ := cs
    match l, hsz with
    | [g0, g1, g2], _ => exact ⟨g0, g1, g2, rfl⟩
  obtain ⟨fuel, hf⟩ := h
  have hf' : DataW.trod enc Try.prog W 0 (fun _ => true) true fuel 24 [g0, g1, g2] = some (d, p) := hf
  obtain ⟨y0, y1, y2, m, hd, _, t0, t1, t2⟩ := trod_struct3 Try.underlying24 hf'
  rw [Try.cellsI9] at t0 t1 t2
  simp at t0 t1 t2
  obtain ⟨fo, fc, F, rfl, h0, r0, _, _⟩ := ints_open t0
  obtain ⟨uo, tc, T, rfl, h1, r1, _, _⟩ := ints_open t1
  obtain ⟨wo, wc, V, rfl, h2, r2, _, _⟩ := ints_open t2
  have hdd : d = .agg [y0.1, y1.1, y2.1] := congrArg Prod.fst hd
  exact ⟨fo, uo, wo, fc, tc, wc, F, T, V, rfl, ⟨h0, h1, h2⟩, y0.1, y1.1, y2.1, hdd, r0, r1, r2⟩
/-- a list among the arrays takes no more than the form's reach. -/
theorem reach_of {H : Type} {ts : List TypeId} {r : List (DataW H)} {d0 d1 d2 : DataW H} (hsz : (DataW.weightsEach Try.prog (24 :: ts) (.agg [d0, d1, d2] :: r)).all (· ≤ reachBytes) = true) {l : List Int} {d : DataW H} (hd : d = d0 ∨ d = d1 ∨ d = d2) (hr : ReadsI d l) : l.length * 8 ≤ 140737488351232 := by
  rcases hr with rfl | ⟨el, sp, rfl, hl⟩
  · simp
  · have hm := List.all_eq_true.1 hsz _ (DataW.weights_mem_each (j := 0) (t := 24) (d := .agg [d0, d1, d2]) rfl rfl ((el.length + sp.length) * Try.prog.bytesOf 3) (by
      rcases hd with rfl | rfl | rfl <;> simp [DataW.weights, DataW.weightsEach, Try.underlying24, Try.underlying22]))
    have hm' : (el.length + sp.length) * Try.prog.bytesOf 3 ≤ reachBytes := by simpa using hm
    rw [Try.bytesI9] at hm'
    unfold reachBytes at hm'
    omega

set_option maxRecDepth 100000 in
theorem memory_lifted (os : Os) (started : os.Started) (H : Type) (enc : TypeId × Value → H) :
    ReturnsInHanded {} Try.checked os 3 .any (Rows.searchMemorySpec.pre6 enc Try.prog Try.f3 Rows.searchMemoryRow.domain false) (Rows.searchMemorySpec.post enc Try.prog Try.f3 false true false false) := by
  refine returnsInHanded_of_change_sized (C := Try.checked) Try.own started (by kernel_rfl) Try.func3
    (ChangeSpec.witness6 (enc := enc) (C := Try.checked) false ⟨#[], #[.agg #[.slice none 0 0, .slice none 0 0, .slice none 0 0], .int .i64 0, .int .i64 0], []⟩ 8 (by kernel_rfl) (by kernel_rfl) (by kernel_rfl) (by kernel_rfl)) ?_
  intro W base args ds gs before hval0 hW _ hsz0 _
  have hval : ∀ (j : Nat) t v, Try.f3.params[j]? = some t → args[j]? = some v → Value.okWide Try.prog W .any base t v := hval0
  have hsz : (DataW.weightsEach Try.prog (Try.f3.params.toList ++ Rows.searchMemorySpec.plain.varTypes Try.prog) (ds ++ gs)).all (· ≤ reachBytes) = true := hsz0
  have hW' := hW
  obtain ⟨p, q, hA0, hV, rfl, hfz, hnd⟩ := hW
  have hA : DataW.TrodAll enc Try.prog W 0 (fun _ => true) true Try.f3.params.toList args.toList ds p := hA0
  rw [Try.params3] at hA hval hsz
  obtain ⟨v0, vs0, d0, ds0, p0, q0, hargs, rfl, rfl, hr0, r0⟩ := trodAll_cons hA
  obtain ⟨v1, vs1, d1, ds1, p1, q1, rfl, rfl, rfl, hr1, r1⟩ := trodAll_cons r0
  obtain ⟨v2, vs2, d2, ds2, p2, q2, rfl, rfl, rfl, hr2, r2⟩ := trodAll_cons r1
  obtain ⟨rfl, rfl, rfl⟩ := trodAll_nil r2
  obtain rfl : args = #[v0, v1, v2] := by cases args; simp at hargs; simp [hargs]
  obtain ⟨rfl, rfl⟩ := trodVars_none hV
  obtain ⟨fo, uo, wo, fc, tc, wc, F, T, V, rfl, hR, e0, e1, e2, rfl, s0, s1, s2⟩ := csr_open (hval 0 24 v0 rfl rfl) hr0
  obtain ⟨s, rfl, _, _, _⟩ := open_int Try.underlying3 (hval 1 3 v1 rfl rfl) hr1
  obtain ⟨t, rfl, _, _, _⟩ := open_int Try.underlying3 (hval 2 3 v2 rfl rfl) hr2
  refine (memory8_calls fo uo wo fc tc wc F T V (reach_of hsz (Or.inl rfl) s0) (reach_of hsz (Or.inr (Or.inl rfl)) s1) (reach_of hsz (Or.inr (Or.inr rfl)) s2) W hR s t).mono fun e W' ⟨he, hw⟩ => ?_
  subst he
  exact ⟨_, rfl, post_of_law hW' rfl (by kernel_rfl) rfl (by rw [Try.params3]; intro t ht; simp at ht; rcases ht with rfl | rfl <;> exact ⟨by kernel_rfl, of_decide_eq_true (by kernel_rfl)⟩) hw⟩

theorem memory_holds : Rows.SearchMemorySaid :=
  OpenClaim.holds_of_wide 3 Try.f3 rfl rfl rfl rfl rfl rfl rfl ⟨rfl, rfl, rfl, rfl, rfl⟩ rfl rfl rfl rfl rfl (by kernel_rfl) Try.func3 (by kernel_rfl)
    (of_decide_eq_true (by kernel_rfl)) (by unfold Func.isWrapper; rw [if_neg (of_decide_eq_false (by kernel_rfl))]; exact ⟨rfl, rfl⟩)
    (fun os started H enc _ => memory_lifted os started H enc)
#print axioms memory_holds
end Go.Proofs.Ytnkfggccahohpab
