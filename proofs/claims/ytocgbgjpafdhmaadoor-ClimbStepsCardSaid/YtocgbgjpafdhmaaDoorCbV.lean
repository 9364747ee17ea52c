/- A graph among the arguments, opened: the arcs that it reads as lie in memory. A hierarchy among the arguments, opened: its five lists lie in memory. ClimbSteps holds: for every hierarchy and every number s the law answers true and its arguments read as they did, the listed variable tied to the program's text. No condition beside the row's own. -/
import Derived.Test.YtocgbgjpafdhmaaDoorFrame
import Derived.Deep.Slices
import Derived.Deep.Strs
import Derived.Test.YtocgbgjpafdhmaaDoorHrG
import Derived.Lib.SmallJoins
import Derived.SizedLaws
import Derived.Test.YtocgbgjpafdhmaaDoorCbS
import Derived.Test.YtocgbgjpafdhmaaDoorTie
import Derived.Test.YtocgbgjpafdhmaaDoorCards
import Derived.SevenTiedAt
namespace Go.Proofs.YtocgbgjpafdhmaaDoor
open Go.ChangeShapes Go.WideShapes Go.RowKit Go.Deep

theorem Tryd.cells3 : Tryd.prog.cellsOf 3 = 1 := by kernel_rfl

end Go.Proofs.YtocgbgjpafdhmaaDoor

namespace Go.Proofs.YtocgbgjpafdhmaaDoor.Hi
open Go.ChangeShapes Go.WideShapes Go.RowKit Go.Deep Go.Extern

theorem cells_u32 : Tryd.prog.cellsOf 43 = 1 := by kernel_rfl
theorem cells_u64 : Tryd.prog.cellsOf 39 = 1 := by kernel_rfl
theorem cells_u32s : Tryd.prog.cellsOf 22 = 1 := by kernel_rfl
theorem cells_lks : Tryd.prog.cellsOf 23 = 1 := by kernel_rfl
theorem cells_lk : Tryd.prog.cellsOf 45 = 4 := by kernel_rfl
theorem cells_hier : Tryd.prog.cellsOf 25 = 5 := by kernel_rfl
theorem u32_range {x : Int} (h : (Lit.int .u32 x).wf = true) : 0 ≤ x ∧ x ≤ 4294967295 := by
  simp [Lit.wf] at h
  have e1 : IntKind.u32.min = 0 := by kernel_rfl
  have e2 : IntKind.u32.max = 4294967295 := by kernel_rfl
  rw [e1, e2] at h
  exact h
theorem u64_range {x : Int} (h : (Lit.int .u64 x).wf = true) : 0 ≤ x ∧ x ≤ 18446744073709551615 := by
  simp [Lit.wf] at h
  have e1 : IntKind.u64.min = 0 := by kernel_rfl
  have e2 : IntKind.u64.max = 18446744073709551615 := by kernel_rfl
  rw [e1, e2] at h
  exact h
theorem trod_struct5 {H : Type} {enc : TypeId × Value → H} {P : Program} {w : World} {base : Nat} {spare : Nat → Bool} {held : Bool} {t : TypeId} {f0 f1 f2 f3 f4 : Field} {fuel : Nat} {cs : List Value} {x : DataW H × List MemPlace} (ht : P.underlying t = some (.struct #[f0, f1, f2, f3, f4])) (h : DataW.trod enc P w base spare held fuel t cs = some x) :
    ∃ y0 y1 y2 y3 y4 n, x.1 = .agg [y0.1, y1.1, y2.1, y3.1, y4.1] ∧ DataW.trod enc P w base spare held n f0.type ((cs.drop f0.offset).take (P.cellsOf f0.type)) = some y0 ∧
      DataW.trod enc P w base spare held n f1.type ((cs.drop f1.offset).take (P.cellsOf f1.type)) = some y1 ∧ DataW.trod enc P w base spare held n f2.type ((cs.drop f2.offset).take (P.cellsOf f2.type)) = some y2 ∧
      DataW.trod enc P w base spare held n f3.type ((cs.drop f3.offset).take (P.cellsOf f3.type)) = some y3 ∧ DataW.trod enc P w base spare held n f4.type ((cs.drop f4.offset).take (P.cellsOf f4.type)) = some y4 := by
  obtain ⟨xs, n, _, rfl, hl, hlen, hf⟩ := DataW.trod_struct ht h
  match xs, hlen with
  | [y0, y1, y2, y3, y4], _ => exact ⟨y0, y1, y2, y3, y4, n, by simp, by simpa using hf 0 f0 rfl, by simpa using hf 1 f1 rfl, by simpa using hf 2 f2 rfl, by simpa using hf 3 f3 rfl, by simpa using hf 4 f4 rfl⟩
/-- what a list of n reads as. -/
def ReadsN {H : Type} (d : DataW H) (n : Nat) : Prop := n = 0 ∨ ∃ el sp, d = .slice el sp ∧ el.length = n
theorem row_get {α : Type} {n : Nat} {q : Nat → α} {j : Nat} {r : α} (hj : ((List.range n).map q)[j]? = some r) : j < n ∧ r = q j := by
  have hj' : j < n := by
    have := (List.getElem?_eq_some_iff.1 hj).1
    rw [List.length_map, List.length_range] at this
    exact this
  rw [List.getElem?_map, List.getElem?_range hj'] at hj
  exact ⟨hj', (Option.some.inj hj).symm⟩
set_option maxRecDepth 100000 in
theorem words_open {H : Type} {enc : TypeId × Value → H} {W : World} {fuel : Nat} {g : Value} {y : DataW H × List MemPlace} (t1 : DataW.trod enc Tryd.prog W 0 (fun _ => true) true fuel 22 [g] = some y) :
    ∃ (ao : Option Addr) (cap : Nat) (l : List Nat), g = .slice ao l.length cap ∧ HasWs W (.slice ao l.length cap) l ∧ ReadsN y.1 l.length := by
  rcases open_slice1 Tryd.underlying22 cells_u32 t1 with ⟨hcs, _⟩ | ⟨a, len', cap', m, n, V, D, Pl, hcs, _, hl, hm, hmm, rfl, hx⟩
  · have e : g = .slice none 0 0 := by simpa using hcs
    subst e
    exact ⟨none, 0, [], rfl, ⟨none, 0, rfl, Nat.le_refl _, fun j q hj => by simp at hj⟩, Or.inl rfl⟩
  · have e : g = .slice (some a) len' cap' := by simpa using hcs
    subst e
    simp at hmm
    subst hmm
    have hq : ∀ i, i < len' → ∃ q : Nat, W.cell? (a.add i) = some (.int .u32 (q : Int)) ∧ q < 4294967296 := fun i hi => by
      obtain ⟨h1, h2⟩ := hx i (by omega)
      obtain ⟨x0, e0, _, e9⟩ := DataW.trod_int Tryd.underlying43 h2
      simp at e0
      rw [e0] at h1
      have r := u32_range e9
      obtain ⟨q, rfl⟩ : ∃ q : Nat, x0 = q := ⟨x0.toNat, by omega⟩
      exact ⟨q, h1, by omega⟩
    obtain ⟨q, hq'⟩ := choose_lt hq
    have hlen : ((List.range len').map q).length = len' := by rw [List.length_map, List.length_range]
    refine ⟨some a, m, (List.range len').map q, by rw [hlen], ⟨some a, m, rfl, by rw [hlen]; exact hl, fun j r hj => ?_⟩, Or.inr ⟨_, _, rfl, by rw [List.length_map, List.length_range, hlen]⟩⟩
    obtain ⟨hj', rfl⟩ := row_get hj
    refine ⟨(hq' j hj').2, ?_⟩
    have h0 := (hq' j hj').1
    obtain ⟨b, off, spot⟩ := a
    have hspot : spot = none := by
      have h00 := (hq' 0 (by omega)).1
      simpa [Addr.add] using World.cell?_spot h00
    subst hspot
    have e1 : (Addr.mk b off none).add j = ⟨b, off + j, none⟩ := add_plain _ _ _
    rw [e1] at h0
    have hlt : b < W.heap.size := by
      rcases Nat.lt_or_ge b W.heap.size with h | h
      · exact h
      · simp [World.cell?, Array.getElem?_eq_none h] at h0
    exact ⟨b, off, rfl, hlt, h0⟩
set_option maxRecDepth 100000 in
theorem links_open {H : Type} {enc : TypeId × Value → H} {W : World} {fuel : Nat} {g : Value} {y : DataW H × List MemPlace} (t1 : DataW.trod enc Tryd.prog W 0 (fun _ => true) true fuel 23 [g] = some y) :
    ∃ (ao : Option Addr) (cap : Nat) (l : List Lk), g = .slice ao l.length cap ∧ HasLs W (.slice ao l.length cap) l ∧ ReadsN y.1 l.length := by
  rcases open_slice Tryd.underlying23 t1 with ⟨hcs, _⟩ | ⟨a, len', cap', m, n, D, Pl, hcs, _, hl, hm, hmm, rfl, hx⟩
  · have e : g = .slice none 0 0 := by simpa using hcs
    subst e
    exact ⟨none, 0, [], rfl, ⟨none, 0, rfl, Nat.le_refl _, fun j q hj => by simp at hj⟩, Or.inl rfl⟩
  · have e : g = .slice (some a) len' cap' := by simpa using hcs
    subst e
    simp at hmm
    subst hmm
    have hq : ∀ i, i < len' → ∃ q : Lk, q.ok ∧ W.cell? (a.add (i * 4)) = some (.int .u32 (q.hd : Int)) ∧ W.cell? ((a.add (i * 4)).add 1) = some (.int .u64 (q.wt : Int)) ∧ W.cell? ((a.add (i * 4)).add 2) = some (.int .u32 (q.lf : Int)) ∧ W.cell? ((a.add (i * 4)).add 3) = some (.int .u32 (q.rt : Int)) := fun i hi => by
      obtain ⟨cs', h1, h2⟩ := hx i (by omega)
      rw [cells_lk] at h1
      obtain ⟨_, hlen, hcell⟩ := World.cells?_some h1
      obtain ⟨c0, c1, c2, c3, rfl⟩ : ∃ c0 c1 c2 c3, cs' = [c0, c1, c2, c3] := by
        match cs', hlen with
        | [c0, c1, c2, c3], _ => exact ⟨c0, c1, c2, c3, rfl⟩
      obtain ⟨y0, y1, y2, y3, m, _, _, t0, t1, t2, t3⟩ := Go.Joins.trod_struct4 Tryd.underlying45 h2
      rw [cells_u32] at t0 t2 t3
      rw [cells_u64] at t1
      obtain ⟨x0, e0, _, r0⟩ := DataW.trod_int Tryd.underlying43 t0
      obtain ⟨x1, e1, _, r1⟩ := DataW.trod_int Tryd.underlying39 t1
      obtain ⟨x2, e2, _, r2⟩ := DataW.trod_int Tryd.underlying43 t2
      obtain ⟨x3, e3, _, r3⟩ := DataW.trod_int Tryd.underlying43 t3
      simp at e0 e1 e2 e3
      subst e0 e1 e2 e3
      have s0 := u32_range r0
      have s1 := u64_range r1
      have s2 := u32_range r2
      have s3 := u32_range r3
      obtain ⟨n0, rfl⟩ : ∃ q : Nat, x0 = q := ⟨x0.toNat, by omega⟩
      obtain ⟨n1, rfl⟩ : ∃ q : Nat, x1 = q := ⟨x1.toNat, by omega⟩
      obtain ⟨n2, rfl⟩ : ∃ q : Nat, x2 = q := ⟨x2.toNat, by omega⟩
      obtain ⟨n3, rfl⟩ : ∃ q : Nat, x3 = q := ⟨x3.toNat, by omega⟩
      have g0 := hcell 0 (by omega)
      have g1 := hcell 1 (by omega)
      have g2 := hcell 2 (by omega)
      have g3 := hcell 3 (by omega)
      exact ⟨⟨n0, n1, n2, n3⟩, by unfold Lk.ok; dsimp only; omega, by simpa [Addr.add] using g0, by simpa using g1, by simpa using g2, by simpa using g3⟩
    obtain ⟨q, hq'⟩ := choose_lt hq
    have hlen : ((List.range len').map q).length = len' := by rw [List.length_map, List.length_range]
    refine ⟨some a, m, (List.range len').map q, by rw [hlen], ⟨some a, m, rfl, by rw [hlen]; exact hl, fun j r hj => ?_⟩, Or.inr ⟨_, _, rfl, by rw [List.length_map, List.length_range, hlen]⟩⟩
    obtain ⟨hj', rfl⟩ := row_get hj
    obtain ⟨ok, h0, h1, h2, h3⟩ := hq' j hj'
    refine ⟨ok, ?_⟩
    obtain ⟨b, off, spot⟩ := a
    have hspot : spot = none := by
      have h00 := (hq' 0 (by omega)).2.1
      simpa [Addr.add] using World.cell?_spot h00
    subst hspot
    have e1 : (Addr.mk b off none).add (j * 4) = ⟨b, off + j * 4, none⟩ := add_plain _ _ _
    rw [e1] at h0 h1 h2 h3
    have e2 : ∀ i, (Addr.mk b (off + j * 4) none).add i = ⟨b, off + j * 4 + i, none⟩ := fun i => add_plain _ _ _
    rw [e2] at h1 h2 h3
    have hlt : b < W.heap.size := by
      rcases Nat.lt_or_ge b W.heap.size with h | h
      · exact h
      · simp [World.cell?, Array.getElem?_eq_none h] at h0
    exact ⟨b, off, rfl, hlt, h0, h1, h2, h3⟩
theorem bytes_u32 : Tryd.prog.bytesOf 43 = 4 := by kernel_rfl
theorem bytes_lk : Tryd.prog.bytesOf 45 = 24 := by kernel_rfl
theorem reach_w {H : Type} {ts : List TypeId} {r : List (DataW H)} (hsz : (DataW.weightsEach Tryd.prog ts r).all (· ≤ reachBytes) = true) {j : Nat} {d0 d1 d2 d3 d4 : DataW H} (ht : ts[j]? = some 25) (hd : r[j]? = some (.agg [d0, d1, d2, d3, d4])) {n : Nat} {d : DataW H} (hh : d = d0 ∨ d = d1 ∨ d = d3) (hr : ReadsN d n) : n * 4 ≤ 140737488351232 := by
  rcases hr with rfl | ⟨el, sp, rfl, hl⟩
  · simp
  · have hm := List.all_eq_true.1 hsz _ (DataW.weights_mem_each (j := j) (t := 25) (d := .agg [d0, d1, d2, d3, d4]) ht hd ((el.length + sp.length) * Tryd.prog.bytesOf 43) (by
      rcases hh with rfl | rfl | rfl <;> simp [DataW.weights, DataW.weightsEach, Tryd.underlying25, Tryd.underlying22]))
    have hm' : (el.length + sp.length) * Tryd.prog.bytesOf 43 ≤ reachBytes := by simpa using hm
    rw [bytes_u32] at hm'
    unfold reachBytes at hm'
    omega
theorem reach_l {H : Type} {ts : List TypeId} {r : List (DataW H)} (hsz : (DataW.weightsEach Tryd.prog ts r).all (· ≤ reachBytes) = true) {j : Nat} {d0 d1 d2 d3 d4 : DataW H} (ht : ts[j]? = some 25) (hd : r[j]? = some (.agg [d0, d1, d2, d3, d4])) {n : Nat} {d : DataW H} (hh : d = d2 ∨ d = d4) (hr : ReadsN d n) : n * 24 ≤ 140737488351232 := by
  rcases hr with rfl | ⟨el, sp, rfl, hl⟩
  · simp
  · have hm := List.all_eq_true.1 hsz _ (DataW.weights_mem_each (j := j) (t := 25) (d := .agg [d0, d1, d2, d3, d4]) ht hd ((el.length + sp.length) * Tryd.prog.bytesOf 45) (by
      rcases hh with rfl | rfl <;> simp [DataW.weights, DataW.weightsEach, Tryd.underlying25, Tryd.underlying23]))
    have hm' : (el.length + sp.length) * Tryd.prog.bytesOf 45 ≤ reachBytes := by simpa using hm
    rw [bytes_lk] at hm'
    unfold reachBytes at hm'
    omega
set_option maxRecDepth 100000 in
theorem hier_open {H : Type} {enc : TypeId × Value → H} {W : World} {base : Nat} {v : Value} {d : DataW H} {p : List MemPlace} (hv : Value.okWide Tryd.prog W .any base 25 v) (h : DataW.Trod enc Tryd.prog W 0 (fun _ => true) true 25 v d p) :
    ∃ (x : HV) (a : Hr) (d0 d1 d2 d3 d4 : DataW H), v = hvl x a ∧ HasH W x a ∧ d = .agg [d0, d1, d2, d3, d4] ∧ ReadsN d0 a.node.length ∧ ReadsN d2 a.up.length ∧ ReadsN d4 a.dn.length ∧ ReadsN d1 a.upF.length ∧ ReadsN d3 a.dnF.length := by
  obtain ⟨cs, rfl, hsz⟩ := okWide_struct Tryd.underlying25 hv
  rw [cells_hier] at hsz
  obtain ⟨g0, g1, g2, g3, g4, rfl⟩ : ∃ g0 g1 g2 g3 g4, cs = #[g0, g1, g2, g3, g4] := by
    obtain ⟨l⟩ := cs
    match l, hsz with
    | [g0, g1, g2, g3, g4], _ => exact ⟨g0, g1, g2, g3, g4, rfl⟩
  obtain ⟨fuel, hf⟩ := h
  have hf' : DataW.trod enc Tryd.prog W 0 (fun _ => true) true fuel 25 [g0, g1, g2, g3, g4] = some (d, p) := hf
  obtain ⟨y0, y1, y2, y3, y4, m, hd, t0, t1, t2, t3, t4⟩ := trod_struct5 Tryd.underlying25 hf'
  rw [cells_u32s] at t0 t1 t3
  rw [cells_lks] at t2 t4
  simp at t0 t1 t2 t3 t4
  obtain ⟨o0, c0, l0, rfl, h0, b0⟩ := words_open t0
  obtain ⟨o1, c1, l1, rfl, h1, b1⟩ := words_open t1
  obtain ⟨o2, c2, l2, rfl, h2, b2⟩ := links_open t2
  obtain ⟨o3, c3, l3, rfl, h3, b3⟩ := words_open t3
  obtain ⟨o4, c4, l4, rfl, h4, b4⟩ := links_open t4
  exact ⟨⟨o0, o1, o2, o3, o4, c0, c1, c2, c3, c4⟩, ⟨l0, l1, l2, l3, l4⟩, y0.1, y1.1, y2.1, y3.1, y4.1, rfl, ⟨h0, h1, h2, h3, h4⟩, hd, b0, b2, b4, b1, b3⟩
end Go.Proofs.YtocgbgjpafdhmaaDoor.Hi

namespace Go.Proofs.YtocgbgjpafdhmaaDoor
open Go Go.ChangeShapes Go.WideShapes Go.RowKit Go.Deep Go.Extern Hi

set_option maxRecDepth 100000 in
theorem steps_lifted (os : Os) (started : os.Started) (H : Type) (enc : TypeId × Value → H) :
    ReturnsInHanded {} Tryd.checked os 3 .any (fun w args => (Rows.climbStepsSpec.pre enc Tryd.prog Tryd.f3 [] false w args ∧ laidMetH Tryd.prog laidAll w) ∧ sizedMet enc Tryd.prog Tryd.f3 (OpenSpec.ofChange Rows.climbStepsSpec) false w args)
      (Rows.climbStepsSpec.post enc Tryd.prog Tryd.f3 false true false false) := by
  refine returnsInHanded_of_change_and (C := Tryd.checked) (X := fun w _ => laidMetH Tryd.prog laidAll w) (fun _ _ _ hh h => h.of_heap hh) Tryd.own started (by kernel_rfl) Tryd.func3
    (ChangeSpec.witness_at (enc := enc) (C := Tryd.checked) (os := os) (X := fun w _ => laidMetH Tryd.prog laidAll w) false (laidHeap (World.holding Tryd.prog os ⟨#[], #[], []⟩)) #[.agg #[.slice none 0 0, .slice none 0 0, .slice none 0 0, .slice none 0 0, .slice none 0 0], .int .i64 0] 8 rfl (by kernel_rfl) (by kernel_rfl) (by kernel_rfl) (by kernel_rfl) (by kernel_rfl) (laidHeap_met os _)) ?_
  intro W base args ds gs before hval0 hW _ hsz0 hL _
  have hval : ∀ (j : Nat) t v, Tryd.f3.params[j]? = some t → args[j]? = some v → Value.okWide Tryd.prog W .any base t v := hval0
  have hW' := hW
  obtain ⟨p, q, hA0, hV0, rfl, hfz, hnd⟩ := hW
  have hA : DataW.TrodAll enc Tryd.prog W 0 (fun _ => true) true Tryd.f3.params.toList args.toList ds p := hA0
  have hV : DataW.TrodVars enc Tryd.prog W (fun _ => true) [] gs q := hV0
  have hsz : (DataW.weightsEach Tryd.prog (Tryd.f3.params.toList ++ Rows.climbStepsSpec.plain.varTypes Tryd.prog) (ds ++ gs)).all (· ≤ reachBytes) = true := hsz0
  rw [Tryd.params3] at hA hval hsz
  obtain ⟨v0, vs0, d0, ds0, p0, q0, hargs, rfl, rfl, hr0, r0⟩ := trodAll_cons hA
  obtain ⟨v1, vs1, d1, ds1, p1, q1, rfl, rfl, rfl, hr1, r1⟩ := trodAll_cons r0
  obtain ⟨rfl, rfl, rfl⟩ := trodAll_nil r1
  obtain rfl : args = #[v0, v1] := by cases args; simp at hargs; simp [hargs]
  obtain ⟨rfl, rfl⟩ : gs = [] ∧ q = [] := by
    cases gs with
    | nil => exact ⟨rfl, hV⟩
    | cons g r => exact absurd hV (by intro h; cases h)
  obtain ⟨x, a, e0, e1, e2, e3, e4, rfl, hH, rfl, s0, s2, s4, _, _⟩ := hier_open (hval 0 25 v0 rfl rfl) hr0
  obtain ⟨s, rfl, _, _, _⟩ := open_int Tryd.underlying3 (hval 1 3 v1 rfl rfl) hr1
  have n0 := reach_w hsz (j := 0) rfl rfl (Or.inl rfl) s0
  have n2 := reach_l hsz (j := 0) rfl rfl (Or.inl rfl) s2
  have n4 := reach_l hsz (j := 0) rfl rfl (Or.inr rfl) s4
  refine (Cb.steps_calls x a s W (hasType_of_laid hL) hH (by omega) (by omega) (by omega)).mono fun e W' ⟨he, hw⟩ => ?_
  subst he
  exact ⟨_, rfl, post_of_law hW' rfl (by kernel_rfl) rfl (by rw [Tryd.params3]; intro t ht; simp at ht; rcases ht with rfl | rfl <;> exact ⟨by kernel_rfl, of_decide_eq_true (by kernel_rfl)⟩) hw⟩

theorem steps_row : Rows.ClimbStepsSaid :=
  OpenClaim.holds_of_wide 3 Tryd.f3 rfl rfl rfl rfl rfl rfl rfl ⟨rfl, rfl, rfl, rfl, rfl⟩ rfl rfl rfl rfl rfl (by kernel_rfl) Tryd.func3 (by kernel_rfl)
    (of_decide_eq_true (by kernel_rfl)) (by unfold Func.isWrapper; rw [if_neg (of_decide_eq_false (by kernel_rfl))]; exact ⟨rfl, rfl⟩)
    (fun os started H enc _ => steps_lifted os started H enc)

theorem steps_card : Rows.ClimbStepsCardSaid :=
  Claim7.holds_tied_plain_at .later [] _ _ _ _
    steps_row (fun _ h => by cases h) (by kernel_rfl) (fun _ h => by cases h) climbSteps_row_tie rfl ⟨rfl, rfl⟩ (by kernel_rfl) rfl
    (fun f fn hf hfn => by
      obtain rfl : f = 3 := Option.some.inj ((show Tryd.prog.funcNamed "viaduct/viaductlaw20.ClimbSteps" = some 3 by kernel_rfl).symm.trans hf) |>.symm
      obtain rfl : fn = Tryd.f3 := (Option.some.inj (Tryd.func3.symm.trans hfn)).symm
      exact ⟨by kernel_rfl, fun j t ht => by
        rw [Tryd.params3] at ht
        rcases j with _ | _ | j
        · obtain rfl : 25 = t := by simpa using ht
          exact (show Tryd.prog.wantsStandIn 25 = false by kernel_rfl)
        · obtain rfl : 3 = t := by simpa using ht
          exact (show Tryd.prog.wantsStandIn 3 = false by kernel_rfl)
        · simp at ht⟩)
    (by kernel_rfl)
#print axioms steps_card
end Go.Proofs.YtocgbgjpafdhmaaDoor
