/- A hierarchy among the arguments, opened: its five lists lie in memory. -/
import Derived.Test.YtodilocmfdeehaaGreatDoorOpen
import Derived.Test.YtodilocmfdeehaaGreatDoorHrG
import Derived.Deep.Slices
import Derived.Deep.Strs
import Derived.Lib.SmallJoins
import Derived.SizedLaws
namespace Go.Proofs.YtodilocmfdeehaaGreatDoor.Hi
open Go.ChangeShapes Go.WideShapes Go.RowKit Go.Deep Go.Extern

theorem cells_u32 : Tryz.prog.cellsOf 62 = 1 := by kernel_rfl
theorem cells_u64 : Tryz.prog.cellsOf 45 = 1 := by kernel_rfl
theorem cells_u32s : Tryz.prog.cellsOf 22 = 1 := by kernel_rfl
theorem cells_lks : Tryz.prog.cellsOf 23 = 1 := by kernel_rfl
theorem cells_lk : Tryz.prog.cellsOf 65 = 4 := by kernel_rfl
theorem cells_hier : Tryz.prog.cellsOf 25 = 5 := by kernel_rfl
theorem u32_range {x : Int} (h : (Lit.int .u32 x).wf = true) : 0 ≤ x ∧ x ≤ 4294967295 := by
  simp [Lit.wf] at h
  have e1 : IntKind.u32.min = 0 := by kernel_rfl
  have e2 : IntKind.u32.max = 4294967295 := by kernel_rfl
  rw [e1, e2] at h
  exact h
theorem u64_range {x : Int} (h : (Lit.int .u64 x).wf = true) : 0 ≤ x ∧ x ≤ 18446744073709551615 := by
  simp [Lit.wf] at h
  have e1 : IntKind.u64.min = 0 := by kernel_rfl
  have e2 : IntKind.u64.max = 18446744073709551615 := by kernel_rfl
  rw [e1, e2] at h
  exact h
theorem trod_struct5 {H : Type} {enc : TypeId × Value → H} {P : Program} {w : World} {base : Nat} {spare : Nat → Bool} {held : Bool} {t : TypeId} {f0 f1 f2 f3 f4 : Field} {fuel : Nat} {cs : List Value} {x : DataW H × List MemPlace} (ht : P.underlying t = some (.struct #[f0, f1, f2, f3, f4])) (h : DataW.trod enc P w base spare held fuel t cs = some x) :
    ∃ y0 y1 y2 y3 y4 n, x.1 = .agg [y0.1, y1.1, y2.1, y3.1, y4.1] ∧ DataW.trod enc P w base spare held n f0.type ((cs.drop f0.offset).take (P.cellsOf f0.type)) = some y0 ∧
      DataW.trod enc P w base spare held n f1.type ((cs.drop f1.offset).take (P.cellsOf f1.type)) = some y1 ∧ DataW.trod enc P w base spare held n f2.type ((cs.drop f2.offset).take (P.cellsOf f2.type)) = some y2 ∧
      DataW.trod enc P w base spare held n f3.type ((cs.drop f3.offset).take (P.cellsOf f3.type)) = some y3 ∧ DataW.trod enc P w base spare held n f4.type ((cs.drop f4.offset).take (P.cellsOf f4.type)) = some y4 := by
  obtain ⟨xs, n, _, rfl, hl, hlen, hf⟩ := DataW.trod_struct ht h
  match xs, hlen with
  | [y0, y1, y2, y3, y4], _ => exact ⟨y0, y1, y2, y3, y4, n, by simp, by simpa using hf 0 f0 rfl, by simpa using hf 1 f1 rfl, by simpa using hf 2 f2 rfl, by simpa using hf 3 f3 rfl, by simpa using hf 4 f4 rfl⟩
/-- what a list of n reads as. -/
def ReadsN {H : Type} (d : DataW H) (n : Nat) : Prop := n = 0 ∨ ∃ el sp, d = .slice el sp ∧ el.length = n
theorem row_get {α : Type} {n : Nat} {q : Nat → α} {j : Nat} {r : α} (hj : ((List.range n).map q)[j]? = some r) : j < n ∧ r = q j := by
  have hj' : j < n := by
    have := (List.getElem?_eq_some_iff.1 hj).1
    rw [List.length_map, List.length_range] at this
    exact this
  rw [List.getElem?_map, List.getElem?_range hj'] at hj
  exact ⟨hj', (Option.some.inj hj).symm⟩
set_option maxRecDepth 100000 in
theorem words_open {H : Type} {enc : TypeId × Value → H} {W : World} {fuel : Nat} {g : Value} {y : DataW H × List MemPlace} (t1 : DataW.trod enc Tryz.prog W 0 (fun _ => true) true fuel 22 [g] = some y) :
    ∃ (ao : Option Addr) (cap : Nat) (l : List Nat), g = .slice ao l.length cap ∧ HasWs W (.slice ao l.length cap) l ∧ ReadsN y.1 l.length := by
  rcases open_slice1 Tryz.underlying22 cells_u32 t1 with ⟨hcs, _⟩ | ⟨a, len', cap', m, n, V, D, Pl, hcs, _, hl, hm, hmm, rfl, hx⟩
  · have e : g = .slice none 0 0 := by simpa using hcs
    subst e
    exact ⟨none, 0, [], rfl, ⟨none, 0, rfl, Nat.le_refl _, fun j q hj => by simp at hj⟩, Or.inl rfl⟩
  · have e : g = .slice (some a) len' cap' := by simpa using hcs
    subst e
    simp at hmm
    subst hmm
    have hq : ∀ i, i < len' → ∃ q : Nat, W.cell? (a.add i) = some (.int .u32 (q : Int)) ∧ q < 4294967296 := fun i hi => by
      obtain ⟨h1, h2⟩ := hx i (by omega)
      obtain ⟨x0, e0, _, e9⟩ := DataW.trod_int Tryz.underlying62 h2
      simp at e0
      rw [e0] at h1
      have r := u32_range e9
      obtain ⟨q, rfl⟩ : ∃ q : Nat, x0 = q := ⟨x0.toNat, by omega⟩
      exact ⟨q, h1, by omega⟩
    obtain ⟨q, hq'⟩ := choose_lt hq
    have hlen : ((List.range len').map q).length = len' := by rw [List.length_map, List.length_range]
    refine ⟨some a, m, (List.range len').map q, by rw [hlen], ⟨some a, m, rfl, by rw [hlen]; exact hl, fun j r hj => ?_⟩, Or.inr ⟨_, _, rfl, by rw [List.length_map, List.length_range, hlen]⟩⟩
    obtain ⟨hj', rfl⟩ := row_get hj
    refine ⟨(hq' j hj').2, ?_⟩
    have h0 := (hq' j hj').1
    obtain ⟨b, off, spot⟩ := a
    have hspot : spot = none := by
      have h00 := (hq' 0 (by omega)).1
      simpa [Addr.add] using World.cell?_spot h00
    subst hspot
    have e1 : (Addr.mk b off none).add j = ⟨b, off + j, none⟩ := add_plain _ _ _
    rw [e1] at h0
    have hlt : b < W.heap.size := by
      rcases Nat.lt_or_ge b W.heap.size with h | h
      · exact h
      · simp [World.cell?, Array.getElem?_eq_none h] at h0
    exact ⟨b, off, rfl, hlt, h0⟩
set_option maxRecDepth 100000 in
theorem links_open {H : Type} {enc : TypeId × Value → H} {W : World} {fuel : Nat} {g : Value} {y : DataW H × List MemPlace} (t1 : DataW.trod enc Tryz.prog W 0 (fun _ => true) true fuel 23 [g] = some y) :
    ∃ (ao : Option Addr) (cap : Nat) (l : List Lk), g = .slice ao l.length cap ∧ HasLs W (.slice ao l.length cap) l ∧ ReadsN y.1 l.length := by
  rcases open_slice Tryz.underlying23 t1 with ⟨hcs, _⟩ | ⟨a, len', cap', m, n, D, Pl, hcs, _, hl, hm, hmm, rfl, hx⟩
  · have e : g = .slice none 0 0 := by simpa using hcs
    subst e
    exact ⟨none, 0, [], rfl, ⟨none, 0, rfl, Nat.le_refl _, fun j q hj => by simp at hj⟩, Or.inl rfl⟩
  · have e : g = .slice (some a) len' cap' := by simpa using hcs
    subst e
    simp at hmm
    subst hmm
    have hq : ∀ i, i < len' → ∃ q : Lk, q.ok ∧ W.cell? (a.add (i * 4)) = some (.int .u32 (q.hd : Int)) ∧ W.cell? ((a.add (i * 4)).add 1) = some (.int .u64 (q.wt : Int)) ∧ W.cell? ((a.add (i * 4)).add 2) = some (.int .u32 (q.lf : Int)) ∧ W.cell? ((a.add (i * 4)).add 3) = some (.int .u32 (q.rt : Int)) := fun i hi => by
      obtain ⟨cs', h1, h2⟩ := hx i (by omega)
      rw [cells_lk] at h1
      obtain ⟨_, hlen, hcell⟩ := World.cells?_some h1
      obtain ⟨c0, c1, c2, c3, rfl⟩ : ∃ c0 c1 c2 c3, cs' = [c0, c1, c2, c3] := by
        match cs', hlen with
        | [c0, c1, c2, c3], _ => exact ⟨c0, c1, c2, c3, rfl⟩
      obtain ⟨y0, y1, y2, y3, m, _, _, t0, t1, t2, t3⟩ := Go.Joins.trod_struct4 Tryz.underlying65 h2
      rw [cells_u32] at t0 t2 t3
      rw [cells_u64] at t1
      obtain ⟨x0, e0, _, r0⟩ := DataW.trod_int Tryz.underlying62 t0
      obtain ⟨x1, e1, _, r1⟩ := DataW.trod_int Tryz.underlying45 t1
      obtain ⟨x2, e2, _, r2⟩ := DataW.trod_int Tryz.underlying62 t2
      obtain ⟨x3, e3, _, r3⟩ := DataW.trod_int Tryz.underlying62 t3
      simp at e0 e1 e2 e3
      subst e0 e1 e2 e3
      have s0 := u32_range r0
      have s1 := u64_range r1
      have s2 := u32_range r2
      have s3 := u32_range r3
      obtain ⟨n0, rfl⟩ : ∃ q : Nat, x0 = q := ⟨x0.toNat, by omega⟩
      obtain ⟨n1, rfl⟩ : ∃ q : Nat, x1 = q := ⟨x1.toNat, by omega⟩
      obtain ⟨n2, rfl⟩ : ∃ q : Nat, x2 = q := ⟨x2.toNat, by omega⟩
      obtain ⟨n3, rfl⟩ : ∃ q : Nat, x3 = q := ⟨x3.toNat, by omega⟩
      have g0 := hcell 0 (by omega)
      have g1 := hcell 1 (by omega)
      have g2 := hcell 2 (by omega)
      have g3 := hcell 3 (by omega)
      exact ⟨⟨n0, n1, n2, n3⟩, by unfold Lk.ok; dsimp only; omega, by simpa [Addr.add] using g0, by simpa using g1, by simpa using g2, by simpa using g3⟩
    obtain ⟨q, hq'⟩ := choose_lt hq
    have hlen : ((List.range len').map q).length = len' := by rw [List.length_map, List.length_range]
    refine ⟨some a, m, (List.range len').map q, by rw [hlen], ⟨some a, m, rfl, by rw [hlen]; exact hl, fun j r hj => ?_⟩, Or.inr ⟨_, _, rfl, by rw [List.length_map, List.length_range, hlen]⟩⟩
    obtain ⟨hj', rfl⟩ := row_get hj
    obtain ⟨ok, h0, h1, h2, h3⟩ := hq' j hj'
    refine ⟨ok, ?_⟩
    obtain ⟨b, off, spot⟩ := a
    have hspot : spot = none := by
      have h00 := (hq' 0 (by omega)).2.1
      simpa [Addr.add] using World.cell?_spot h00
    subst hspot
    have e1 : (Addr.mk b off none).add (j * 4) = ⟨b, off + j * 4, none⟩ := add_plain _ _ _
    rw [e1] at h0 h1 h2 h3
    have e2 : ∀ i, (Addr.mk b (off + j * 4) none).add i = ⟨b, off + j * 4 + i, none⟩ := fun i => add_plain _ _ _
    rw [e2] at h1 h2 h3
    have hlt : b < W.heap.size := by
      rcases Nat.lt_or_ge b W.heap.size with h | h
      · exact h
      · simp [World.cell?, Array.getElem?_eq_none h] at h0
    exact ⟨b, off, rfl, hlt, h0, h1, h2, h3⟩
theorem bytes_u32 : Tryz.prog.bytesOf 62 = 4 := by kernel_rfl
theorem bytes_lk : Tryz.prog.bytesOf 65 = 24 := by kernel_rfl
theorem reach_w {H : Type} {ts : List TypeId} {r : List (DataW H)} (hsz : (DataW.weightsEach Tryz.prog ts r).all (· ≤ reachBytes) = true) {j : Nat} {d0 d1 d2 d3 d4 : DataW H} (ht : ts[j]? = some 25) (hd : r[j]? = some (.agg [d0, d1, d2, d3, d4])) {n : Nat} {d : DataW H} (hh : d = d0 ∨ d = d1 ∨ d = d3) (hr : ReadsN d n) : n * 4 ≤ 140737488351232 := by
  rcases hr with rfl | ⟨el, sp, rfl, hl⟩
  · simp
  · have hm := List.all_eq_true.1 hsz _ (DataW.weights_mem_each (j := j) (t := 25) (d := .agg [d0, d1, d2, d3, d4]) ht hd ((el.length + sp.length) * Tryz.prog.bytesOf 62) (by
      rcases hh with rfl | rfl | rfl <;> simp [DataW.weights, DataW.weightsEach, Tryz.underlying25, Tryz.underlying22]))
    have hm' : (el.length + sp.length) * Tryz.prog.bytesOf 62 ≤ reachBytes := by simpa using hm
    rw [bytes_u32] at hm'
    unfold reachBytes at hm'
    omega
theorem reach_l {H : Type} {ts : List TypeId} {r : List (DataW H)} (hsz : (DataW.weightsEach Tryz.prog ts r).all (· ≤ reachBytes) = true) {j : Nat} {d0 d1 d2 d3 d4 : DataW H} (ht : ts[j]? = some 25) (hd : r[j]? = some (.agg [d0, d1, d2, d3, d4])) {n : Nat} {d : DataW H} (hh : d = d2 ∨ d = d4) (hr : ReadsN d n) : n * 24 ≤ 140737488351232 := by
  rcases hr with rfl | ⟨el, sp, rfl, hl⟩
  · simp
  · have hm := List.all_eq_true.1 hsz _ (DataW.weights_mem_each (j := j) (t := 25) (d := .agg [d0, d1, d2, d3, d4]) ht hd ((el.length + sp.length) * Tryz.prog.bytesOf 65) (by
      rcases hh with rfl | rfl <;> simp [DataW.weights, DataW.weightsEach, Tryz.underlying25, Tryz.underlying23]))
    have hm' : (el.length + sp.length) * Tryz.prog.bytesOf 65 ≤ reachBytes := by simpa using hm
    rw [bytes_lk] at hm'
    unfold reachBytes at hm'
    omega
set_option maxRecDepth 100000 in
theorem hier_open {H : Type} {enc : TypeId × Value → H} {W : World} {base : Nat} {v : Value} {d : DataW H} {p : List MemPlace} (hv : Value.okWide Tryz.prog W .any base 25 v) (h : DataW.Trod enc Tryz.prog W 0 (fun _ => true) true 25 v d p) :
    ∃ (x : HV) (a : Hr) (d0 d1 d2 d3 d4 : DataW H), v = hvl x a ∧ HasH W x a ∧ d = .agg [d0, d1, d2, d3, d4] ∧ ReadsN d0 a.node.length ∧ ReadsN d2 a.up.length ∧ ReadsN d4 a.dn.length ∧ ReadsN d1 a.upF.length ∧ ReadsN d3 a.dnF.length := by
  obtain ⟨cs, rfl, hsz⟩ := okWide_struct Tryz.underlying25 hv
  rw [cells_hier] at hsz
  obtain ⟨g0, g1, g2, g3, g4, rfl⟩ : ∃ g0 g1 g2 g3 g4, cs = #[g0, g1, g2, g3, g4] := by
    obtain ⟨l⟩ := cs
    match l, hsz with
    | [g0, g1, g2, g3, g4], _ => exact ⟨g0, g1, g2, g3, g4, rfl⟩
  obtain ⟨fuel, hf⟩ := h
  have hf' : DataW.trod enc Tryz.prog W 0 (fun _ => true) true fuel 25 [g0, g1, g2, g3, g4] = some (d, p) := hf
  obtain ⟨y0, y1, y2, y3, y4, m, hd, t0, t1, t2, t3, t4⟩ := trod_struct5 Tryz.underlying25 hf'
  rw [cells_u32s] at t0 t1 t3
  rw [cells_lks] at t2 t4
  simp at t0 t1 t2 t3 t4
  obtain ⟨o0, c0, l0, rfl, h0, b0⟩ := words_open t0
  obtain ⟨o1, c1, l1, rfl, h1, b1⟩ := words_open t1
  obtain ⟨o2, c2, l2, rfl, h2, b2⟩ := links_open t2
  obtain ⟨o3, c3, l3, rfl, h3, b3⟩ := words_open t3
  obtain ⟨o4, c4, l4, rfl, h4, b4⟩ := links_open t4
  exact ⟨⟨o0, o1, o2, o3, o4, c0, c1, c2, c3, c4⟩, ⟨l0, l1, l2, l3, l4⟩, y0.1, y1.1, y2.1, y3.1, y4.1, rfl, ⟨h0, h1, h2, h3, h4⟩, hd, b0, b2, b4, b1, b3⟩
end Go.Proofs.YtodilocmfdeehaaGreatDoor.Hi
