/- A graph among the arguments, opened: the arcs that it reads as lie in memory. -/
import Derived.Test.YtcfpkbmeblfhoaaLift
import Derived.Test.YtcfpkbmeblfhoaaCheck
import Derived.Deep.Slices
import Derived.Deep.Strs
namespace Go.Proofs.Ytcfpkbmeblfhoaa
open Go.ChangeShapes Go.WideShapes Go.RowKit Go.Deep

theorem Try.cells24 : Try.prog.cellsOf 35 = 2 := by kernel_rfl
theorem Try.cells22 : Try.prog.cellsOf 33 = 1 := by kernel_rfl
theorem Try.cells39 : Try.prog.cellsOf 51 = 3 := by kernel_rfl
theorem Try.cells3 : Try.prog.cellsOf 3 = 1 := by kernel_rfl

set_option maxRecDepth 100000 in
theorem graph_open {H : Type} {enc : TypeId × Value → H} {W : World} {base : Nat} {v : Value} {d : DataW H} {p : List MemPlace} (hv : Value.okWide Try.prog W .any base 35 v) (h : DataW.Trod enc Try.prog W 0 (fun _ => true) true 35 v d p) :
    ∃ (N : Int) (ao : Option Addr) (cap : Nat) (xs : List (Int × Int × Int)), v = .agg #[.int .i64 N, .slice ao xs.length cap] ∧ HasArcs W (.slice ao xs.length cap) xs ∧ xs.length ≤ maxLen := by
  obtain ⟨cs, rfl, hsz⟩ := okWide_struct Try.underlying35 hv
  rw [Try.cells24] at hsz
  obtain ⟨g0, g1, rfl⟩ : ∃ g0 g1, cs = #[g0, g1] := by
    obtain ⟨l⟩ := cs
    match l, hsz with
    | [g0, g1], _ => exact ⟨g0, g1, rfl⟩
  obtain ⟨fuel, hf⟩ := h
  have hf' : DataW.trod enc Try.prog W 0 (fun _ => true) true fuel 35 [g0, g1] = some (d, p) := hf
  obtain ⟨y0, y1, m, _, _, t0, t1⟩ := trod_struct2 Try.underlying35 hf'
  rw [Try.cells3] at t0
  rw [Try.cells22] at t1
  obtain ⟨N, e0, _, _⟩ := DataW.trod_int Try.underlying3 t0
  simp at e0 t1
  subst e0
  rcases open_slice Try.underlying33 t1 with ⟨hcs, _⟩ | ⟨a, len', cap', m, n, D, Pl, hcs, _, hl, hm, hmm, _, hx⟩
  · have e : g1 = .slice none 0 0 := by simpa using hcs
    subst e
    exact ⟨N, none, 0, [], rfl, ⟨none, 0, rfl, fun j q hj => by simp at hj⟩, Nat.zero_le _⟩
  · have e : g1 = .slice (some a) len' cap' := by simpa using hcs
    subst e
    simp at hmm
    subst hmm
    have hq : ∀ i, i < len' → ∃ q : Int × Int × Int, W.cell? (a.add (i * 3)) = some (.int .i64 q.1) ∧ W.cell? ((a.add (i * 3)).add 1) = some (.int .i64 q.2.1) ∧ W.cell? ((a.add (i * 3)).add 2) = some (.int .i64 q.2.2) := fun i hi => by
      obtain ⟨cs', h1, h2⟩ := hx i (by omega)
      rw [Try.cells39] at h1
      obtain ⟨_, hlen, hcell⟩ := World.cells?_some h1
      obtain ⟨c0, c1, c2, rfl⟩ : ∃ c0 c1 c2, cs' = [c0, c1, c2] := by
        match cs', hlen with
        | [c0, c1, c2], _ => exact ⟨c0, c1, c2, rfl⟩
      obtain ⟨y0, y1, y2, m, _, _, t0, t1, t2⟩ := trod_struct3 Try.underlying51 h2
      rw [Try.cells3] at t0 t1 t2
      obtain ⟨x0, e0, _, _⟩ := DataW.trod_int Try.underlying3 t0
      obtain ⟨x1, e1, _, _⟩ := DataW.trod_int Try.underlying3 t1
      obtain ⟨x2, e2, _, _⟩ := DataW.trod_int Try.underlying3 t2
      simp at e0 e1 e2
      subst e0 e1 e2
      have g0 := hcell 0 (by omega)
      have g1 := hcell 1 (by omega)
      have g2 := hcell 2 (by omega)
      exact ⟨(x0, x1, x2), by simpa [Addr.add] using g0, by simpa using g1, by simpa using g2⟩
    obtain ⟨q, hq'⟩ := choose_lt hq
    have hlen : ((List.range len').map q).length = len' := by rw [List.length_map, List.length_range]
    refine ⟨N, some a, m, (List.range len').map q, by rw [hlen], ⟨some a, m, rfl, fun j r hj => ?_⟩, by rw [hlen]; omega⟩
    have hj' : j < len' := by
      have := (List.getElem?_eq_some_iff.1 hj).1
      rw [hlen] at this
      exact this
    have er : r = q j := by
      rw [List.getElem?_map, List.getElem?_range hj'] at hj
      exact (Option.some.inj hj).symm
    subst er
    obtain ⟨h0, h1, h2⟩ := hq' j hj'
    obtain ⟨b, off, spot⟩ := a
    have hspot : spot = none := by
      have h00 := (hq' 0 (by omega)).1
      simpa [Addr.add] using World.cell?_spot h00
    subst hspot
    have e1 : (Addr.mk b off none).add (j * 3) = ⟨b, off + j * 3, none⟩ := add_plain _ _ _
    rw [e1] at h0 h1 h2
    have e2 : (Addr.mk b (off + j * 3) none).add 1 = ⟨b, off + j * 3 + 1, none⟩ := add_plain _ _ _
    have e3 : (Addr.mk b (off + j * 3) none).add 2 = ⟨b, off + j * 3 + 2, none⟩ := add_plain _ _ _
    rw [e2] at h1
    rw [e3] at h2
    have hlt : b < W.heap.size := by
      rcases Nat.lt_or_ge b W.heap.size with h | h
      · exact h
      · simp [World.cell?, Array.getElem?_eq_none h] at h0
    exact ⟨b, off, rfl, hlt, h0, h1, h2⟩
end Go.Proofs.Ytcfpkbmeblfhoaa
