/- A slice of places among the arguments, opened: the places that it reads as lie in memory, and their numbers are within their kind. -/
import Derived.Test.YtkmbffdjgpjojabDoorFrame
import Derived.Test.YtkmbffdjgpjojabDoorChain
import Derived.Test.YtkmbffdjgpjojabDoorText
import Derived.Deep.Slices
namespace Go.Proofs.YtkmbffdjgpjojabDoor
open Go.ChangeShapes Go.WideShapes Go.RowKit Go.Deep

theorem Tryd.cells34 : Tryd.prog.cellsOf 43 = 2 := by kernel_rfl
theorem Tryd.cells22 : Tryd.prog.cellsOf 30 = 1 := by kernel_rfl
theorem Tryd.cells3 : Tryd.prog.cellsOf 3 = 1 := by kernel_rfl

set_option maxRecDepth 100000 in
theorem places_open {H : Type} {enc : TypeId × Value → H} {W : World} {base : Nat} {v : Value} {d : DataW H} {p : List MemPlace} (hv : Value.okWide Tryd.prog W .any base 35 v) (h : DataW.Trod enc Tryd.prog W 0 (fun _ => true) true 35 v d p) :
    ∃ ps : List (Int × Int), HasPlaces W v ps ∧ (∀ q ∈ ps, in64 q.2) ∧ ps.length ≤ maxLen := by
  obtain ⟨a0, len, cap, rfl⟩ := okWide_slice Tryd.underlying35 hv
  obtain ⟨fuel, hf⟩ := h
  rcases open_slice Tryd.underlying35 hf with ⟨hcs, _⟩ | ⟨a, len', cap', m, n, D, Pl, hcs, _, hl, hm, hmm, _, hx⟩
  · have e : Value.slice a0 len cap = .slice none 0 0 := by simpa [Value.cells] using hcs
    cases e
    exact ⟨[], ⟨none, 0, rfl, fun j q hj => by simp at hj⟩, fun q hq => by simp at hq, Nat.zero_le _⟩
  · have e : Value.slice a0 len cap = .slice (some a) len' cap' := by simpa [Value.cells] using hcs
    cases e
    simp at hmm
    subst hmm
    have hq : ∀ i, i < len → ∃ q : Int × Int, in64 q.2 ∧ W.cell? (a.add (i * 2)) = some (.int .i64 q.1) ∧ W.cell? ((a.add (i * 2)).add 1) = some (.int .i64 q.2) := fun i hi => by
      obtain ⟨cs', h1, h2⟩ := hx i (by omega)
      rw [Tryd.cells34] at h1
      obtain ⟨_, hlen, hcell⟩ := World.cells?_some h1
      obtain ⟨c0, c1, rfl⟩ : ∃ c0 c1, cs' = [c0, c1] := by
        match cs', hlen with
        | [c0, c1], _ => exact ⟨c0, c1, rfl⟩
      obtain ⟨y0, y1, m, _, _, t0, t1⟩ := trod_struct2 Tryd.underlying43 h2
      rw [Tryd.cells22] at t0
      rw [Tryd.cells3] at t1
      obtain ⟨x0, e0, _, w0⟩ := DataW.trod_int Tryd.underlying30 t0
      obtain ⟨x1, e1, _, w1⟩ := DataW.trod_int Tryd.underlying3 t1
      simp at e0 e1
      subst e0 e1
      have g0 := hcell 0 (by omega)
      have g1 := hcell 1 (by omega)
      exact ⟨(x0, x1), bounds_i64 w1, by simpa [Addr.add] using g0, by simpa using g1⟩
    obtain ⟨q, hq'⟩ := choose_lt hq
    refine ⟨(List.range len).map q, ⟨some a, m, by simp, fun j r hj => ?_⟩, fun r hr => ?_, ?_⟩
    · have hj' : j < len := by
        have := (List.getElem?_eq_some_iff.1 hj).1
        simpa using this
      have er : r = q j := by
        rw [List.getElem?_map, List.getElem?_range hj'] at hj
        exact (Option.some.inj hj).symm
      subst er
      obtain ⟨_, h0, h1⟩ := hq' j hj'
      obtain ⟨b, off, spot⟩ := a
      have hspot : spot = none := by
        have h00 := (hq' 0 (by omega)).2.1
        simpa [Addr.add] using World.cell?_spot h00
      subst hspot
      have e1 : (Addr.mk b off none).add (j * 2) = ⟨b, off + j * 2, none⟩ := add_plain _ _ _
      rw [e1] at h0 h1
      have e2 : (Addr.mk b (off + j * 2) none).add 1 = ⟨b, off + j * 2 + 1, none⟩ := add_plain _ _ _
      rw [e2] at h1
      have hlt : b < W.heap.size := by
        rcases Nat.lt_or_ge b W.heap.size with h | h
        · exact h
        · simp [World.cell?, Array.getElem?_eq_none h] at h0
      exact ⟨b, off, rfl, hlt, h0, h1⟩
    · obtain ⟨j, hj, rfl⟩ := List.mem_map.1 hr
      exact (hq' j (List.mem_range.1 hj)).1
    · rw [List.length_map, List.length_range]
      omega
end Go.Proofs.YtkmbffdjgpjojabDoor
