/- The program's stamp and the reference's lists side by side. -/
import Derived.Test.YtlgdhoemjllfdaaInts
namespace Go.Proofs.Ytlgdhoemjllfdaa
open Go.RowKit

/-- the program's stamp and the reference's lists side by side; the lists' value in a box of its own. -/
structure PI (w wr : World) (sb pb kb ib mb n : Nat) (vs : List (Option Int)) (ls : List Int) : Prop where
  st : IsStamp wr sb pb n vs
  rm : RM wr kb ib n ls (vs.map Option.isSome)
  mv : wr.heap[mb]? = some (.cells #[.slice (some ⟨kb, 0, none⟩) n n, .slice (some ⟨ib, 0, none⟩) n n] 46)
  vals : ∀ (i : Nat) (x : Int), vs[i]? = some (some x) → ls[i]? = some x
  ap : kb ≠ sb ∧ kb ≠ pb ∧ ib ≠ sb ∧ ib ≠ pb
  nm : mb ≠ sb ∧ mb ≠ pb ∧ mb ≠ kb ∧ mb ≠ ib
  base : w.heap.size ≤ sb ∧ w.heap.size ≤ pb ∧ w.heap.size ≤ kb ∧ w.heap.size ≤ ib
  below : Below w.heap.size w wr
section
variable {w wr w' : World} {sb pb kb ib mb n : Nat} {vs : List (Option Int)} {ls : List Int}
theorem PI.later (h : PI w wr sb pb kb ib mb n vs ls) (hb : Below wr.heap.size wr w') : PI w w' sb pb kb ib mb n vs ls := ⟨h.st.below hb, h.rm.below hb, (hb.block _ (lt_of_get h.mv)).trans h.mv, h.vals, h.ap, h.nm, h.base, h.below.trans (hb.mono h.below.size)⟩
/-- both are set anew. -/
theorem PI.pair {w1 w2 : World} {vs' : List (Option Int)} {ls' : List Int} (h : PI w wr sb pb kb ib mb n vs ls) (h1 : IsStamp w1 sb pb n vs' ∧ Fr sb pb wr w1) (h2 : RS kb ib n w1 ls' (vs'.map Option.isSome) w2) (hv : ∀ (i : Nat) (x : Int), vs'[i]? = some (some x) → ls'[i]? = some x) : PI w w2 sb pb kb ib mb n vs' ls' := by
  have lm := lt_of_get h.mv
  have hs := h.below.size
  have hs1 := h1.2.size
  obtain ⟨b0, b1, b2, b3⟩ := h.base
  obtain ⟨m0, m1, m2, m3⟩ := h.nm
  refine ⟨h1.1.keep fun k hk e => h2.block k hk ?_ ?_, h2.rm, ?_, hv, h.ap, h.nm, h.base, ?_⟩
  · rcases e with rfl | rfl
    · exact Ne.symm h.ap.1
    · exact Ne.symm h.ap.2.1
  · rcases e with rfl | rfl
    · exact Ne.symm h.ap.2.2.1
    · exact Ne.symm h.ap.2.2.2
  · rw [h2.block mb (by omega) m2 m3, h1.2.block mb lm m0 m1]; exact h.mv
  · exact (h.below.trans (h1.2.below hs b0 b1)).trans ⟨h2.os, h2.tape, h2.output, h2.size, fun k hk => h2.block k (by omega) (by omega) (by omega)⟩
/-- both are set at a place. -/
theorem PI.both {w1 w2 : World} {i : Nat} {x : Int} (h : PI w wr sb pb kb ib mb n vs ls) (h1 : IsStamp w1 sb pb n (vs.set i (some x)) ∧ Fr sb pb wr w1) (h2 : RS kb ib n w1 (ls.set i x) ((vs.map Option.isSome).set i true) w2) : PI w w2 sb pb kb ib mb n (vs.set i (some x)) (ls.set i x) := by
  refine h.pair h1 (by rw [List.map_set]; exact h2) fun j y hj => ?_
  have hl : ls.length = vs.length := by rw [h.rm.ll, ← h.rm.il, List.length_map]
  by_cases e : j = i
  · subst e
    have hlt : j < vs.length := by
      have := (List.getElem?_eq_some_iff.1 hj).1
      rwa [List.length_set] at this
    rw [set_same _ hlt] at hj
    rw [set_same _ (by omega)]
    exact congrArg some (Option.some.inj (Option.some.inj hj))
  · rw [set_other _ e] at hj ⊢
    exact h.vals j y hj
theorem PI.rmAt (h : PI w wr sb pb kb ib mb n vs ls) {w1 : World} (hf : Fr sb pb wr w1) : RM w1 kb ib n ls (vs.map Option.isSome) ∧ w1.cell? ⟨mb, 0, none⟩ = some (.slice (some ⟨kb, 0, none⟩) n n) ∧ w1.cell? ⟨mb, 1, none⟩ = some (.slice (some ⟨ib, 0, none⟩) n n) ∧ mb < w1.heap.size := by
  have g := (hf.block _ (lt_of_get h.mv) h.nm.1 h.nm.2.1).trans h.mv
  exact ⟨h.rm.keep (hf.block _ (lt_of_get h.rm.krow) h.ap.1 h.ap.2.1) (hf.block _ (lt_of_get h.rm.irow) h.ap.2.2.1 h.ap.2.2.2), (pair_cells g).1, (pair_cells g).2, lt_of_get g⟩
/-- at first. -/
theorem PI.new {w3 w4 : World} (h2 : IsStamp w3 sb pb n (List.replicate n none)) (hR : RM w4 kb ib n (List.replicate n 0) (List.replicate n false)) (hk : w3.heap.size ≤ kb) (hi : w3.heap.size ≤ ib) (hb : Below w3.heap.size w3 w4) (hw : Below w.heap.size w w3) (b0 : w.heap.size ≤ sb) (b1 : w.heap.size ≤ pb) {o2 : Obj} : PI w ((w4.alloc (.cells #[.slice (some ⟨kb, 0, none⟩) n n, .slice (some ⟨ib, 0, none⟩) n n] 46)).alloc o2) sb pb kb ib w4.heap.size n (List.replicate n none) (List.replicate n 0) := by
  obtain ⟨g0, g1, g2, _, _⟩ := h2.lt
  obtain ⟨k0, _, hB⟩ := two_new w4 (.cells #[.slice (some ⟨kb, 0, none⟩) n n, .slice (some ⟨ib, 0, none⟩) n n] 46) o2
  have hs := hb.size
  have hs2 := hw.size
  have l0 := lt_of_get hR.krow
  have l1 := lt_of_get hR.irow
  refine ⟨(h2.below hb).below hB, by rw [List.map_replicate]; exact hR.below hB, k0, fun i x h => ?_, ?_, ?_, ?_, (hw.trans (hb.mono hs2)).trans (hB.mono (by omega))⟩
  · rw [List.getElem?_replicate] at h
    split at h <;> cases h
  · refine ⟨?_, ?_, ?_, ?_⟩ <;> omega
  · refine ⟨?_, ?_, ?_, ?_⟩ <;> omega
  · refine ⟨?_, ?_, ?_, ?_⟩ <;> omega
end
end Go.Proofs.Ytlgdhoemjllfdaa
