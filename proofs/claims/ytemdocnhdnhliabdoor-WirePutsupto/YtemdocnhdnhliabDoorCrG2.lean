/- rows of bytes that are written into: one byte. -/
import Derived.Test.YtemdocnhdnhliabDoorCrD
namespace Go.Proofs.YtemdocnhdnhliabDoor
open Go.RowKit Go.Extern Cr

theorem bown_set {w : World} {B g n cap k : Nat} {L : List Nat} (h : w.ownsRow B 5 1 (.slice (some ⟨g, 0, none⟩) n cap) n (bv L)) (x : Nat) : (w.setCell ⟨g, k, none⟩ (.int .u8 (x : Int))).ownsRow B 5 1 (.slice (some ⟨g, 0, none⟩) n cap) n (bv (L.set k x)) := by
  obtain ⟨h1, h2⟩ := h
  rw [bv_len, Nat.mul_one, Nat.mul_one] at h1
  rcases h2 with ⟨h2, _⟩ | ⟨g', cap', cur, e, hb, hh, hnc, hcm, hcs, ht⟩
  · cases h2
  · injection e with e1 e2 e3
    injection e1 with e1
    injection e1 with e1
    subst e1 e3
    refine ⟨by rw [bv_len, List.length_set, h1], Or.inr ⟨g, cap, cur.setIfInBounds k (.int .u8 (x : Int)), rfl, hb, ?_, hnc, hcm, by simpa using hcs, ?_⟩⟩
    · simp only [World.setCell, Array.getElem?_modify]
      rw [if_pos trivial, hh]
      rfl
    · rw [Nat.mul_one] at ht ⊢
      rw [Array.toList_setIfInBounds, List.take_set, ht]
      simp only [bv, List.map_set]
theorem bown_at {w : World} {B n : Nat} {v : Value} {L : List Nat} (h : w.ownsRow B 5 1 v n (bv L)) (hn : 0 < n) : ∃ g cap, v = .slice (some ⟨g, 0, none⟩) n cap ∧ B ≤ g ∧ g < w.heap.size ∧ (∀ j, w.frozen? ⟨g, j, none⟩ = false) ∧ ∀ (j a : Nat), L[j]? = some a → w.cell? ⟨g, j, none⟩ = some (.int .u8 (a : Int)) := by
  obtain ⟨h1, h2⟩ := h
  have h1' : L.length = n := by rw [bv_len, Nat.mul_one, Nat.mul_one] at h1; exact h1
  rcases h2 with ⟨_, h2⟩ | ⟨g, cap, cur, e, hb, hh, hnc, hcm, hcs, ht⟩
  · omega
  · refine ⟨g, cap, e, hb, b_lt_get hh, fun j => by simp [World.frozen?, hh], fun j a hj => ?_⟩
    have hlt := (List.getElem?_eq_some_iff.1 hj).1
    simp only [World.cell?, hh]
    have : (cur.toList.take (n * 1))[j]? = some (.int .u8 (a : Int)) := by rw [ht]; simp [bv, hj]
    rw [List.getElem?_take] at this
    split at this
    · simpa using this
    · cases this
theorem below_set {B : Nat} {w w' : World} (h : Below B w w') {g : Nat} (hg : B ≤ g) (o : Nat) (x : Value) : Below B w (w'.setCell ⟨g, o, none⟩ x) := by
  refine ⟨h.os, h.tape, h.output, by simpa [World.setCell] using h.size, fun j hj => ?_⟩
  rw [← h.block j hj]
  simp only [World.setCell, Array.getElem?_modify]
  rw [if_neg (by omega)]
end Go.Proofs.YtemdocnhdnhliabDoor
