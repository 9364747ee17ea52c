/- The queue of a witness search in memory: the search's struct, its row of entries; what a store makes of it; what a call leaves alone. (genwtq.py) -/
import Derived.Test.YtcfpkbmeblfhoaaWtH
import Derived.OwnWalk
import Derived.BigQuiet
namespace Go.Proofs.Ytcfpkbmeblfhoaa.Wt
open Go.RowKit Go.Extern

attribute [local go_sem] Oper.semAt_some

/-- the cells of things. -/
def flatE (l : List Th) : List Value := l.flatMap fun a => [.int .u64 a.1, .int .i64 a.2]
theorem flatE_len (l : List Th) : (flatE l).length = l.length * 2 := by
  induction l with
  | nil => rfl
  | cons a r ih => simp only [flatE, List.flatMap_cons, List.length_append, List.length_cons] at *; rw [ih]; simp; omega
theorem flatE_append (l r : List Th) : flatE (l ++ r) = flatE l ++ flatE r := by simp [flatE]
theorem flatE_get : ∀ (l : List Th) (i : Nat) (a : Th), l[i]? = some a → (flatE l)[i * 2]? = some (.int .u64 a.1) ∧ (flatE l)[i * 2 + 1]? = some (.int .i64 a.2)
  | [], i, a, h => by simp at h
  | b :: r, 0, a, h => by
    simp at h
    subst h
    simp [flatE]
  | b :: r, i + 1, a, h => by
    have ih := flatE_get r i a (by simpa using h)
    have e : flatE (b :: r) = [.int .u64 b.1, .int .i64 b.2] ++ flatE r := by simp [flatE]
    rw [e, show (i + 1) * 2 = i * 2 + 2 by omega]
    refine ⟨?_, ?_⟩
    · rw [List.getElem?_append_right (by simp)]; simpa using ih.1
    · rw [List.getElem?_append_right (by simp)]; simpa [show i * 2 + 2 + 1 - 2 = i * 2 + 1 by omega] using ih.2
theorem flatE_set (l : List Th) (i : Nat) (a : Th) : flatE (l.set i a) = ((flatE l).set (i * 2) (.int .u64 a.1)).set (i * 2 + 1) (.int .i64 a.2) := by
  induction l generalizing i with
  | nil => simp [flatE]
  | cons b r ih =>
    cases i with
    | zero => simp [flatE]
    | succ i =>
      have e : ∀ x (q : List Th), flatE (x :: q) = .int .u64 x.1 :: .int .i64 x.2 :: flatE q := fun x q => by simp [flatE]
      rw [List.set_cons_succ, e, e, ih i, show (i + 1) * 2 = i * 2 + 1 + 1 by omega, List.set_cons_succ, List.set_cons_succ, List.set_cons_succ, List.set_cons_succ]
theorem flatE_take (l : List Th) (m : Nat) : flatE (l.take m) = (flatE l).take (m * 2) := by
  induction l generalizing m with
  | nil => simp [flatE]
  | cons b r ih =>
    cases m with
    | zero => simp [flatE]
    | succ m =>
      have e : ∀ x (q : List Th), flatE (x :: q) = .int .u64 x.1 :: .int .i64 x.2 :: flatE q := fun x q => by simp [flatE]
      rw [List.take_succ_cons, e, e, ih m, show (m + 1) * 2 = m * 2 + 1 + 1 by omega, List.take_succ_cons, List.take_succ_cons]


theorem heap_setCell_sameW {w : World} {b o : Nat} {c : Array Value} {t : TypeId} (v : Value) (h : w.heap[b]? = some (.cells c t)) : (w.setCell ⟨b, o, none⟩ v).heap[b]? = some (.cells (c.setIfInBounds o v) t) := by
  simp only [World.setCell, Array.getElem?_modify]
  rw [if_pos trivial, h]
  rfl
section
variable {w w' : World} {sb : Nat} {c0 c1 c2 c3 c4 sv sv' : Value} {Q Q' : List Th}
/-- a search's memory, as far as the queue asks. -/
structure QMem (w : World) (sb : Nat) (c0 c1 c2 c3 c4 sv : Value) (Q : List Th) : Prop where
  box : w.heap[sb]? = some (.cells #[c0, c1, c2, c3, c4, sv] 82)
  row : w.ownsRow 0 87 2 sv Q.length (flatE Q)
  hp : sv.ownBlock ≠ some sb
/-- what a call on the queue leaves alone. -/
structure QFr (sb : Nat) (sv sv' : Value) (w w' : World) : Prop where
  os : w'.os = w.os
  tape : w'.tape = w.tape
  output : w'.output = w.output
  size : w.heap.size ≤ w'.heap.size
  block : ∀ k, k < w.heap.size → k ≠ sb → some k ≠ sv.ownBlock → w'.heap[k]? = w.heap[k]?
  own : ∀ k, k < w.heap.size → sv'.ownBlock = some k → sv.ownBlock = some k
theorem QFr.refl (sb : Nat) (sv : Value) (w : World) : QFr sb sv sv w w := ⟨rfl, rfl, rfl, Nat.le_refl _, fun _ _ _ _ => rfl, fun _ _ h => h⟩
theorem QFr.trans {sv'' : Value} {w'' : World} (h : QFr sb sv sv' w w') (k : QFr sb sv' sv'' w' w'') : QFr sb sv sv'' w w'' :=
  ⟨k.os.trans h.os, k.tape.trans h.tape, k.output.trans h.output, Nat.le_trans h.size k.size,
   fun j hj h1 h3 => (k.block j (Nat.lt_of_lt_of_le hj h.size) h1 (fun e => h3 (h.own j hj e.symm).symm)).trans (h.block j hj h1 h3),
   fun j hj e => h.own j hj (k.own j (Nat.lt_of_lt_of_le hj h.size) e)⟩
theorem QFr.of_below (h : Below w.heap.size w w') : QFr sb sv sv w w' := ⟨h.os, h.tape, h.output, h.size, fun k hk _ _ => h.block k hk, fun _ _ e => e⟩
theorem QFr.below {n : Nat} (h : QFr sb sv sv' w w') (hn : n ≤ w.heap.size) (h1 : n ≤ sb) (h3 : ∀ k, sv.ownBlock = some k → n ≤ k) : Below n w w' :=
  ⟨h.os, h.tape, h.output, h.size, fun k hk => h.block k (by omega) (by omega) (fun e => by have := h3 k e.symm; omega)⟩
theorem QFr.drew (h : QFr sb sv sv' w w') : QFr sb sv sv' w w'.drew := ⟨h.os, h.tape, h.output, h.size, h.block, h.own⟩
theorem QMem.keep (h : QMem w sb c0 c1 c2 c3 c4 sv Q) (hk : ∀ k, k < w.heap.size → (k = sb ∨ sv.ownBlock = some k) → w'.heap[k]? = w.heap[k]?) : QMem w' sb c0 c1 c2 c3 c4 sv Q := by
  refine ⟨(hk sb (lt_of_get h.box) (Or.inl rfl)).trans h.box, ?_, h.hp⟩
  obtain ⟨h1, h2⟩ := h.row
  refine ⟨h1, ?_⟩
  rcases h2 with h2 | ⟨g, cap, cur, e, hb', hh, r⟩
  · exact Or.inl h2
  · exact Or.inr ⟨g, cap, cur, e, hb', (hk g (lt_of_get hh) (Or.inr (by rw [e]; rfl))).trans hh, r⟩
theorem QMem.up (h : QMem w sb c0 c1 c2 c3 c4 sv Q) (hb' : Below w.heap.size w w') : QMem w' sb c0 c1 c2 c3 c4 sv Q := h.keep fun k hk _ => hb'.block k hk
theorem QMem.drew (h : QMem w sb c0 c1 c2 c3 c4 sv Q) : QMem w.drew sb c0 c1 c2 c3 c4 sv Q := h.keep fun _ _ _ => rfl
theorem QMem.cells (h : QMem w sb c0 c1 c2 c3 c4 sv Q) : w.cell? ⟨sb, 0, none⟩ = some c0 ∧ w.cell? ⟨sb, 1, none⟩ = some c1 ∧ w.cell? ⟨sb, 2, none⟩ = some c2 ∧ w.cell? ⟨sb, 3, none⟩ = some c3 ∧ w.cell? ⟨sb, 4, none⟩ = some c4 ∧ w.cell? ⟨sb, 5, none⟩ = some sv ∧ w.frozen? ⟨sb, 3, none⟩ = false ∧ w.frozen? ⟨sb, 5, none⟩ = false := by
  simp [World.cell?, World.frozen?, h.box]
theorem QMem.shape (h : QMem w sb c0 c1 c2 c3 c4 sv Q) : ∃ so cap, sv = .slice so Q.length cap ∧ Q.length ≤ cap ∧ cap ≤ maxLen := by
  rcases h.row.2 with ⟨e, h0⟩ | ⟨g, cap, cur, e, _, _, h1, h2, _⟩
  · exact ⟨none, 0, by rw [h0]; exact e, by omega, by unfold maxLen; omega⟩
  · exact ⟨_, cap, e, h1, h2⟩
theorem QMem.entry (h : QMem w sb c0 c1 c2 c3 c4 sv Q) {i : Nat} {t : Th} (hi : Q[i]? = some t) : ∃ g cap, sv = .slice (some ⟨g, 0, none⟩) Q.length cap ∧ Q.length ≤ cap ∧ cap ≤ maxLen ∧ g < w.heap.size ∧ g ≠ sb ∧
    w.cell? ⟨g, i * 2, none⟩ = some (.int .u64 t.1) ∧ w.cell? ⟨g, i * 2 + 1, none⟩ = some (.int .i64 t.2) ∧ w.frozen? ⟨g, i * 2, none⟩ = false ∧ w.frozen? ⟨g, i * 2 + 1, none⟩ = false := by
  have hlt := (List.getElem?_eq_some_iff.1 hi).1
  have h1 := h.hp
  have hrow := h.row
  rcases h.row.2 with ⟨e, h0⟩ | ⟨g, cap, cur, rfl, _, hh, hc, hm, hs, ht⟩
  · omega
  · obtain ⟨g0, g1⟩ := flatE_get Q i t hi
    exact ⟨g, cap, rfl, hc, hm, lt_of_get hh, fun e => h1 (by rw [e]; rfl), (hrow.cellAt (i * 2) (by omega)).trans g0, (hrow.cellAt (i * 2 + 1) (by omega)).trans g1, by simp [World.frozen?, hh], by simp [World.frozen?, hh]⟩
/-- an entry is laid at a place of the row. -/
theorem QMem.put {g cap : Nat} (h : QMem w sb c0 c1 c2 c3 c4 (.slice (some ⟨g, 0, none⟩) Q.length cap) Q) (i : Nat) (t : Th) :
    QMem ((w.setCell ⟨g, i * 2, none⟩ (.int .u64 t.1)).setCell ⟨g, i * 2 + 1, none⟩ (.int .i64 t.2)) sb c0 c1 c2 c3 c4 (.slice (some ⟨g, 0, none⟩) (Q.set i t).length cap) (Q.set i t) := by
  have h1 : g ≠ sb := fun e => h.hp (by rw [e]; rfl)
  have hk : ∀ k, k ≠ g → ((w.setCell ⟨g, i * 2, none⟩ (.int .u64 t.1)).setCell ⟨g, i * 2 + 1, none⟩ (.int .i64 t.2)).heap[k]? = w.heap[k]? := fun k hk => (heap_setCell_other _ _ _ _ hk).trans (heap_setCell_other _ _ _ _ hk)
  refine ⟨by rw [List.length_set]; exact (hk sb (Ne.symm h1)).trans h.box, ?_, by simpa [Value.ownBlock] using h.hp⟩
  rw [List.length_set]
  rcases h.row with ⟨hl, ⟨e, h0⟩ | ⟨g', cap', cur, e, hb', hh, hc, hm, hs, ht⟩⟩
  · cases e
  · cases e
    refine ⟨by rw [flatE_set]; simpa using hl, Or.inr ⟨g, cap, _, rfl, hb', heap_setCell_sameW _ (heap_setCell_sameW _ hh), hc, hm, by simpa using hs, ?_⟩⟩
    rw [flatE_set, ← ht]
    simp [Array.toList_setIfInBounds, List.take_set]
/-- the struct's last field is laid anew. -/
theorem QMem.field (h : QMem w sb c0 c1 c2 c3 c4 sv Q) (hr : w.ownsRow 0 87 2 sv' Q'.length (flatE Q')) (h1 : sv'.ownBlock ≠ some sb) : QMem (w.setCell ⟨sb, 5, none⟩ sv') sb c0 c1 c2 c3 c4 sv' Q' := by
  have hk : ∀ k, k ≠ sb → (w.setCell ⟨sb, 5, none⟩ sv').heap[k]? = w.heap[k]? := fun k hk => heap_setCell_other _ _ _ _ hk
  refine ⟨?_, ?_, h1⟩
  · rw [heap_setCell_sameW _ h.box]; rfl
  · obtain ⟨r1, r2⟩ := hr
    refine ⟨r1, ?_⟩
    rcases r2 with r2 | ⟨g, cap, cur, e, hb', hh, r⟩
    · exact Or.inl r2
    · exact Or.inr ⟨g, cap, cur, e, hb', (hk g (fun e' => h1 (by rw [e, e']; rfl))).trans hh, r⟩
/-- the row is cut short. -/
theorem QMem.short {g cap m : Nat} (h : QMem w sb c0 c1 c2 c3 c4 (.slice (some ⟨g, 0, none⟩) Q.length cap) Q) (hm : m ≤ Q.length) : w.ownsRow 0 87 2 (.slice (some ⟨g, 0, none⟩) (Q.take m).length cap) (Q.take m).length (flatE (Q.take m)) := by
  have hlen : (Q.take m).length = m := by rw [List.length_take]; omega
  rw [hlen]
  rcases h.row with ⟨hl, ⟨e, h0⟩ | ⟨g', cap', cur, e, hb', hh, hc, hmx, hs, ht⟩⟩
  · cases e
  · cases e
    refine ⟨by rw [flatE_take, List.length_take, hl]; omega, Or.inr ⟨g, cap, cur, rfl, hb', hh, by omega, hmx, hs, ?_⟩⟩
    rw [flatE_take, ← ht, List.take_take, Nat.min_eq_left (by omega)]
end
/-- the four stores of a swap. -/
theorem QMem.swap {w : World} {sb : Nat} {c0 c1 c2 c3 c4 : Value} {Q : List Th} {g cap : Nat} (h : QMem w sb c0 c1 c2 c3 c4 (.slice (some ⟨g, 0, none⟩) Q.length cap) Q) (i j : Nat) :
    QMem ((((w.setCell ⟨g, i * 2, none⟩ (.int .u64 (plc Q j).1)).setCell ⟨g, i * 2 + 1, none⟩ (.int .i64 (plc Q j).2)).setCell ⟨g, j * 2, none⟩ (.int .u64 (plc Q i).1)).setCell ⟨g, j * 2 + 1, none⟩ (.int .i64 (plc Q i).2)) sb c0 c1 c2 c3 c4 (.slice (some ⟨g, 0, none⟩) Q.length cap) (swL Q i j) ∧
    QFr sb (.slice (some ⟨g, 0, none⟩) Q.length cap) (.slice (some ⟨g, 0, none⟩) Q.length cap) w ((((w.setCell ⟨g, i * 2, none⟩ (.int .u64 (plc Q j).1)).setCell ⟨g, i * 2 + 1, none⟩ (.int .i64 (plc Q j).2)).setCell ⟨g, j * 2, none⟩ (.int .u64 (plc Q i).1)).setCell ⟨g, j * 2 + 1, none⟩ (.int .i64 (plc Q i).2)) := by
  have h1 := h.put i (plc Q j)
  have h2 := h1.put j (plc Q i)
  rw [List.length_set, List.length_set] at h2
  refine ⟨h2, ⟨rfl, rfl, rfl, by simp, fun k hk hs hg => ?_, fun k _ e => e⟩⟩
  have hkg : k ≠ g := fun e => hg (by rw [e]; rfl)
  exact (heap_setCell_other _ _ _ _ hkg).trans ((heap_setCell_other _ _ _ _ hkg).trans ((heap_setCell_other _ _ _ _ hkg).trans (heap_setCell_other _ _ _ _ hkg)))
end Go.Proofs.Ytcfpkbmeblfhoaa.Wt
