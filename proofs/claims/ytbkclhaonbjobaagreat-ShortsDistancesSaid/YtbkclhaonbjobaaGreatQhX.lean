/- A binary heap as a function of places: what up and down make of it. The queue of a witness search in memory: the search's struct, its row of entries; what a store makes of it; what a call leaves alone. (genwtq.py) The queue's own methods, walked; container/heap's way to them. The queue's Swap, walked; its Push and Pop. The queue's Pop, walked. -/
import Derived.Test.YtbkclhaonbjobaaGreatWtA
import Derived.OwnWalk
import Derived.BigQuiet
import Derived.Handy
import Derived.BigRegion
import Derived.Deep.RegionHeld3
import Derived.Deep.DeepAppendRoom
import Derived.Maps.AppendAt
import Derived.Deep.RegionLaw
namespace Go.Proofs.YtbkclhaonbjobaaGreat.Wt

theorem ltT_no {x y z : Th} (h : ¬ ltT x y) (g : ¬ ltT y z) : ¬ ltT x z := by unfold ltT at *; omega
theorem ltT_as {x y : Th} (h : ltT x y) : ¬ ltT y x := by unfold ltT at *; omega
theorem ltT_self (x : Th) : ¬ ltT x x := by unfold ltT; omega
instance (x y : Th) : Decidable (ltT x y) := by unfold ltT; infer_instance

def par (k : Nat) : Nat := (k - 1) / 2
def swp (q : Nat → Th) (i j : Nat) : Nat → Th := fun k => if k = j then q i else if k = i then q j else q k
def HeapF (n : Nat) (q : Nat → Th) : Prop := ∀ k, 0 < k → k < n → ¬ ltT (q k) (q (par k))
/-- all but the place j. -/
def HeapUp (n : Nat) (q : Nat → Th) (j : Nat) : Prop := (∀ k, 0 < k → k < n → k ≠ j → ¬ ltT (q k) (q (par k))) ∧ (∀ k, 0 < k → k < n → par k = j → 0 < j → ¬ ltT (q k) (q (par j)))
/-- all but what hangs on i. -/
def HeapDn (n : Nat) (q : Nat → Th) (i : Nat) : Prop := (∀ k, 0 < k → k < n → par k ≠ i → ¬ ltT (q k) (q (par k))) ∧ (∀ k, 0 < k → k < n → par k = i → 0 < i → ¬ ltT (q k) (q (par i)))
theorem par_lt {k : Nat} (h : 0 < k) : par k < k := by unfold par; omega
theorem swp_j (q : Nat → Th) (i j : Nat) : swp q i j j = q i := by unfold swp; rw [if_pos rfl]
theorem swp_i (q : Nat → Th) {i j : Nat} (h : i ≠ j) : swp q i j i = q j := by unfold swp; rw [if_neg h, if_pos rfl]
theorem swp_o (q : Nat → Th) {i j k : Nat} (h1 : k ≠ i) (h2 : k ≠ j) : swp q i j k = q k := by unfold swp; rw [if_neg h2, if_neg h1]
theorem HeapUp.step {n : Nat} {q : Nat → Th} {j : Nat} (h : HeapUp n q j) (hj : 0 < j) (hl : ltT (q j) (q (par j))) : HeapUp n (swp q (par j) j) (par j) := by
  obtain ⟨h1, h2⟩ := h
  have hp := par_lt hj
  have hne : par j ≠ j := by omega
  refine ⟨fun k k0 kn ki => ?_, fun k k0 kn ki i0 => ?_⟩
  · have hk := par_lt k0
    by_cases e : k = j
    · subst e
      rw [swp_j, swp_i q hne]
      exact ltT_as hl
    · rw [swp_o q ki e]
      by_cases e2 : par k = j
      · rw [e2, swp_j]
        exact h2 k k0 kn e2 hj
      · by_cases e3 : par k = par j
        · rw [e3, swp_i q hne]
          have := h1 k k0 kn e
          rw [e3] at this
          exact ltT_no this (ltT_as hl)
        · rw [swp_o q e3 e2]
          exact h1 k k0 kn e
  · have hk := par_lt k0
    have hpi := par_lt i0
    rw [swp_o q (k := par (par j)) (by omega) (by omega)]
    by_cases e : k = j
    · subst e
      rw [swp_j]
      by_cases hin : par k < n
      · exact h1 (par k) i0 hin (by omega)
      · omega
    · rw [swp_o q (by omega) e]
      have a := h1 k k0 kn e
      rw [ki] at a
      exact ltT_no a (h1 (par j) i0 (by omega) (by omega))
theorem HeapUp.fin {n : Nat} {q : Nat → Th} {j : Nat} (h : HeapUp n q j) (hl : j = 0 ∨ ¬ ltT (q j) (q (par j))) : HeapF n q := fun k k0 kn => by
  by_cases e : k = j
  · subst e
    rcases hl with hl | hl
    · omega
    · exact hl
  · exact h.1 k k0 kn e
theorem HeapDn.step {n : Nat} {q : Nat → Th} {i j : Nat} (h : HeapDn n q i) (hj : 0 < j) (hjn : j < n) (hp : par j = i) (hl : ltT (q j) (q i)) (ho : ∀ k, 0 < k → k < n → par k = i → ¬ ltT (q k) (q j)) : HeapDn n (swp q i j) j := by
  obtain ⟨h1, h2⟩ := h
  have hpj := par_lt hj
  have hne : i ≠ j := by omega
  refine ⟨fun k k0 kn kj => ?_, fun k k0 kn kj _ => ?_⟩
  · have hk := par_lt k0
    by_cases e : k = j
    · subst e
      rw [swp_j, hp, swp_i q hne]
      exact ltT_as hl
    · by_cases e2 : par k = i
      · rw [e2, swp_i q hne, swp_o q (by omega) e]
        exact ho k k0 kn e2
      · by_cases e3 : k = i
        · subst e3
          rw [swp_i q hne, swp_o q e2 (by omega)]
          exact h2 j hj hjn hp k0
        · rw [swp_o q e3 e, swp_o q e2 kj]
          exact h1 k k0 kn e2
  · have hk := par_lt k0
    rw [swp_o q (by omega) (by omega), hp, swp_i q hne]
    have := h1 k k0 kn (by omega)
    rw [kj] at this
    exact this
theorem HeapDn.fin {n : Nat} {q : Nat → Th} {i : Nat} (h : HeapDn n q i) (ho : ∀ k, 0 < k → k < n → par k = i → ¬ ltT (q k) (q i)) : HeapF n q := fun k k0 kn => by
  by_cases e : par k = i
  · rw [e]; exact ho k k0 kn e
  · exact h.1 k k0 kn e
theorem HeapF.min {n : Nat} {q : Nat → Th} (h : HeapF n q) : ∀ k, k < n → ¬ ltT (q k) (q 0) := by
  intro k
  induction k using Nat.strongRecOn with
  | _ k ih =>
    intro kn
    by_cases e : k = 0
    · subst e; exact ltT_self _
    · have hk := par_lt (k := k) (by omega)
      exact ltT_no (h k (by omega) kn) (ih (par k) hk (by omega))
theorem par_iff {k i : Nat} (h : 0 < k) : par k = i ↔ (k = 2 * i + 1 ∨ k = 2 * i + 2) := by unfold par; omega

/-- the places of a list. -/
def plc (Q : List Th) : Nat → Th := fun k => Q.getD k (0, 0)
theorem plc_at {Q : List Th} {k : Nat} {a : Th} (h : Q[k]? = some a) : plc Q k = a := by unfold plc; rw [List.getD_eq_getElem?_getD, h]; rfl
/-- two places are swapped. -/
def swL (Q : List Th) (i j : Nat) : List Th := (Q.set i (plc Q j)).set j (plc Q i)
theorem swL_len (Q : List Th) (i j : Nat) : (swL Q i j).length = Q.length := by simp [swL]
theorem swL_plc {Q : List Th} {i j : Nat} (hi : i < Q.length) (hj : j < Q.length) : plc (swL Q i j) = swp (plc Q) i j := by
  funext k
  have e : plc (swL Q i j) k = ((swL Q i j)[k]?).getD (0, 0) := by unfold plc; rw [List.getD_eq_getElem?_getD]
  rw [e]
  unfold swL swp
  rw [List.getElem?_set, List.length_set, List.getElem?_set]
  by_cases e1 : k = j
  · subst e1; simp [hj]
  · rw [if_neg (fun h => e1 h.symm), if_neg e1]
    by_cases e2 : k = i
    · subst e2; simp [hi]
    · rw [if_neg (fun h => e2 h.symm), if_neg e2]
      unfold plc
      rw [List.getD_eq_getElem?_getD]
theorem swL_perm {Q : List Th} {i j : Nat} (hi : i < Q.length) (hj : j < Q.length) : (swL Q i j).Perm Q := by
  have e1 : plc Q j = Q[j] := plc_at (List.getElem?_eq_getElem hj)
  have e2 : plc Q i = Q[i] := plc_at (List.getElem?_eq_getElem hi)
  unfold swL
  rw [e1, e2]
  exact List.set_set_perm hi hj
/-- a thing behind a heap. -/
theorem HeapUp.push {Q : List Th} (h : HeapF Q.length (plc Q)) (a : Th) : HeapUp (Q ++ [a]).length (plc (Q ++ [a])) Q.length := by
  have e : ∀ k, k < Q.length → plc (Q ++ [a]) k = plc Q k := fun k hk => by
    unfold plc
    rw [List.getD_eq_getElem?_getD, List.getD_eq_getElem?_getD, List.getElem?_append_left hk]
  rw [List.length_append]
  refine ⟨fun k k0 kn ke => ?_, fun k k0 kn ke _ => ?_⟩
  · simp at kn
    have := par_lt k0
    rw [e k (by omega), e (par k) (by omega)]
    exact h k k0 (by omega)
  · simp at kn
    have := par_lt k0
    omega
/-- the root is taken away, the last one stands in its place. -/
theorem HeapDn.pop {Q : List Th} {m : Nat} (hm : Q.length = m + 1) (h : HeapF Q.length (plc Q)) : HeapDn m (plc (swL Q 0 m)) 0 := by
  rw [swL_plc (by omega) (by omega)]
  refine ⟨fun k k0 kn ke => ?_, fun k _ _ _ i0 => by omega⟩
  have := par_lt k0
  rw [swp_o _ (by omega) (by omega), swp_o _ (by omega) (by omega)]
  exact h k k0 (by omega)
theorem take_plc {Q : List Th} {m k : Nat} (h : k < m) : plc (Q.take m) k = plc Q k := by
  unfold plc
  rw [List.getD_eq_getElem?_getD, List.getD_eq_getElem?_getD, List.getElem?_take, if_pos h]
theorem HeapF.congr {n : Nat} {q r : Nat → Th} (h : HeapF n q) (e : ∀ k, k < n → q k = r k) : HeapF n r := fun k k0 kn => by
  have := par_lt k0
  rw [← e k kn, ← e (par k) (by omega)]
  exact h k k0 kn
end Go.Proofs.YtbkclhaonbjobaaGreat.Wt

namespace Go.Proofs.YtbkclhaonbjobaaGreat.Wt
open Go.RowKit Go.Extern

attribute [local go_sem] Oper.semAt_some

/-- the cells of things. -/
def flatE (l : List Th) : List Value := l.flatMap fun a => [.int .u64 a.1, .int .i64 a.2]
theorem flatE_len (l : List Th) : (flatE l).length = l.length * 2 := by
  induction l with
  | nil => rfl
  | cons a r ih => simp only [flatE, List.flatMap_cons, List.length_append, List.length_cons] at *; rw [ih]; simp; omega
theorem flatE_append (l r : List Th) : flatE (l ++ r) = flatE l ++ flatE r := by simp [flatE]
theorem flatE_get : ∀ (l : List Th) (i : Nat) (a : Th), l[i]? = some a → (flatE l)[i * 2]? = some (.int .u64 a.1) ∧ (flatE l)[i * 2 + 1]? = some (.int .i64 a.2)
  | [], i, a, h => by simp at h
  | b :: r, 0, a, h => by
    simp at h
    subst h
    simp [flatE]
  | b :: r, i + 1, a, h => by
    have ih := flatE_get r i a (by simpa using h)
    have e : flatE (b :: r) = [.int .u64 b.1, .int .i64 b.2] ++ flatE r := by simp [flatE]
    rw [e, show (i + 1) * 2 = i * 2 + 2 by omega]
    refine ⟨?_, ?_⟩
    · rw [List.getElem?_append_right (by simp)]; simpa using ih.1
    · rw [List.getElem?_append_right (by simp)]; simpa [show i * 2 + 2 + 1 - 2 = i * 2 + 1 by omega] using ih.2
theorem flatE_set (l : List Th) (i : Nat) (a : Th) : flatE (l.set i a) = ((flatE l).set (i * 2) (.int .u64 a.1)).set (i * 2 + 1) (.int .i64 a.2) := by
  induction l generalizing i with
  | nil => simp [flatE]
  | cons b r ih =>
    cases i with
    | zero => simp [flatE]
    | succ i =>
      have e : ∀ x (q : List Th), flatE (x :: q) = .int .u64 x.1 :: .int .i64 x.2 :: flatE q := fun x q => by simp [flatE]
      rw [List.set_cons_succ, e, e, ih i, show (i + 1) * 2 = i * 2 + 1 + 1 by omega, List.set_cons_succ, List.set_cons_succ, List.set_cons_succ, List.set_cons_succ]
theorem flatE_take (l : List Th) (m : Nat) : flatE (l.take m) = (flatE l).take (m * 2) := by
  induction l generalizing m with
  | nil => simp [flatE]
  | cons b r ih =>
    cases m with
    | zero => simp [flatE]
    | succ m =>
      have e : ∀ x (q : List Th), flatE (x :: q) = .int .u64 x.1 :: .int .i64 x.2 :: flatE q := fun x q => by simp [flatE]
      rw [List.take_succ_cons, e, e, ih m, show (m + 1) * 2 = m * 2 + 1 + 1 by omega, List.take_succ_cons, List.take_succ_cons]


theorem heap_setCell_sameW {w : World} {b o : Nat} {c : Array Value} {t : TypeId} (v : Value) (h : w.heap[b]? = some (.cells c t)) : (w.setCell ⟨b, o, none⟩ v).heap[b]? = some (.cells (c.setIfInBounds o v) t) := by
  simp only [World.setCell, Array.getElem?_modify]
  rw [if_pos trivial, h]
  rfl
section
variable {w w' : World} {sb : Nat} {c0 c1 c2 c3 c4 sv sv' : Value} {Q Q' : List Th}
/-- a search's memory, as far as the queue asks. -/
structure QMem (w : World) (sb : Nat) (c0 c1 c2 c3 c4 sv : Value) (Q : List Th) : Prop where
  box : w.heap[sb]? = some (.cells #[c0, c1, c2, c3, c4, sv] 177)
  row : w.ownsRow 0 182 2 sv Q.length (flatE Q)
  hp : sv.ownBlock ≠ some sb
/-- what a call on the queue leaves alone. -/
structure QFr (sb : Nat) (sv sv' : Value) (w w' : World) : Prop where
  os : w'.os = w.os
  tape : w'.tape = w.tape
  output : w'.output = w.output
  size : w.heap.size ≤ w'.heap.size
  block : ∀ k, k < w.heap.size → k ≠ sb → some k ≠ sv.ownBlock → w'.heap[k]? = w.heap[k]?
  own : ∀ k, k < w.heap.size → sv'.ownBlock = some k → sv.ownBlock = some k
theorem QFr.refl (sb : Nat) (sv : Value) (w : World) : QFr sb sv sv w w := ⟨rfl, rfl, rfl, Nat.le_refl _, fun _ _ _ _ => rfl, fun _ _ h => h⟩
theorem QFr.trans {sv'' : Value} {w'' : World} (h : QFr sb sv sv' w w') (k : QFr sb sv' sv'' w' w'') : QFr sb sv sv'' w w'' :=
  ⟨k.os.trans h.os, k.tape.trans h.tape, k.output.trans h.output, Nat.le_trans h.size k.size,
   fun j hj h1 h3 => (k.block j (Nat.lt_of_lt_of_le hj h.size) h1 (fun e => h3 (h.own j hj e.symm).symm)).trans (h.block j hj h1 h3),
   fun j hj e => h.own j hj (k.own j (Nat.lt_of_lt_of_le hj h.size) e)⟩
theorem QFr.of_below (h : Below w.heap.size w w') : QFr sb sv sv w w' := ⟨h.os, h.tape, h.output, h.size, fun k hk _ _ => h.block k hk, fun _ _ e => e⟩
theorem QFr.drew (h : QFr sb sv sv' w w') : QFr sb sv sv' w w'.drew := ⟨h.os, h.tape, h.output, h.size, h.block, h.own⟩
theorem QMem.keep (h : QMem w sb c0 c1 c2 c3 c4 sv Q) (hk : ∀ k, k < w.heap.size → (k = sb ∨ sv.ownBlock = some k) → w'.heap[k]? = w.heap[k]?) : QMem w' sb c0 c1 c2 c3 c4 sv Q := by
  refine ⟨(hk sb (lt_of_get h.box) (Or.inl rfl)).trans h.box, ?_, h.hp⟩
  obtain ⟨h1, h2⟩ := h.row
  refine ⟨h1, ?_⟩
  rcases h2 with h2 | ⟨g, cap, cur, e, hb', hh, r⟩
  · exact Or.inl h2
  · exact Or.inr ⟨g, cap, cur, e, hb', (hk g (lt_of_get hh) (Or.inr (by rw [e]; rfl))).trans hh, r⟩
theorem QMem.up (h : QMem w sb c0 c1 c2 c3 c4 sv Q) (hb' : Below w.heap.size w w') : QMem w' sb c0 c1 c2 c3 c4 sv Q := h.keep fun k hk _ => hb'.block k hk
theorem QMem.drew (h : QMem w sb c0 c1 c2 c3 c4 sv Q) : QMem w.drew sb c0 c1 c2 c3 c4 sv Q := h.keep fun _ _ _ => rfl
theorem QMem.cells (h : QMem w sb c0 c1 c2 c3 c4 sv Q) : w.cell? ⟨sb, 0, none⟩ = some c0 ∧ w.cell? ⟨sb, 1, none⟩ = some c1 ∧ w.cell? ⟨sb, 2, none⟩ = some c2 ∧ w.cell? ⟨sb, 3, none⟩ = some c3 ∧ w.cell? ⟨sb, 4, none⟩ = some c4 ∧ w.cell? ⟨sb, 5, none⟩ = some sv ∧ w.frozen? ⟨sb, 3, none⟩ = false ∧ w.frozen? ⟨sb, 5, none⟩ = false := by
  simp [World.cell?, World.frozen?, h.box]
theorem QMem.shape (h : QMem w sb c0 c1 c2 c3 c4 sv Q) : ∃ so cap, sv = .slice so Q.length cap ∧ Q.length ≤ cap ∧ cap ≤ maxLen := by
  rcases h.row.2 with ⟨e, h0⟩ | ⟨g, cap, cur, e, _, _, h1, h2, _⟩
  · exact ⟨none, 0, by rw [h0]; exact e, by omega, by unfold maxLen; omega⟩
  · exact ⟨_, cap, e, h1, h2⟩
theorem QMem.entry (h : QMem w sb c0 c1 c2 c3 c4 sv Q) {i : Nat} {t : Th} (hi : Q[i]? = some t) : ∃ g cap, sv = .slice (some ⟨g, 0, none⟩) Q.length cap ∧ Q.length ≤ cap ∧ cap ≤ maxLen ∧ g < w.heap.size ∧ g ≠ sb ∧
    w.cell? ⟨g, i * 2, none⟩ = some (.int .u64 t.1) ∧ w.cell? ⟨g, i * 2 + 1, none⟩ = some (.int .i64 t.2) ∧ w.frozen? ⟨g, i * 2, none⟩ = false ∧ w.frozen? ⟨g, i * 2 + 1, none⟩ = false := by
  have hlt := (List.getElem?_eq_some_iff.1 hi).1
  have h1 := h.hp
  have hrow := h.row
  rcases h.row.2 with ⟨e, h0⟩ | ⟨g, cap, cur, rfl, _, hh, hc, hm, hs, ht⟩
  · omega
  · obtain ⟨g0, g1⟩ := flatE_get Q i t hi
    exact ⟨g, cap, rfl, hc, hm, lt_of_get hh, fun e => h1 (by rw [e]; rfl), (hrow.cellAt (i * 2) (by omega)).trans g0, (hrow.cellAt (i * 2 + 1) (by omega)).trans g1, by simp [World.frozen?, hh], by simp [World.frozen?, hh]⟩
/-- an entry is laid at a place of the row. -/
theorem QMem.put {g cap : Nat} (h : QMem w sb c0 c1 c2 c3 c4 (.slice (some ⟨g, 0, none⟩) Q.length cap) Q) (i : Nat) (t : Th) :
    QMem ((w.setCell ⟨g, i * 2, none⟩ (.int .u64 t.1)).setCell ⟨g, i * 2 + 1, none⟩ (.int .i64 t.2)) sb c0 c1 c2 c3 c4 (.slice (some ⟨g, 0, none⟩) (Q.set i t).length cap) (Q.set i t) := by
  have h1 : g ≠ sb := fun e => h.hp (by rw [e]; rfl)
  have hk : ∀ k, k ≠ g → ((w.setCell ⟨g, i * 2, none⟩ (.int .u64 t.1)).setCell ⟨g, i * 2 + 1, none⟩ (.int .i64 t.2)).heap[k]? = w.heap[k]? := fun k hk => (heap_setCell_other _ _ _ _ hk).trans (heap_setCell_other _ _ _ _ hk)
  refine ⟨by rw [List.length_set]; exact (hk sb (Ne.symm h1)).trans h.box, ?_, by simpa [Value.ownBlock] using h.hp⟩
  rw [List.length_set]
  rcases h.row with ⟨hl, ⟨e, h0⟩ | ⟨g', cap', cur, e, hb', hh, hc, hm, hs, ht⟩⟩
  · cases e
  · cases e
    refine ⟨by rw [flatE_set]; simpa using hl, Or.inr ⟨g, cap, _, rfl, hb', heap_setCell_sameW _ (heap_setCell_sameW _ hh), hc, hm, by simpa using hs, ?_⟩⟩
    rw [flatE_set, ← ht]
    simp [Array.toList_setIfInBounds, List.take_set]
/-- the struct's last field is laid anew. -/
theorem QMem.field (h : QMem w sb c0 c1 c2 c3 c4 sv Q) (hr : w.ownsRow 0 182 2 sv' Q'.length (flatE Q')) (h1 : sv'.ownBlock ≠ some sb) : QMem (w.setCell ⟨sb, 5, none⟩ sv') sb c0 c1 c2 c3 c4 sv' Q' := by
  have hk : ∀ k, k ≠ sb → (w.setCell ⟨sb, 5, none⟩ sv').heap[k]? = w.heap[k]? := fun k hk => heap_setCell_other _ _ _ _ hk
  refine ⟨?_, ?_, h1⟩
  · rw [heap_setCell_sameW _ h.box]; rfl
  · obtain ⟨r1, r2⟩ := hr
    refine ⟨r1, ?_⟩
    rcases r2 with r2 | ⟨g, cap, cur, e, hb', hh, r⟩
    · exact Or.inl r2
    · exact Or.inr ⟨g, cap, cur, e, hb', (hk g (fun e' => h1 (by rw [e, e']; rfl))).trans hh, r⟩
/-- the row is cut short. -/
theorem QMem.short {g cap m : Nat} (h : QMem w sb c0 c1 c2 c3 c4 (.slice (some ⟨g, 0, none⟩) Q.length cap) Q) (hm : m ≤ Q.length) : w.ownsRow 0 182 2 (.slice (some ⟨g, 0, none⟩) (Q.take m).length cap) (Q.take m).length (flatE (Q.take m)) := by
  have hlen : (Q.take m).length = m := by rw [List.length_take]; omega
  rw [hlen]
  rcases h.row with ⟨hl, ⟨e, h0⟩ | ⟨g', cap', cur, e, hb', hh, hc, hmx, hs, ht⟩⟩
  · cases e
  · cases e
    refine ⟨by rw [flatE_take, List.length_take, hl]; omega, Or.inr ⟨g, cap, cur, rfl, hb', hh, by omega, hmx, hs, ?_⟩⟩
    rw [flatE_take, ← ht, List.take_take, Nat.min_eq_left (by omega)]
end
/-- the four stores of a swap. -/
theorem QMem.swap {w : World} {sb : Nat} {c0 c1 c2 c3 c4 : Value} {Q : List Th} {g cap : Nat} (h : QMem w sb c0 c1 c2 c3 c4 (.slice (some ⟨g, 0, none⟩) Q.length cap) Q) (i j : Nat) :
    QMem ((((w.setCell ⟨g, i * 2, none⟩ (.int .u64 (plc Q j).1)).setCell ⟨g, i * 2 + 1, none⟩ (.int .i64 (plc Q j).2)).setCell ⟨g, j * 2, none⟩ (.int .u64 (plc Q i).1)).setCell ⟨g, j * 2 + 1, none⟩ (.int .i64 (plc Q i).2)) sb c0 c1 c2 c3 c4 (.slice (some ⟨g, 0, none⟩) Q.length cap) (swL Q i j) ∧
    QFr sb (.slice (some ⟨g, 0, none⟩) Q.length cap) (.slice (some ⟨g, 0, none⟩) Q.length cap) w ((((w.setCell ⟨g, i * 2, none⟩ (.int .u64 (plc Q j).1)).setCell ⟨g, i * 2 + 1, none⟩ (.int .i64 (plc Q j).2)).setCell ⟨g, j * 2, none⟩ (.int .u64 (plc Q i).1)).setCell ⟨g, j * 2 + 1, none⟩ (.int .i64 (plc Q i).2)) := by
  have h1 := h.put i (plc Q j)
  have h2 := h1.put j (plc Q i)
  rw [List.length_set, List.length_set] at h2
  refine ⟨h2, ⟨rfl, rfl, rfl, by simp, fun k hk hs hg => ?_, fun k _ e => e⟩⟩
  have hkg : k ≠ g := fun e => hg (by rw [e]; rfl)
  exact (heap_setCell_other _ _ _ _ hkg).trans ((heap_setCell_other _ _ _ _ hkg).trans ((heap_setCell_other _ _ _ _ hkg).trans (heap_setCell_other _ _ _ _ hkg)))
end Go.Proofs.YtbkclhaonbjobaaGreat.Wt

namespace Go.Proofs.YtbkclhaonbjobaaGreat.Wt
open Go Go.RowKit Go.Extern

attribute [local go_sem] Oper.semAt_some

/-- which method it is that the interface leads to. -/
theorem inv_less (F : Nat) (hF : 0 < F) (w : World) (sb : Nat) (so : Option Addr) (n c : Nat) (h : w.cell? ⟨sb, 5, none⟩ = some (.slice so n c)) : (method F 192 (.pointer (some ⟨sb, 5, none⟩)) "Less").run Tryz.prog w = .ok (148, .slice so n c) w := by
  obtain ⟨F, rfl⟩ : ∃ f, F = f + 1 := ⟨F - 1, by omega⟩
  unfold method
  have hf : (Array.find? (fun x => x.name == "Less") Go.Proofs.Tryz.t192.methods).map (fun m => (m.path, m.func)) = some (#[], some (148, false)) := by kernel_rfl
  obtain ⟨m, hm, hp⟩ := Option.map_eq_some_iff.1 hf
  have hp1 : m.path = #[] := congrArg Prod.fst hp
  have hp2 : m.func = some (148, false) := congrArg Prod.snd hp
  have hc : ∀ (t : String) w, (Builtin.ssaWrapNilChk_ #[192] 192 #[.pointer (some ⟨sb, 5, none⟩), strVal "", strVal t]).run Tryz.prog w = .ok (.pointer (some ⟨sb, 5, none⟩)) w := fun _ _ => by kernel_rfl
  simp [go_sem, hm, hp1, hp2, follow, receiverAt, Place.get, h, hc]
theorem inv_len (F : Nat) (hF : 0 < F) (w : World) (sb : Nat) (so : Option Addr) (n c : Nat) (h : w.cell? ⟨sb, 5, none⟩ = some (.slice so n c)) : (method F 192 (.pointer (some ⟨sb, 5, none⟩)) "Len").run Tryz.prog w = .ok (109, .slice so n c) w := by
  obtain ⟨F, rfl⟩ : ∃ f, F = f + 1 := ⟨F - 1, by omega⟩
  unfold method
  have hf : (Array.find? (fun x => x.name == "Len") Go.Proofs.Tryz.t192.methods).map (fun m => (m.path, m.func)) = some (#[], some (109, false)) := by kernel_rfl
  obtain ⟨m, hm, hp⟩ := Option.map_eq_some_iff.1 hf
  have hp1 : m.path = #[] := congrArg Prod.fst hp
  have hp2 : m.func = some (109, false) := congrArg Prod.snd hp
  have hc : ∀ (t : String) w, (Builtin.ssaWrapNilChk_ #[192] 192 #[.pointer (some ⟨sb, 5, none⟩), strVal "", strVal t]).run Tryz.prog w = .ok (.pointer (some ⟨sb, 5, none⟩)) w := fun _ _ => by kernel_rfl
  simp [go_sem, hm, hp1, hp2, follow, receiverAt, Place.get, h, hc]
theorem inv_swap (F : Nat) (hF : 0 < F) (w : World) (sb : Nat) (so : Option Addr) (n c : Nat) (h : w.cell? ⟨sb, 5, none⟩ = some (.slice so n c)) : (method F 192 (.pointer (some ⟨sb, 5, none⟩)) "Swap").run Tryz.prog w = .ok (149, .slice so n c) w := by
  obtain ⟨F, rfl⟩ : ∃ f, F = f + 1 := ⟨F - 1, by omega⟩
  unfold method
  have hf : (Array.find? (fun x => x.name == "Swap") Go.Proofs.Tryz.t192.methods).map (fun m => (m.path, m.func)) = some (#[], some (149, false)) := by kernel_rfl
  obtain ⟨m, hm, hp⟩ := Option.map_eq_some_iff.1 hf
  have hp1 : m.path = #[] := congrArg Prod.fst hp
  have hp2 : m.func = some (149, false) := congrArg Prod.snd hp
  have hc : ∀ (t : String) w, (Builtin.ssaWrapNilChk_ #[192] 192 #[.pointer (some ⟨sb, 5, none⟩), strVal "", strVal t]).run Tryz.prog w = .ok (.pointer (some ⟨sb, 5, none⟩)) w := fun _ _ => by kernel_rfl
  simp [go_sem, hm, hp1, hp2, follow, receiverAt, Place.get, h, hc]
theorem inv_push (F : Nat) (hF : 0 < F) (w : World) (sb : Nat) : (method F 192 (.pointer (some ⟨sb, 5, none⟩)) "Push").run Tryz.prog w = .ok (151, .pointer (some ⟨sb, 5, none⟩)) w := by
  obtain ⟨F, rfl⟩ : ∃ f, F = f + 1 := ⟨F - 1, by omega⟩
  kernel_rfl
theorem inv_pop (F : Nat) (hF : 0 < F) (w : World) (sb : Nat) : (method F 192 (.pointer (some ⟨sb, 5, none⟩)) "Pop").run Tryz.prog w = .ok (150, .pointer (some ⟨sb, 5, none⟩)) w := by
  obtain ⟨F, rfl⟩ : ∃ f, F = f + 1 := ⟨F - 1, by omega⟩
  kernel_rfl
theorem below_drewW {n : Nat} {w w' : World} (h : Below n w w') : ∀ k, Below n w (w'.drewN k) := fun _ => ⟨h.os, h.tape, h.output, h.size, h.block⟩
section
variable {w : World} {sb : Nat} {c0 c1 c2 c3 c4 : Value} {Q : List Th} {so : Option Addr} {c : Nat}
theorem wlen_calls (so : Option Addr) (n c : Nat) (w : World) : Calls Tryz.prog 109 #[.slice so n c] w fun e w' => e = .returned (.int .i64 n) ∧ w' = w := by
  go_enter Tryz.func109, Tryz.ntmps109
  go_wp2
  go_ret
  exact ⟨rfl, rfl⟩

set_option maxRecDepth 100000 in
set_option maxHeartbeats 4000000 in
theorem wless_calls (h : QMem w sb c0 c1 c2 c3 c4 (.slice so Q.length c) Q) {i j : Nat} (hi : i < Q.length) (hj : j < Q.length) :
    Calls Tryz.prog 148 #[.slice so Q.length c, .int .i64 i, .int .i64 j] w fun e w' => e = .returned (.bool (decide (ltT (plc Q i) (plc Q j)))) ∧ Below w.heap.size w w' := by
  obtain ⟨a, ha⟩ : ∃ a, Q[i]? = some a := ⟨_, List.getElem?_eq_getElem hi⟩
  obtain ⟨b, hb⟩ : ∃ a, Q[j]? = some a := ⟨_, List.getElem?_eq_getElem hj⟩
  obtain ⟨g, cap, hs, _, _, gl, _, a0, a1, _, _⟩ := h.entry ha
  obtain ⟨g', cap', hs', _, _, _, _, b0, b1, _, _⟩ := h.entry hb
  injection hs with e1 e2 e3
  subst e1 e3
  injection hs' with e1 e2 e3
  injection e1 with e1
  injection e1 with e1
  subst e1
  rw [plc_at ha, plc_at hb]
  have i1 : (i : Int) < (Q.length : Int) := by omega
  have i2 : (0 : Int) ≤ (i : Int) := by omega
  have j1 : (j : Int) < (Q.length : Int) := by omega
  have j2 : (0 : Int) ≤ (j : Int) := by omega
  obtain ⟨r, hr⟩ : ∃ r, decide (ltT a b) = r := ⟨_, rfl⟩
  rw [hr]
  have HR : Hid (decide (ltT a b) = r) := hr
  obtain ⟨n, hn⟩ : ∃ n, Q.length = n := ⟨_, rfl⟩
  rw [hn] at i1 j1 ⊢
  clear h ha hb hr hi hj
  unfold ltT at HR
  by_cases h1 : a.1 < b.1
  · have k1 : decide (a.1 < b.1) = true := decide_eq_true h1
    have HF : Hid (r = true) := by rw [← HR.out]; exact decide_eq_true (Or.inl h1)
    clear h1
    go_enter Tryz.func148, Tryz.ntmps148
    go_wp2_with fail
    go_quiet (fail)
    go_wp2
    go_ret
    exact ⟨by rw [HF.out]; rfl, below_drewW (Below.refl _ _) _⟩
  · have k1 : decide (a.1 < b.1) = false := decide_eq_false h1
    by_cases h2 : a.1 = b.1
    · have k2 : (a.1 == b.1) = true := by rw [h2]; exact beq_self_eq_true _
      cases h3 : decide (a.2 < b.2) with
      | true =>
        have HF : Hid (r = true) := by rw [← HR.out]; exact decide_eq_true (Or.inr ⟨h2, of_decide_eq_true h3⟩)
        clear h1 h2
        go_enter Tryz.func148, Tryz.ntmps148
        go_wp2_with fail
        go_quiet (fail)
        go_wp2
        go_ret
        exact ⟨by rw [HF.out]; rfl, below_drewW (Below.refl _ _) _⟩
      | false =>
        have HF : Hid (r = false) := by rw [← HR.out]; exact decide_eq_false (fun h => by have := of_decide_eq_false h3; rcases h with h | h; exact h1 h; exact this h.2)
        clear h1 h2
        go_enter Tryz.func148, Tryz.ntmps148
        go_wp2_with fail
        go_quiet (fail)
        go_wp2
        go_ret
        exact ⟨by rw [HF.out]; rfl, below_drewW (Below.refl _ _) _⟩
    · have k2 : (a.1 == b.1) = false := beq_eq_false_iff_ne.2 h2
      have HF : Hid (r = false) := by rw [← HR.out]; exact decide_eq_false (fun h => by rcases h with h | h; exact h1 h; exact h2 h.1)
      clear h1 h2
      go_enter Tryz.func148, Tryz.ntmps148
      go_wp2_with fail
      go_quiet (fail)
      go_wp2
      go_ret
      exact ⟨by rw [HF.out]; rfl, below_drewW (Below.refl _ _) _⟩
end
end Go.Proofs.YtbkclhaonbjobaaGreat.Wt

namespace Go.Proofs.YtbkclhaonbjobaaGreat.Wt
open Go Go.RowKit Go.Extern

attribute [local go_sem] Oper.semAt_some

theorem cell_ofW {w : World} {b o : Nat} {c : Array Value} {t : TypeId} {x : Value} (h : w.heap[b]? = some (.cells c t)) (hx : c[o]? = some x) : w.cell? ⟨b, o, none⟩ = some x := by simp [World.cell?, h, hx]
theorem cell_set_ex {w : World} {g o o' : Nat} {u x : Value} (h : w.cell? ⟨g, o', none⟩ = some x) (hc : ∃ (c : Array Value) (t : TypeId), w.heap[g]? = some (.cells c t)) : ∃ v, (w.setCell ⟨g, o, none⟩ u).cell? ⟨g, o', none⟩ = some v := by
  obtain ⟨c, t, hg⟩ := hc
  have h1 := heap_setCell_sameW (o := o) u hg
  have h2 : c[o']? = some x := by simpa [World.cell?, hg] using h
  obtain ⟨hl, _⟩ := Array.getElem?_eq_some_iff.1 h2
  refine ⟨(c.setIfInBounds o u)[o']'(by simpa using hl), ?_⟩
  simp [World.cell?, h1]
section
variable {w : World} {sb : Nat} {c0 c1 c2 c3 c4 : Value} {Q : List Th} {so : Option Addr} {c : Nat}
set_option maxRecDepth 100000 in
set_option maxHeartbeats 4000000 in
theorem wswap_calls (h : QMem w sb c0 c1 c2 c3 c4 (.slice so Q.length c) Q) {i j : Nat} (hi : i < Q.length) (hj : j < Q.length) :
    Calls Tryz.prog 149 #[.slice so Q.length c, .int .i64 i, .int .i64 j] w fun e w' => e = .returned (.tuple #[]) ∧ QMem w' sb c0 c1 c2 c3 c4 (.slice so Q.length c) (swL Q i j) ∧ QFr sb (.slice so Q.length c) (.slice so Q.length c) w w' := by
  obtain ⟨a, ha⟩ : ∃ a, Q[i]? = some a := ⟨_, List.getElem?_eq_getElem hi⟩
  obtain ⟨b, hb⟩ : ∃ a, Q[j]? = some a := ⟨_, List.getElem?_eq_getElem hj⟩
  obtain ⟨g, cap, hs, _, _, gl, _, a0, a1, a2, a3⟩ := h.entry ha
  obtain ⟨g', cap', hs', _, _, _, _, b0, b1, b2, b3⟩ := h.entry hb
  injection hs with e1 e2 e3
  subst e1 e3
  injection hs' with e1 e2 e3
  injection e1 with e1
  injection e1 with e1
  subst e1
  have HQ := h.swap i j
  rw [plc_at ha, plc_at hb] at HQ
  have HQ : Hid (type_of% HQ) := HQ
  have i1 : (i : Int) < (Q.length : Int) := by omega
  have i2 : (0 : Int) ≤ (i : Int) := by omega
  have j1 : (j : Int) < (Q.length : Int) := by omega
  have j2 : (0 : Int) ≤ (j : Int) := by omega
  have hcur : ∃ (cu : Array Value) (t : TypeId), w.heap[g]? = some (.cells cu t) := by
    rcases h.row.2 with ⟨e, _⟩ | ⟨g2, _, cur, e, _, hh, _⟩
    · cases e
    · cases e
      exact ⟨_, _, hh⟩
  obtain ⟨v1, z1⟩ := cell_set_ex (o := i * 2) (u := .int .u64 b.1) b0 hcur
  obtain ⟨v2, z2⟩ := cell_set_ex (o := i * 2 + 1) (u := .int .i64 b.2) b1 hcur
  obtain ⟨v3, z3⟩ := cell_set_ex (o := i * 2) (u := .int .u64 b.1) b1 hcur
  obtain ⟨v4, z4⟩ := cell_set_ex (o := i * 2 + 1) (u := .int .i64 b.2) z3 (by obtain ⟨cu, t, hh⟩ := hcur; exact ⟨_, _, heap_setCell_sameW _ hh⟩)
  clear h ha hb hcur z3
  go_enter Tryz.func149, Tryz.ntmps149
  go_wp2_with fail
  go_region
  go_wp2
  go_end0
  exact ⟨rfl, HQ.out.1.drew, HQ.out.2.drew⟩
end
theorem Tryz.infoE : (Tryz.prog.info? 182).map (fun i => (i.zero, i.size, i.bytes)) = some (some (.agg #[.int .u64 0, .int .i64 0]), 2, 16) := by kernel_rfl
theorem flatE_one (xs : List Th) : ∀ u ∈ flatE xs, u.oneCell' = true := fun u hu => by
  unfold flatE at hu
  obtain ⟨a, _, h⟩ := List.mem_flatMap.1 hu
  simp at h
  rcases h with rfl | rfl <;> rfl
/-- append of one entry onto the queue's row, as one step of a region that draws. -/
theorem step_append_e {w : World} {ops : Array Oper} {o : Oper} {a : Act} {K : Act → World → Prop} {Q : Exit → Act → World → Prop} {E : Prop} (hg : o.guard = none) (s x : Operand)
    (ho : o.op = .call { callee := .builtin .append, args := #[s, x], argTypes := #[175, 175] }) (v : Value) (L : List Th) (hs : a.eval s = v) (hown : w.ownsRow 0 182 2 v L.length (flatE L))
    (ad : Addr) (d y : Int) (hx : a.eval x = .slice (some ad) 1 1) (h0 : w.cell? ad = some (.int .u64 d)) (h1 : w.cell? (ad.add 1) = some (.int .i64 y)) (hlen : L.length + 1 ≤ 8796093022208)
    (h : ∀ v' w', w'.ownsRow 0 182 2 v' (L ++ [(d, y)]).length (flatE (L ++ [(d, y)])) → w.grownBy w' v.ownBlock → (∀ k, v'.ownBlock = some k → v.ownBlock = some k ∨ w.heap.size ≤ k) → K (a.put o.dst v') w') :
    if Region.wanted o (yielded ops a.tmps) = true then Oper.wp Tryz.prog o a w K Q else E := by
  have hw : Region.wanted o (yielded ops a.tmps) = true := by simp [Region.wanted, hg]
  rw [if_pos hw]
  obtain ⟨i0, hi, hz0, hz1, hz2⟩ : ∃ i, Tryz.prog.info? 182 = some i ∧ i.zero = some (.agg #[.int .u64 0, .int .i64 0]) ∧ i.size = 2 ∧ i.bytes = 16 := by
    have h := Tryz.infoE
    cases hi : Tryz.prog.info? 182 with
    | none => rw [hi] at h; cases h
    | some i => rw [hi] at h; simp at h; exact ⟨i, rfl, h.1, h.2.1, h.2.2⟩
  obtain ⟨v', w', hr, h2, h3, _, h5⟩ := run_append_own_at (P := Tryz.prog) w 0 175 o.type 182 i0 _ 2 16 Tryz.underlying175 hi hz0 hz1 hz2 rfl (by decide) v L.length (flatE L) hown ad 1 1 (flatE [(d, y)]) (flatE_len _) (fun j u hj => by
    rcases j with _ | _ | j
    · simp [flatE] at hj; subst hj; simpa [Addr.add] using h0
    · simp [flatE] at hj; subst hj; exact h1
    · simp [flatE] at hj) (flatE_one _) (by unfold maxLen; omega) (by omega) (by omega)
  unfold Oper.wp execOp
  simp only [ho, resolve, invoke, builtin, Sem.run_bind, Sem.run_pure, Result.andThen_ok, List.map_toArray, List.map_cons, List.map_nil, hs, hx, hr]
  exact h v' w' (by rw [List.length_append, flatE_append]; exact h2) h3 (fun k hk => by
    rcases h5 with h5 | h5
    · exact Or.inl (h5 ▸ hk)
    · rw [h5] at hk
      cases hk
      exact Or.inr (Nat.le_refl _))
theorem rowE_slice {w : World} {base m : Nat} {xs : List Value} {v : Value} (h : w.ownsRow base 182 2 v m xs) : ∃ ao cap, v = .slice ao m cap := by
  rcases h.2 with ⟨h, h'⟩ | ⟨g, cap, cur, h, _⟩
  · exact ⟨none, 0, by rw [h']; exact h⟩
  · exact ⟨_, cap, h⟩
theorem QMem.pushed {w W w2 : World} {sb : Nat} {c0 c1 c2 c3 c4 sv v' : Value} {Q Q' : List Th} (h : QMem w sb c0 c1 c2 c3 c4 sv Q) (hb : Below w.heap.size w W) (hr : w2.ownsRow 0 182 2 v' Q'.length (flatE Q')) (hg : W.grownBy w2 sv.ownBlock) (hn : ∀ k, v'.ownBlock = some k → sv.ownBlock = some k ∨ W.heap.size ≤ k) :
    QMem (w2.setCell ⟨sb, 5, none⟩ v') sb c0 c1 c2 c3 c4 v' Q' ∧ QFr sb sv v' w (w2.setCell ⟨sb, 5, none⟩ v') ∧ w2.cell? ⟨sb, 5, none⟩ = some sv ∧ w2.frozen? ⟨sb, 5, none⟩ = false ∧ sb < w2.heap.size := by
  have hs := lt_of_get h.box
  have hz := hb.size
  have h2 : w2.heap[sb]? = some (.cells #[c0, c1, c2, c3, c4, sv] 177) := by rw [hg.block sb (by omega) (fun e => h.hp e.symm), hb.block sb hs]; exact h.box
  have hne : v'.ownBlock ≠ some sb := fun e => by
    rcases hn sb e with h3 | h3
    · exact h.hp h3
    · omega
  have hk : ∀ k, k ≠ sb → (w2.setCell ⟨sb, 5, none⟩ v').heap[k]? = w2.heap[k]? := fun k hk => heap_setCell_other _ _ _ _ hk
  refine ⟨⟨by rw [heap_setCell_sameW _ h2]; rfl, ?_, hne⟩, ⟨hg.os.trans hb.os, hg.tape.trans hb.tape, hg.output.trans hb.output, by have := hg.size; simp; omega, fun k hkl h1 h3 => ?_, fun k hkl e => ?_⟩, by simp [World.cell?, h2], by simp [World.frozen?, h2], lt_of_get h2⟩
  · obtain ⟨r1, r2⟩ := hr
    refine ⟨r1, ?_⟩
    rcases r2 with r2 | ⟨g, cap, cur, e, hb', hh, r⟩
    · exact Or.inl r2
    · exact Or.inr ⟨g, cap, cur, e, hb', (hk g (fun e' => hne (by rw [e, e']; rfl))).trans hh, r⟩
  · rw [hk k h1, hg.block k (by omega) h3, hb.block k hkl]
  · rcases hn k e with h3 | h3
    · exact h3
    · omega
set_option maxRecDepth 100000 in
set_option maxHeartbeats 4000000 in
theorem wpush_calls {w : World} {sb : Nat} {c0 c1 c2 c3 c4 sv : Value} {Q : List Th} (h : QMem w sb c0 c1 c2 c3 c4 sv Q) (d y : Int) (hl : Q.length ≤ 1048576) :
    Calls Tryz.prog 151 #[.pointer (some ⟨sb, 5, none⟩), .iface 182 (.agg #[.int .u64 d, .int .i64 y])] w fun e w' => e = .returned (.tuple #[]) ∧ ∃ sv', QMem w' sb c0 c1 c2 c3 c4 sv' (Q ++ [(d, y)]) ∧ QFr sb sv sv' w w' := by
  obtain ⟨so, c, rfl, _, _⟩ := h.shape
  obtain ⟨_, _, _, _, _, a5, _, b5⟩ := h.cells
  have hlt := lt_of_get h.box
  have hq0 : (w.drew.alloc (.cells #[.int .u64 d, .int .i64 y] 182)).heap[w.heap.size]? = some (.cells #[.int .u64 d, .int .i64 y] 182) := heap_new _ _
  have hbW : Below w.heap.size w (w.drew.alloc (.cells #[.int .u64 d, .int .i64 y] 182)) := (Below.refl _ w).drew.alloc (Nat.le_refl _) _
  have HX : Hid ((w.drew.alloc (.cells #[.int .u64 d, .int .i64 y] 182)).ownsRow 0 182 2 (.slice so Q.length c) Q.length (flatE Q) ∧ (w.drew.alloc (.cells #[.int .u64 d, .int .i64 y] 182)).cell? ⟨w.heap.size, 0, none⟩ = some (.int .u64 d) ∧ (w.drew.alloc (.cells #[.int .u64 d, .int .i64 y] 182)).cell? (Addr.add ⟨w.heap.size, 0, none⟩ 1) = some (.int .i64 y)) := ⟨(h.up hbW).row, cell_ofW hq0 rfl, cell_ofW (o := 1) hq0 rfl⟩
  have HFI : Hid (∀ v' w2, w2.ownsRow 0 182 2 v' (Q ++ [(d, y)]).length (flatE (Q ++ [(d, y)])) → (w.drew.alloc (.cells #[.int .u64 d, .int .i64 y] 182)).grownBy w2 (Value.slice so Q.length c).ownBlock → (∀ k, v'.ownBlock = some k → (Value.slice so Q.length c).ownBlock = some k ∨ (w.drew.alloc (.cells #[.int .u64 d, .int .i64 y] 182)).heap.size ≤ k) →
      QMem (w2.setCell ⟨sb, 5, none⟩ v') sb c0 c1 c2 c3 c4 v' (Q ++ [(d, y)]) ∧ QFr sb (.slice so Q.length c) v' w (w2.setCell ⟨sb, 5, none⟩ v') ∧ w2.cell? ⟨sb, 5, none⟩ = some (.slice so Q.length c) ∧ w2.frozen? ⟨sb, 5, none⟩ = false ∧ sb < w2.heap.size) := fun v' w2 o1 gr fr => h.pushed hbW o1 gr fr
  have hTA : ∀ wx, (Instr.typeAssert (.iface 182 (.agg #[.int .u64 d, .int .i64 y])) 20 182 false).run Tryz.prog wx = .ok (.agg #[.int .u64 d, .int .i64 y]) wx := fun _ => by kernel_rfl
  clear h hq0 hbW
  go_enter Tryz.func151, Tryz.ntmps151
  go_wp2_with fail
  go_region_law (first | (refine step_append_e rfl _ _ rfl (.slice so Q.length c) Q rfl HX.out.1 ⟨w.heap.size, 0, none⟩ d y rfl HX.out.2.1 HX.out.2.2 (by omega) ?_; intro v3 w3 hown3 hgr3 hfr3; obtain ⟨x1, x2, x3, x4, x5⟩ := HFI.out v3 w3 hown3 hgr3 hfr3; obtain ⟨po, pc, hv3⟩ := rowE_slice hown3; subst hv3; have Y3 : Hid (type_of% (And.intro x1 x2)) := ⟨x1, x2⟩; clear hown3 hgr3 hfr3 x1 x2))
  all_goals
    go_wp2
    go_end0
    have h1 := Y3.out.1
    have h2 := Y3.out.2
    simp only [List.length_append, List.length_cons, List.length_nil, Nat.zero_add] at h1 h2
    first | exact ⟨rfl, _, h1, h2⟩ | exact ⟨rfl, _, h1.drew, h2.drew⟩
end Go.Proofs.YtbkclhaonbjobaaGreat.Wt

namespace Go.Proofs.YtbkclhaonbjobaaGreat.Wt
open Go Go.RowKit Go.Extern

attribute [local go_sem] Oper.semAt_some

set_option maxRecDepth 100000 in
set_option maxHeartbeats 4000000 in
theorem wpop_calls {w : World} {sb : Nat} {c0 c1 c2 c3 c4 sv : Value} {Q : List Th} {m : Nat} {t : Th} (h : QMem w sb c0 c1 c2 c3 c4 sv Q) (hm : Q.length = m + 1) (ht : Q[m]? = some t) :
    Calls Tryz.prog 150 #[.pointer (some ⟨sb, 5, none⟩)] w fun e w' => e = .returned (.iface 182 (.agg #[.int .u64 t.1, .int .i64 t.2])) ∧ ∃ sv', QMem w' sb c0 c1 c2 c3 c4 sv' (Q.take m) ∧ QFr sb sv sv' w w' := by
  obtain ⟨g, cap, rfl, hc, hcm, gl, gs, a0, a1, _, _⟩ := h.entry ht
  obtain ⟨_, _, _, _, _, a5, _, b5⟩ := h.cells
  have hsl := lt_of_get h.box
  have hsh := h.short (m := m) (by omega)
  rw [show (Q.take m).length = m by rw [List.length_take]; omega] at hsh
  obtain ⟨n, hn⟩ : ∃ n, Q.length = n := ⟨_, rfl⟩
  rw [hn] at a5 hm hc
  have HN : Hid (n = m + 1 ∧ n ≤ cap) := ⟨hm, hc⟩
  have i1 : IntKind.i64.wrap ((n : Int) - 1) = (m : Int) := by unfold maxLen at hcm; rw [IntKind.wrap_i64] <;> omega
  have i2 : (m : Int) < (n : Int) := by omega
  have i3 : (0 : Int) ≤ (m : Int) := by omega
  have i4 : (m : Int) ≤ (cap : Int) := by omega
  have i5 : m ≤ cap := by omega
  clear hm hc ht
  go_enter Tryz.func150, Tryz.ntmps150
  go_wp2
  go_ret
  have hne : (Value.slice (some ⟨g, 0, none⟩) m cap).ownBlock ≠ some sb := by simpa [Value.ownBlock] using gs
  have hl : (Q.take m).length = m := by rw [List.length_take]; have := HN.out.1; omega
  have hf := h.field (Q' := Q.take m) (by rw [hl]; exact hsh) hne
  refine ⟨rfl, .slice (some ⟨g, 0, none⟩) m cap, hf.up ((Below.refl _ _).alloc (Nat.le_refl _) _), ⟨rfl, rfl, rfl, by simp, fun k hk h1 h2 => ?_, fun k _ e => e⟩⟩
  have h3 : ((w.setCell ⟨sb, 5, none⟩ (.slice (some ⟨g, 0, none⟩) m cap)).alloc (.cells #[.int .u64 t.1, .int .i64 t.2] 182)).heap[k]? = (w.setCell ⟨sb, 5, none⟩ (.slice (some ⟨g, 0, none⟩) m cap)).heap[k]? := ((Below.refl _ _).alloc (Nat.le_refl _) _).block k (by simpa using hk)
  rw [h3]
  exact heap_setCell_other _ _ _ _ h1

section
variable {w : World} {sb : Nat} {c0 c1 c2 c3 c4 sv : Value} {Q : List Th}
/-- what up and down leave. -/
structure Sifted (w : World) (sb : Nat) (c0 c1 c2 c3 c4 sv : Value) (Q : List Th) (w' : World) (Q' : List Th) : Prop where
  mem : QMem w' sb c0 c1 c2 c3 c4 sv Q'
  fr : QFr sb sv sv w w'
  len : Q'.length = Q.length
  perm : Q'.Perm Q
theorem Sifted.refl (h : QMem w sb c0 c1 c2 c3 c4 sv Q) : Sifted w sb c0 c1 c2 c3 c4 sv Q w Q := ⟨h, QFr.refl _ _ _, rfl, List.Perm.refl _⟩
theorem Sifted.up {w1 w2 : World} {Q1 : List Th} (h : Sifted w sb c0 c1 c2 c3 c4 sv Q w1 Q1) (hb : Below w1.heap.size w1 w2) : Sifted w sb c0 c1 c2 c3 c4 sv Q w2 Q1 := ⟨h.mem.up hb, h.fr.trans (QFr.of_below hb), h.len, h.perm⟩
set_option maxRecDepth 100000 in
set_option maxHeartbeats 4000000 in
theorem chup_calls (h : QMem w sb c0 c1 c2 c3 c4 sv Q) {j : Nat} (hj : j < Q.length) (hl : Q.length ≤ 1048577) (hh : HeapUp Q.length (plc Q) j) :
    Calls Tryz.prog 121 #[.iface 192 (.pointer (some ⟨sb, 5, none⟩)), .int .i64 j] w fun e w' => e = .returned (.tuple #[]) ∧ ∃ Q', Sifted w sb c0 c1 c2 c3 c4 sv Q w' Q' ∧ HeapF Q'.length (plc Q') := by
  obtain ⟨so, c, rfl, _, _⟩ := h.shape
  obtain ⟨n, hn⟩ : ∃ n, Q.length = n := ⟨_, rfl⟩
  rw [hn] at hj hl hh
  have H0 : Hid (Sifted w sb c0 c1 c2 c3 c4 (.slice so n c) Q w Q ∧ Q.length = n) := ⟨by have := Sifted.refl h; rw [hn] at this; exact this, hn⟩
  have HH : Hid (HeapUp n (plc Q) j) := hh
  clear h hn hh
  go_enter Tryz.func121, Tryz.ntmps121
  go_wp2_with fail
  go_loopw [1] (fun jv wr => ∃ (k : Nat) (Q' : List Th), jv = .int .i64 k ∧ k < n ∧ Sifted w sb c0 c1 c2 c3 c4 (.slice so n c) Q wr Q' ∧ HeapUp n (plc Q') k) (fun jv _ => (intOf jv).toNat)
  case atStart => exact ⟨j, Q, rfl, hj, H0.out.1, HH.out⟩
  case round =>
    obtain ⟨k, Q', rfl, hk, hS, hU⟩ := hrel
    have HS : Hid (Sifted w sb c0 c1 c2 c3 c4 (.slice so n c) Q wr Q' ∧ HeapUp n (plc Q') k) := ⟨hS, hU⟩
    clear hS hU
    obtain ⟨p, hp⟩ : ∃ p, par k = p := ⟨_, rfl⟩
    have HP : Hid (par k = p) := hp
    have jd : ((k : Int) - 1).tdiv 2 = (p : Int) := by rw [← hp]; unfold par; rcases Nat.eq_zero_or_pos k with h | h; subst h; rfl; rw [show (k : Int) - 1 = ((k - 1 : Nat) : Int) by omega]; rfl
    have hql : Q'.length = n := HS.out.1.len.trans H0.out.2
    have hc5 := HS.out.1.mem.cells.2.2.2.2.2.1
    have hI : ∀ F, 0 < F → (method F 192 (.pointer (some ⟨sb, 5, none⟩)) "Less").run Tryz.prog wr = .ok (148, .slice so n c) wr := fun F hF => inv_less F hF wr sb so n c hc5
    have HQL : Hid (Q'.length = n) := hql
    rcases Nat.eq_zero_or_pos k with h0 | h0
    · subst h0
      obtain rfl : p = 0 := by rw [← hp]; rfl
      have HF : Hid (∃ Q', Sifted w sb c0 c1 c2 c3 c4 (.slice so n c) Q wr Q' ∧ HeapF Q'.length (plc Q')) := ⟨Q', HS.out.1, by rw [HQL.out]; exact HS.out.2.fin (Or.inl rfl)⟩
      clear hp hql
      go_wp2
      go_end0
      rw [H0.out.2]
      exact ⟨rfl, HF.out⟩
    · have hpk : p < k := by rw [← hp]; exact par_lt h0
      have j1 : ((p : Int) == (k : Int)) = false := by simp; omega
      have HLS : Hid (Calls Tryz.prog 148 #[.slice so n c, .int .i64 k, .int .i64 p] wr fun e w' => e = .returned (.bool (decide (ltT (plc Q' k) (plc Q' p)))) ∧ Below wr.heap.size wr w') := by
        have h := HS.out.1.mem
        rw [← hql] at h
        have h2 := wless_calls (i := k) (j := p) h (by omega) (by omega)
        rw [hql] at h2
        exact h2
      clear hp hql
      go_wp2_with fail
      refine HLS.out.mono ?_
      rintro e y1 ⟨rfl, hy1⟩
      have hS1 := HS.out.1.up hy1
      have HS1 : Hid (Sifted w sb c0 c1 c2 c3 c4 (.slice so n c) Q y1 Q') := hS1
      clear hc5 hI hy1
      cases hr : decide (ltT (plc Q' k) (plc Q' p)) with
      | false =>
        have HF : Hid (∃ Q', Sifted w sb c0 c1 c2 c3 c4 (.slice so n c) Q y1 Q' ∧ HeapF Q'.length (plc Q')) := ⟨Q', hS1, by rw [HQL.out]; exact HS.out.2.fin (Or.inr (by rw [HP.out]; exact of_decide_eq_false hr))⟩
        clear hS1 hr HLS
        go_wp2
        go_end0
        rw [H0.out.2]
        exact ⟨rfl, HF.out⟩
      | true =>
        have hm := hS1.mem
        have hc6 := hm.cells.2.2.2.2.2.1
        have hI : ∀ F, 0 < F → (method F 192 (.pointer (some ⟨sb, 5, none⟩)) "Swap").run Tryz.prog y1 = .ok (149, .slice so n c) y1 := fun F hF => inv_swap F hF y1 sb so n c hc6
        have HU2 : Hid (HeapUp n (plc (swL Q' p k)) p) := by
          have := HS.out.2.step h0 (by rw [HP.out]; exact of_decide_eq_true hr)
          rw [HP.out, ← swL_plc (by rw [HQL.out]; omega) (by rw [HQL.out]; omega)] at this
          exact this
        have HSW : Hid (Calls Tryz.prog 149 #[.slice so n c, .int .i64 p, .int .i64 k] y1 fun e w' => e = .returned (.tuple #[]) ∧ Sifted w sb c0 c1 c2 c3 c4 (.slice so n c) Q w' (swL Q' p k)) := by
          rw [← HQL.out] at hm
          have h2 := wswap_calls (i := p) (j := k) hm (by rw [HQL.out]; omega) (by rw [HQL.out]; omega)
          rw [HQL.out] at h2
          refine h2.mono ?_
          rintro e w2 ⟨rfl, g1, g2⟩
          exact ⟨rfl, g1, HS1.out.fr.trans g2, by rw [swL_len]; exact HS1.out.len, (swL_perm (by rw [HQL.out]; omega) (by rw [HQL.out]; omega)).trans HS1.out.perm⟩
        clear hS1 hr HLS hm
        go_wp2_with fail
        refine HSW.out.mono ?_
        rintro e y2 ⟨rfl, hy2⟩
        have HY2 : Hid (Sifted w sb c0 c1 c2 c3 c4 (.slice so n c) Q y2 (swL Q' p k)) := hy2
        clear hy2 hc6 hI HSW
        go_wp2
        go_roundw
        case rel => exact ⟨p, swL Q' p k, rfl, by omega, HY2.out, HU2.out⟩
        case measure => simp only [intOf]; omega
end
end Go.Proofs.YtbkclhaonbjobaaGreat.Wt
