/- A heap in memory: its struct, its row of things, its places by ids; what a store makes of it; what a call leaves alone. -/
import Derived.Test.YtepkogijignmlaaHpMath
import Derived.Test.YtepkogijignmlaaProg
import Derived.WalkKit
import Derived.WalkSpells
import Derived.WalkLawsBesides
import Derived.OwnWalk
namespace Go.Proofs.Ytepkogijignmlaa.Hp
open Go.RowKit

theorem heap_new (w : World) (o : Obj) : (w.alloc o).heap[w.heap.size]? = some o := by show (w.heap.push _)[w.heap.size]? = _; simp
theorem lt_of_get {w : World} {k : Nat} {o : Obj} (h : w.heap[k]? = some o) : k < w.heap.size := by
  rcases Nat.lt_or_ge k w.heap.size with h' | h'
  · exact h'
  · rw [Array.getElem?_eq_none h'] at h; cases h
theorem heap_setCell_same {w : World} {b o : Nat} {c : Array Value} {t : TypeId} (v : Value) (h : w.heap[b]? = some (.cells c t)) : (w.setCell ⟨b, o, none⟩ v).heap[b]? = some (.cells (c.setIfInBounds o v) t) := by
  simp only [World.setCell, Array.getElem?_modify]
  rw [if_pos trivial, h]
  rfl
theorem cells_at {w : World} {b : Nat} {c : Array Value} {t : TypeId} (h : w.heap[b]? = some (.cells c t)) (o : Nat) : w.cell? ⟨b, o, none⟩ = c[o]? ∧ w.frozen? ⟨b, o, none⟩ = false := by
  simp [World.cell?, World.frozen?, h]

/-- the cells of things. -/
def flatT (l : List Th) : List Value := l.flatMap fun a => [.int .u64 a.1, .int .u32 a.2]
theorem flatT_len (l : List Th) : (flatT l).length = l.length * 2 := by
  induction l with
  | nil => rfl
  | cons a r ih => simp only [flatT, List.flatMap_cons, List.length_append, List.length_cons] at *; rw [ih]; simp; omega
theorem flatT_append (l r : List Th) : flatT (l ++ r) = flatT l ++ flatT r := by simp [flatT]
theorem flatT_get : ∀ (l : List Th) (i : Nat) (a : Th), l[i]? = some a → (flatT l)[i * 2]? = some (.int .u64 a.1) ∧ (flatT l)[i * 2 + 1]? = some (.int .u32 a.2)
  | [], i, a, h => by simp at h
  | b :: r, 0, a, h => by
    simp at h
    subst h
    simp [flatT]
  | b :: r, i + 1, a, h => by
    have ih := flatT_get r i a (by simpa using h)
    have e : flatT (b :: r) = [.int .u64 b.1, .int .u32 b.2] ++ flatT r := by simp [flatT]
    rw [e, show (i + 1) * 2 = i * 2 + 2 by omega]
    refine ⟨?_, ?_⟩
    · rw [List.getElem?_append_right (by simp)]; simpa using ih.1
    · rw [List.getElem?_append_right (by simp)]; simpa [show i * 2 + 2 + 1 - 2 = i * 2 + 1 by omega] using ih.2
theorem flatT_set (l : List Th) (i : Nat) (a : Th) : flatT (l.set i a) = ((flatT l).set (i * 2) (.int .u64 a.1)).set (i * 2 + 1) (.int .u32 a.2) := by
  induction l generalizing i with
  | nil => simp [flatT]
  | cons b r ih =>
    cases i with
    | zero => simp [flatT]
    | succ i =>
      have e : ∀ x (q : List Th), flatT (x :: q) = .int .u64 x.1 :: .int .u32 x.2 :: flatT q := fun x q => by simp [flatT]
      rw [List.set_cons_succ, e, e, ih i, show (i + 1) * 2 = i * 2 + 1 + 1 by omega, List.set_cons_succ, List.set_cons_succ, List.set_cons_succ, List.set_cons_succ]
theorem flatT_take (l : List Th) (m : Nat) : flatT (l.take m) = (flatT l).take (m * 2) := by
  induction l generalizing m with
  | nil => simp [flatT]
  | cons b r ih =>
    cases m with
    | zero => simp [flatT]
    | succ m =>
      have e : ∀ x (q : List Th), flatT (x :: q) = .int .u64 x.1 :: .int .u32 x.2 :: flatT q := fun x q => by simp [flatT]
      rw [List.take_succ_cons, e, e, ih m, show (m + 1) * 2 = m * 2 + 1 + 1 by omega, List.take_succ_cons, List.take_succ_cons]

/-- a heap's memory. -/
structure Mem (w : World) (hb wb n : Nat) (sv : Value) (ps : List Th) (wh : List Int) : Prop where
  box : w.heap[hb]? = some (.cells #[sv, .slice (some ⟨wb, 0, none⟩) n n] 134)
  row : w.ownsRow 0 145 2 sv ps.length (flatT ps)
  whr : w.heap[wb]? = some (.cells (wh.map (Value.int .u32)).toArray 54)
  len : wh.length = n
  big : n ≤ 65536
  hw : hb ≠ wb
  hp : sv.ownBlock ≠ some hb
  wp : sv.ownBlock ≠ some wb

/-- what a call on a heap leaves alone: all but the heap's own blocks. -/
structure Fr (hb wb : Nat) (sv sv' : Value) (w w' : World) : Prop where
  os : w'.os = w.os
  tape : w'.tape = w.tape
  output : w'.output = w.output
  size : w.heap.size ≤ w'.heap.size
  block : ∀ k, k < w.heap.size → k ≠ hb → k ≠ wb → some k ≠ sv.ownBlock → w'.heap[k]? = w.heap[k]?
  own : ∀ k, k < w.heap.size → sv'.ownBlock = some k → sv.ownBlock = some k

theorem Fr.refl (hb wb : Nat) (sv : Value) (w : World) : Fr hb wb sv sv w w := ⟨rfl, rfl, rfl, Nat.le_refl _, fun _ _ _ _ _ => rfl, fun _ _ h => h⟩
theorem Fr.trans {hb wb : Nat} {sv sv' sv'' : Value} {w w' w'' : World} (h : Fr hb wb sv sv' w w') (k : Fr hb wb sv' sv'' w' w'') : Fr hb wb sv sv'' w w'' :=
  ⟨k.os.trans h.os, k.tape.trans h.tape, k.output.trans h.output, Nat.le_trans h.size k.size,
   fun j hj h1 h2 h3 => (k.block j (Nat.lt_of_lt_of_le hj h.size) h1 h2 (fun e => h3 (h.own j hj e.symm).symm)).trans (h.block j hj h1 h2 h3),
   fun j hj e => h.own j hj (k.own j (Nat.lt_of_lt_of_le hj h.size) e)⟩
theorem Fr.of_below {hb wb : Nat} {sv : Value} {w w' : World} (h : Below w.heap.size w w') : Fr hb wb sv sv w w' :=
  ⟨h.os, h.tape, h.output, h.size, fun k hk _ _ _ => h.block k hk, fun _ _ e => e⟩
theorem Fr.below {hb wb n : Nat} {sv sv' : Value} {w w' : World} (h : Fr hb wb sv sv' w w') (hn : n ≤ w.heap.size) (h1 : n ≤ hb) (h2 : n ≤ wb) (h3 : ∀ k, sv.ownBlock = some k → n ≤ k) : Below n w w' :=
  ⟨h.os, h.tape, h.output, h.size, fun k hk => h.block k (by omega) (by omega) (by omega) (fun e => by have := h3 k e.symm; omega)⟩
theorem Fr.drew {hb wb : Nat} {sv sv' : Value} {w w' : World} (h : Fr hb wb sv sv' w w') : Fr hb wb sv sv' w w'.drew := ⟨h.os, h.tape, h.output, h.size, h.block, h.own⟩

theorem Mem.keep {w w' : World} {hb wb n : Nat} {sv : Value} {ps : List Th} {wh : List Int} (h : Mem w hb wb n sv ps wh) (hk : ∀ k, k < w.heap.size → (k = hb ∨ k = wb ∨ sv.ownBlock = some k) → w'.heap[k]? = w.heap[k]?) : Mem w' hb wb n sv ps wh := by
  refine ⟨(hk hb (lt_of_get h.box) (Or.inl rfl)).trans h.box, ?_, (hk wb (lt_of_get h.whr) (Or.inr (Or.inl rfl))).trans h.whr, h.len, h.big, h.hw, h.hp, h.wp⟩
  obtain ⟨h1, h2⟩ := h.row
  refine ⟨h1, ?_⟩
  rcases h2 with h2 | ⟨g, cap, cur, e, hb', hh, r⟩
  · exact Or.inl h2
  · exact Or.inr ⟨g, cap, cur, e, hb', (hk g (lt_of_get hh) (Or.inr (Or.inr (by rw [e]; rfl)))).trans hh, r⟩
theorem Mem.below {w w' : World} {hb wb n : Nat} {sv : Value} {ps : List Th} {wh : List Int} (h : Mem w hb wb n sv ps wh) (hb' : Below w.heap.size w w') : Mem w' hb wb n sv ps wh := h.keep fun k hk _ => hb'.block k hk
theorem Mem.drew {w : World} {hb wb n : Nat} {sv : Value} {ps : List Th} {wh : List Int} (h : Mem w hb wb n sv ps wh) : Mem w.drew hb wb n sv ps wh := h.keep fun _ _ _ => rfl

section
variable {w : World} {hb wb n : Nat} {sv : Value} {ps : List Th} {wh : List Int}
theorem Mem.cells (h : Mem w hb wb n sv ps wh) : w.cell? ⟨hb, 0, none⟩ = some sv ∧ w.cell? ⟨hb, 1, none⟩ = some (.slice (some ⟨wb, 0, none⟩) n n) ∧ w.frozen? ⟨hb, 0, none⟩ = false ∧ w.frozen? ⟨hb, 1, none⟩ = false := by
  simp [World.cell?, World.frozen?, h.box]
theorem Mem.where_ (h : Mem w hb wb n sv ps wh) {d : Nat} {p : Int} (hd : wh[d]? = some p) : w.cell? ⟨wb, d, none⟩ = some (.int .u32 p) ∧ w.frozen? ⟨wb, d, none⟩ = false := by
  refine ⟨(cells_at h.whr d).1.trans ?_, (cells_at h.whr d).2⟩
  simp [hd]
theorem Mem.shape (h : Mem w hb wb n sv ps wh) : ∃ so cap, sv = .slice so ps.length cap ∧ ps.length ≤ cap ∧ cap ≤ maxLen := by
  rcases h.row.2 with ⟨e, h0⟩ | ⟨g, cap, cur, e, _, _, h1, h2, _⟩
  · exact ⟨none, 0, by rw [h0]; exact e, by omega, by unfold maxLen; omega⟩
  · exact ⟨_, cap, e, h1, h2⟩
theorem Mem.thing (h : Mem w hb wb n sv ps wh) {i : Nat} {t : Th} (hi : ps[i]? = some t) : ∃ g cap, sv = .slice (some ⟨g, 0, none⟩) ps.length cap ∧ ps.length ≤ cap ∧ cap ≤ maxLen ∧ g < w.heap.size ∧ g ≠ hb ∧ g ≠ wb ∧
    w.cell? ⟨g, i * 2, none⟩ = some (.int .u64 t.1) ∧ w.cell? ⟨g, i * 2 + 1, none⟩ = some (.int .u32 t.2) ∧ w.frozen? ⟨g, i * 2, none⟩ = false ∧ w.frozen? ⟨g, i * 2 + 1, none⟩ = false := by
  have hlt := (List.getElem?_eq_some_iff.1 hi).1
  have h1 := h.hp
  have h2 := h.wp
  have hrow := h.row
  rcases h.row.2 with ⟨e, h0⟩ | ⟨g, cap, cur, rfl, _, hh, hc, hm, hs, ht⟩
  · omega
  · obtain ⟨g0, g1⟩ := flatT_get ps i t hi
    exact ⟨g, cap, rfl, hc, hm, lt_of_get hh, fun e => h1 (by rw [e]; rfl), fun e => h2 (by rw [e]; rfl), (hrow.cellAt (i * 2) (by omega)).trans g0, (hrow.cellAt (i * 2 + 1) (by omega)).trans g1, (cells_at hh _).2, (cells_at hh _).2⟩

/-- a thing is laid at a place of the row. -/
theorem Mem.put {g cap : Nat} (h : Mem w hb wb n (.slice (some ⟨g, 0, none⟩) ps.length cap) ps wh) (i : Nat) (t : Th) :
    Mem ((w.setCell ⟨g, i * 2, none⟩ (.int .u64 t.1)).setCell ⟨g, i * 2 + 1, none⟩ (.int .u32 t.2)) hb wb n (.slice (some ⟨g, 0, none⟩) (ps.set i t).length cap) (ps.set i t) wh := by
  have h1 : g ≠ hb := fun e => h.hp (by rw [e]; rfl)
  have h2 : g ≠ wb := fun e => h.wp (by rw [e]; rfl)
  have hk : ∀ k, k ≠ g → ((w.setCell ⟨g, i * 2, none⟩ (.int .u64 t.1)).setCell ⟨g, i * 2 + 1, none⟩ (.int .u32 t.2)).heap[k]? = w.heap[k]? := fun k hk => (heap_setCell_other _ _ _ _ hk).trans (heap_setCell_other _ _ _ _ hk)
  refine ⟨?_, ?_, (hk wb (Ne.symm h2)).trans h.whr, h.len, h.big, h.hw, h.hp, h.wp⟩
  · rw [List.length_set]; exact (hk hb (Ne.symm h1)).trans h.box
  · rw [List.length_set]
    rcases h.row with ⟨hl, ⟨e, h0⟩ | ⟨g', cap', cur, e, hb', hh, hc, hm, hs, ht⟩⟩
    · cases e
    · cases e
      refine ⟨by rw [flatT_set]; simpa using hl, Or.inr ⟨g, cap, _, rfl, hb', heap_setCell_same _ (heap_setCell_same _ hh), hc, hm, by simpa using hs, ?_⟩⟩
      rw [flatT_set, ← ht]
      simp [Array.toList_setIfInBounds, List.take_set]
/-- a number is laid in the row of places. -/
theorem Mem.mark (h : Mem w hb wb n sv ps wh) (d : Nat) (p : Int) : Mem (w.setCell ⟨wb, d, none⟩ (.int .u32 p)) hb wb n sv ps (wh.set d p) := by
  have hk : ∀ k, k ≠ wb → (w.setCell ⟨wb, d, none⟩ (.int .u32 p)).heap[k]? = w.heap[k]? := fun k hk => heap_setCell_other _ _ _ _ hk
  refine ⟨(hk hb h.hw).trans h.box, ?_, ?_, by rw [List.length_set]; exact h.len, h.big, h.hw, h.hp, h.wp⟩
  · obtain ⟨h1, h2⟩ := h.row
    refine ⟨h1, ?_⟩
    rcases h2 with h2 | ⟨g, cap, cur, e, hb', hh, r⟩
    · exact Or.inl h2
    · refine Or.inr ⟨g, cap, cur, e, hb', (hk g (fun e' => h.wp ?_)).trans hh, r⟩
      rw [e, e']; rfl
  · rw [heap_setCell_same _ h.whr]
    congr 2
    rw [List.setIfInBounds_toArray, List.map_set]
/-- the struct's first field is laid anew. -/
theorem Mem.field {sv' : Value} {ps' : List Th} (h : Mem w hb wb n sv ps wh) (hr : w.ownsRow 0 145 2 sv' ps'.length (flatT ps')) (h1 : sv'.ownBlock ≠ some hb) (h2 : sv'.ownBlock ≠ some wb) : Mem (w.setCell ⟨hb, 0, none⟩ sv') hb wb n sv' ps' wh := by
  have hk : ∀ k, k ≠ hb → (w.setCell ⟨hb, 0, none⟩ sv').heap[k]? = w.heap[k]? := fun k hk => heap_setCell_other _ _ _ _ hk
  refine ⟨?_, ?_, (hk wb (Ne.symm h.hw)).trans h.whr, h.len, h.big, h.hw, h1, h2⟩
  · rw [heap_setCell_same _ h.box]; rfl
  · obtain ⟨r1, r2⟩ := hr
    refine ⟨r1, ?_⟩
    rcases r2 with r2 | ⟨g, cap, cur, e, hb', hh, r⟩
    · exact Or.inl r2
    · exact Or.inr ⟨g, cap, cur, e, hb', (hk g (fun e' => h1 (by rw [e, e']; rfl))).trans hh, r⟩
/-- the row is cut short. -/
theorem Mem.short {g cap m : Nat} (h : Mem w hb wb n (.slice (some ⟨g, 0, none⟩) ps.length cap) ps wh) (hm : m ≤ ps.length) : w.ownsRow 0 145 2 (.slice (some ⟨g, 0, none⟩) (ps.take m).length cap) (ps.take m).length (flatT (ps.take m)) := by
  have hlen : (ps.take m).length = m := by rw [List.length_take]; omega
  rw [hlen]
  rcases h.row with ⟨hl, ⟨e, h0⟩ | ⟨g', cap', cur, e, hb', hh, hc, hmx, hs, ht⟩⟩
  · cases e
  · cases e
    refine ⟨by rw [flatT_take, List.length_take, hl]; omega, Or.inr ⟨g, cap, cur, rfl, hb', hh, by omega, hmx, hs, ?_⟩⟩
    rw [flatT_take, ← ht, List.take_take, Nat.min_eq_left (by omega)]
end
end Go.Proofs.Ytepkogijignmlaa.Hp
