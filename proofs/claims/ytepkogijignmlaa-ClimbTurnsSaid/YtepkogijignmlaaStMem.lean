/- A stamp in memory: its struct and its row of places; what a store makes of it; what a call leaves alone. -/
import Derived.Test.YtepkogijignmlaaProg
import Derived.WalkKit
import Derived.WalkSpells
import Derived.WalkLawsBesides
import Derived.OwnWalk
import Derived.Deep.RegionHeld3
import Derived.Deep.RegionWith
import Derived.Deep.QuietTactic
import Derived.BigQuiet
import Derived.Deep.Upon
namespace Go.Proofs.Ytepkogijignmlaa.St
open Go.RowKit

theorem heap_new (w : World) (o : Obj) : (w.alloc o).heap[w.heap.size]? = some o := by show (w.heap.push _)[w.heap.size]? = _; simp
theorem lt_of_get {w : World} {k : Nat} {o : Obj} (h : w.heap[k]? = some o) : k < w.heap.size := by
  rcases Nat.lt_or_ge k w.heap.size with h' | h'
  · exact h'
  · rw [Array.getElem?_eq_none h'] at h; cases h
theorem heap_setCell_same {w : World} {b o : Nat} {c : Array Value} {t : TypeId} (v : Value) (h : w.heap[b]? = some (.cells c t)) : (w.setCell ⟨b, o, none⟩ v).heap[b]? = some (.cells (c.setIfInBounds o v) t) := by
  simp only [World.setCell, Array.getElem?_modify]
  rw [if_pos trivial, h]
  rfl
theorem cells_at {w : World} {b : Nat} {c : Array Value} {t : TypeId} (h : w.heap[b]? = some (.cells c t)) (o : Nat) : w.cell? ⟨b, o, none⟩ = c[o]? ∧ w.frozen? ⟨b, o, none⟩ = false := by
  simp [World.cell?, World.frozen?, h]
theorem set_same {α : Type} {l : List α} {i : Nat} (x : α) (h : i < l.length) : (l.set i x)[i]? = some x := by simp [h]
theorem set_other {α : Type} {l : List α} {i j : Nat} (x : α) (h : j ≠ i) : (l.set i x)[j]? = l[j]? := by rw [List.getElem?_set]; rw [if_neg (Ne.symm h)]

/-- a place: its number, its age, whether it was set. -/
abbrev Pl := Int × Int × Bool
/-- the cells of places. -/
def flatP (l : List Pl) : List Value := l.flatMap fun a => [.int .u64 a.1, .int .u32 a.2.1, .bool a.2.2]
theorem flatP_cons (b : Pl) (r : List Pl) : flatP (b :: r) = .int .u64 b.1 :: .int .u32 b.2.1 :: .bool b.2.2 :: flatP r := by simp [flatP]
theorem flatP_len (l : List Pl) : (flatP l).length = l.length * 3 := by
  induction l with
  | nil => rfl
  | cons a r ih => rw [flatP_cons]; simp only [List.length_cons]; rw [ih]; omega
theorem flatP_get : ∀ (l : List Pl) (i : Nat) (a : Pl), l[i]? = some a → (flatP l)[i * 3]? = some (.int .u64 a.1) ∧ (flatP l)[i * 3 + 1]? = some (.int .u32 a.2.1) ∧ (flatP l)[i * 3 + 2]? = some (.bool a.2.2)
  | [], i, a, h => by simp at h
  | b :: r, 0, a, h => by
    simp at h
    subst h
    simp [flatP_cons]
  | b :: r, i + 1, a, h => by
    obtain ⟨h0, h1, h2⟩ := flatP_get r i a (by simpa using h)
    rw [flatP_cons, show (i + 1) * 3 = i * 3 + 1 + 1 + 1 by omega]
    refine ⟨by simpa using h0, ?_, ?_⟩
    · rw [show i * 3 + 1 + 1 + 1 + 1 = i * 3 + 1 + 1 + 1 + 1 by omega, List.getElem?_cons_succ, List.getElem?_cons_succ, List.getElem?_cons_succ]; exact h1
    · rw [show i * 3 + 1 + 1 + 1 + 2 = i * 3 + 2 + 1 + 1 + 1 by omega, List.getElem?_cons_succ, List.getElem?_cons_succ, List.getElem?_cons_succ]; exact h2
theorem flatP_set (l : List Pl) (i : Nat) (a : Pl) : flatP (l.set i a) = (((flatP l).set (i * 3) (.int .u64 a.1)).set (i * 3 + 1) (.int .u32 a.2.1)).set (i * 3 + 2) (.bool a.2.2) := by
  induction l generalizing i with
  | nil => simp [flatP]
  | cons b r ih =>
    cases i with
    | zero => simp [flatP_cons]
    | succ i =>
      rw [List.set_cons_succ, flatP_cons, flatP_cons, ih i, show (i + 1) * 3 = i * 3 + 1 + 1 + 1 by omega, show i * 3 + 1 + 1 + 1 + 2 = i * 3 + 2 + 1 + 1 + 1 by omega]
      simp only [List.set_cons_succ]

/-- what a place holds in an age. -/
def seenP (age : Int) (p : Pl) : Option Int := if p.2.2 = true ∧ p.2.1 = age then some p.1 else none
/-- how many hold one. -/
def cnt : List (Option Int) → Nat
  | [] => 0
  | b :: r => (if b.isSome then 1 else 0) + cnt r
theorem cnt_le : ∀ bs : List (Option Int), cnt bs ≤ bs.length
  | [] => Nat.le_refl _
  | b :: r => by have := cnt_le r; unfold cnt; rw [List.length_cons]; split <;> omega
theorem cnt_add : ∀ (bs : List (Option Int)) (d : Nat) (x : Int), bs[d]? = some none → cnt (bs.set d (some x)) = cnt bs + 1
  | [], d, x, h => by simp at h
  | b :: r, 0, x, h => by simp at h; subst h; simp [cnt]; omega
  | b :: r, d + 1, x, h => by have := cnt_add r d x (by simpa using h); rw [List.set_cons_succ]; unfold cnt; rw [this]; omega
theorem cnt_same : ∀ (bs : List (Option Int)) (d : Nat) (x y : Int), bs[d]? = some (some y) → cnt (bs.set d (some x)) = cnt bs
  | [], d, x, y, h => by simp at h
  | b :: r, 0, x, y, h => by simp at h; subst h; simp [cnt]
  | b :: r, d + 1, x, y, h => by have := cnt_same r d x y (by simpa using h); rw [List.set_cons_succ]; unfold cnt; rw [this]
theorem cnt_none (n : Nat) : cnt (List.replicate n none) = 0 := by
  induction n with
  | zero => rfl
  | succ n ih => rw [List.replicate_succ]; unfold cnt; rw [ih]; rfl
theorem cnt_append : ∀ a b : List (Option Int), cnt (a ++ b) = cnt a + cnt b
  | [], b => by simp [cnt]
  | x :: r, b => by
    have h := cnt_append r b
    rw [List.cons_append]
    simp only [cnt]
    omega

/-- a stamp's memory. -/
structure Mem (w : World) (sb pb n : Nat) (age : Int) (held : Nat) (ps : List Pl) : Prop where
  box : w.heap[sb]? = some (.cells #[.slice (some ⟨pb, 0, none⟩) n n, .int .u32 age, .int .i64 held] 131)
  row : w.heap[pb]? = some (.cells (flatP ps).toArray 140)
  len : ps.length = n
  big : n ≤ 65536
  ne : sb ≠ pb
/-- a stamp that holds these. -/
def IsStamp (w : World) (sb pb n : Nat) (vs : List (Option Int)) : Prop := ∃ (age : Int) (held : Nat) (ps : List Pl), Mem w sb pb n age held ps ∧ 0 ≤ age ∧ age ≤ 4294967295 ∧ vs = ps.map (seenP age) ∧ held = cnt vs ∧ ∀ p ∈ ps, p.2.2 = true → p.2.1 ≤ age

/-- what a call on a stamp leaves alone: all but the stamp's own blocks. -/
structure Fr (sb pb : Nat) (w w' : World) : Prop where
  os : w'.os = w.os
  tape : w'.tape = w.tape
  output : w'.output = w.output
  size : w.heap.size ≤ w'.heap.size
  block : ∀ k, k < w.heap.size → k ≠ sb → k ≠ pb → w'.heap[k]? = w.heap[k]?
theorem Fr.refl (sb pb : Nat) (w : World) : Fr sb pb w w := ⟨rfl, rfl, rfl, Nat.le_refl _, fun _ _ _ _ => rfl⟩
theorem Fr.trans {sb pb : Nat} {w w' w'' : World} (h : Fr sb pb w w') (k : Fr sb pb w' w'') : Fr sb pb w w'' :=
  ⟨k.os.trans h.os, k.tape.trans h.tape, k.output.trans h.output, Nat.le_trans h.size k.size, fun j hj h1 h2 => (k.block j (Nat.lt_of_lt_of_le hj h.size) h1 h2).trans (h.block j hj h1 h2)⟩
theorem Fr.of_below {sb pb : Nat} {w w' : World} (h : Below w.heap.size w w') : Fr sb pb w w' := ⟨h.os, h.tape, h.output, h.size, fun k hk _ _ => h.block k hk⟩
theorem Fr.below {sb pb n : Nat} {w w' : World} (h : Fr sb pb w w') (hn : n ≤ w.heap.size) (h1 : n ≤ sb) (h2 : n ≤ pb) : Below n w w' := ⟨h.os, h.tape, h.output, h.size, fun k hk => h.block k (by omega) (by omega) (by omega)⟩
theorem Fr.drew {sb pb : Nat} {w w' : World} (h : Fr sb pb w w') : Fr sb pb w w'.drew := ⟨h.os, h.tape, h.output, h.size, h.block⟩
theorem Fr.box {sb pb : Nat} {w w' : World} (h : Fr sb pb w w') (o : Nat) (v : Value) : Fr sb pb w (w'.setCell ⟨sb, o, none⟩ v) := ⟨h.os, h.tape, h.output, by simpa using h.size, fun k hk h1 h2 => (heap_setCell_other _ _ _ _ h1).trans (h.block k hk h1 h2)⟩
theorem Fr.row {sb pb : Nat} {w w' : World} (h : Fr sb pb w w') (o : Nat) (v : Value) : Fr sb pb w (w'.setCell ⟨pb, o, none⟩ v) := ⟨h.os, h.tape, h.output, by simpa using h.size, fun k hk h1 h2 => (heap_setCell_other _ _ _ _ h2).trans (h.block k hk h1 h2)⟩

theorem Mem.keep {w w' : World} {sb pb n held : Nat} {age : Int} {ps : List Pl} (h : Mem w sb pb n age held ps) (h1 : w'.heap[sb]? = w.heap[sb]?) (h2 : w'.heap[pb]? = w.heap[pb]?) : Mem w' sb pb n age held ps := ⟨h1.trans h.box, h2.trans h.row, h.len, h.big, h.ne⟩
theorem Mem.below {w w' : World} {sb pb n held : Nat} {age : Int} {ps : List Pl} (h : Mem w sb pb n age held ps) (hb : Below w.heap.size w w') : Mem w' sb pb n age held ps := h.keep (hb.block _ (lt_of_get h.box)) (hb.block _ (lt_of_get h.row))
theorem IsStamp.keep {w w' : World} {sb pb n : Nat} {vs : List (Option Int)} (h : IsStamp w sb pb n vs) (hk : ∀ k, k < w.heap.size → (k = sb ∨ k = pb) → w'.heap[k]? = w.heap[k]?) : IsStamp w' sb pb n vs := by
  obtain ⟨age, held, ps, hM, r⟩ := h
  exact ⟨age, held, ps, hM.keep (hk _ (lt_of_get hM.box) (Or.inl rfl)) (hk _ (lt_of_get hM.row) (Or.inr rfl)), r⟩
theorem IsStamp.below {w w' : World} {sb pb n : Nat} {vs : List (Option Int)} (h : IsStamp w sb pb n vs) (hb : Below w.heap.size w w') : IsStamp w' sb pb n vs := h.keep fun k hk _ => hb.block k hk
theorem IsStamp.lt {w : World} {sb pb n : Nat} {vs : List (Option Int)} (h : IsStamp w sb pb n vs) : sb < w.heap.size ∧ pb < w.heap.size ∧ sb ≠ pb ∧ vs.length = n ∧ n ≤ 65536 := by
  obtain ⟨age, held, ps, hM, _, _, rfl, _⟩ := h
  exact ⟨lt_of_get hM.box, lt_of_get hM.row, hM.ne, by rw [List.length_map]; exact hM.len, hM.big⟩

section
variable {w : World} {sb pb n held : Nat} {age : Int} {ps : List Pl}
theorem Mem.cells (h : Mem w sb pb n age held ps) : w.cell? ⟨sb, 0, none⟩ = some (.slice (some ⟨pb, 0, none⟩) n n) ∧ w.cell? ⟨sb, 1, none⟩ = some (.int .u32 age) ∧ w.cell? ⟨sb, 2, none⟩ = some (.int .i64 held) ∧ w.frozen? ⟨sb, 0, none⟩ = false ∧ w.frozen? ⟨sb, 1, none⟩ = false ∧ w.frozen? ⟨sb, 2, none⟩ = false := by
  simp [World.cell?, World.frozen?, h.box]
theorem Mem.place (h : Mem w sb pb n age held ps) {i : Nat} {p : Pl} (hi : ps[i]? = some p) : w.cell? ⟨pb, i * 3, none⟩ = some (.int .u64 p.1) ∧ w.cell? ⟨pb, i * 3 + 1, none⟩ = some (.int .u32 p.2.1) ∧ w.cell? ⟨pb, i * 3 + 2, none⟩ = some (.bool p.2.2) ∧
    w.frozen? ⟨pb, i * 3, none⟩ = false ∧ w.frozen? ⟨pb, i * 3 + 1, none⟩ = false ∧ w.frozen? ⟨pb, i * 3 + 2, none⟩ = false := by
  obtain ⟨g0, g1, g2⟩ := flatP_get ps i p hi
  exact ⟨(cells_at h.row _).1.trans (by simpa using g0), (cells_at h.row _).1.trans (by simpa using g1), (cells_at h.row _).1.trans (by simpa using g2), (cells_at h.row _).2, (cells_at h.row _).2, (cells_at h.row _).2⟩
/-- a place is laid. -/
theorem Mem.put (h : Mem w sb pb n age held ps) (i : Nat) (p : Pl) :
    Mem (((w.setCell ⟨pb, i * 3, none⟩ (.int .u64 p.1)).setCell ⟨pb, i * 3 + 1, none⟩ (.int .u32 p.2.1)).setCell ⟨pb, i * 3 + 2, none⟩ (.bool p.2.2)) sb pb n age held (ps.set i p) := by
  refine ⟨?_, ?_, by rw [List.length_set]; exact h.len, h.big, h.ne⟩
  · rw [heap_setCell_other _ _ _ _ h.ne, heap_setCell_other _ _ _ _ h.ne, heap_setCell_other _ _ _ _ h.ne]; exact h.box
  · rw [heap_setCell_same _ (heap_setCell_same _ (heap_setCell_same _ h.row))]
    congr 2
    rw [List.setIfInBounds_toArray, List.setIfInBounds_toArray, List.setIfInBounds_toArray, flatP_set]
theorem Mem.setAge (h : Mem w sb pb n age held ps) (a : Int) : Mem (w.setCell ⟨sb, 1, none⟩ (.int .u32 a)) sb pb n a held ps := by
  refine ⟨?_, (heap_setCell_other _ _ _ _ (Ne.symm h.ne)).trans h.row, h.len, h.big, h.ne⟩
  rw [heap_setCell_same _ h.box]; rfl
theorem Mem.setHeld (h : Mem w sb pb n age held ps) (m : Nat) : Mem (w.setCell ⟨sb, 2, none⟩ (.int .i64 (m : Int))) sb pb n age m ps := by
  refine ⟨?_, (heap_setCell_other _ _ _ _ (Ne.symm h.ne)).trans h.row, h.len, h.big, h.ne⟩
  rw [heap_setCell_same _ h.box]; rfl
end
end Go.Proofs.Ytepkogijignmlaa.St
