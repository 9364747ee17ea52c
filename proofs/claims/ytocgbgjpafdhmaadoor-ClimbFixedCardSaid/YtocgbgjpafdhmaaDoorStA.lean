/- A stamp in memory: its struct and its row of places; what a store makes of it; what a call leaves alone. isPlace, holds, Len, Get, New: what they answer. New, Set: what they answer, and what the stamp holds. -/
import Derived.Test.YtocgbgjpafdhmaaDoorProg
import Derived.WalkKit
import Derived.WalkSpells
import Derived.WalkLawsBesides
import Derived.OwnWalk
import Derived.Deep.RegionHeld3
import Derived.Deep.RegionWith
import Derived.Deep.QuietTactic
import Derived.BigQuiet
import Derived.Deep.Upon
import Derived.Deep.OwnRows
import Derived.Laws.OwnMore
import Derived.Laws.MakeOwn
namespace Go.Proofs.YtocgbgjpafdhmaaDoor.St
open Go.RowKit

theorem heap_new (w : World) (o : Obj) : (w.alloc o).heap[w.heap.size]? = some o := by show (w.heap.push _)[w.heap.size]? = _; simp
theorem lt_of_get {w : World} {k : Nat} {o : Obj} (h : w.heap[k]? = some o) : k < w.heap.size := by
  rcases Nat.lt_or_ge k w.heap.size with h' | h'
  · exact h'
  · rw [Array.getElem?_eq_none h'] at h; cases h
theorem heap_setCell_same {w : World} {b o : Nat} {c : Array Value} {t : TypeId} (v : Value) (h : w.heap[b]? = some (.cells c t)) : (w.setCell ⟨b, o, none⟩ v).heap[b]? = some (.cells (c.setIfInBounds o v) t) := by
  simp only [World.setCell, Array.getElem?_modify]
  rw [if_pos trivial, h]
  rfl
theorem cells_at {w : World} {b : Nat} {c : Array Value} {t : TypeId} (h : w.heap[b]? = some (.cells c t)) (o : Nat) : w.cell? ⟨b, o, none⟩ = c[o]? ∧ w.frozen? ⟨b, o, none⟩ = false := by
  simp [World.cell?, World.frozen?, h]
theorem set_same {α : Type} {l : List α} {i : Nat} (x : α) (h : i < l.length) : (l.set i x)[i]? = some x := by simp [h]
theorem set_other {α : Type} {l : List α} {i j : Nat} (x : α) (h : j ≠ i) : (l.set i x)[j]? = l[j]? := by rw [List.getElem?_set]; rw [if_neg (Ne.symm h)]

/-- a place: its number, its age, whether it was set. -/
abbrev Pl := Int × Int × Bool
/-- the cells of places. -/
def flatP (l : List Pl) : List Value := l.flatMap fun a => [.int .u64 a.1, .int .u32 a.2.1, .bool a.2.2]
theorem flatP_cons (b : Pl) (r : List Pl) : flatP (b :: r) = .int .u64 b.1 :: .int .u32 b.2.1 :: .bool b.2.2 :: flatP r := by simp [flatP]
theorem flatP_len (l : List Pl) : (flatP l).length = l.length * 3 := by
  induction l with
  | nil => rfl
  | cons a r ih => rw [flatP_cons]; simp only [List.length_cons]; rw [ih]; omega
theorem flatP_get : ∀ (l : List Pl) (i : Nat) (a : Pl), l[i]? = some a → (flatP l)[i * 3]? = some (.int .u64 a.1) ∧ (flatP l)[i * 3 + 1]? = some (.int .u32 a.2.1) ∧ (flatP l)[i * 3 + 2]? = some (.bool a.2.2)
  | [], i, a, h => by simp at h
  | b :: r, 0, a, h => by
    simp at h
    subst h
    simp [flatP_cons]
  | b :: r, i + 1, a, h => by
    obtain ⟨h0, h1, h2⟩ := flatP_get r i a (by simpa using h)
    rw [flatP_cons, show (i + 1) * 3 = i * 3 + 1 + 1 + 1 by omega]
    refine ⟨by simpa using h0, ?_, ?_⟩
    · rw [show i * 3 + 1 + 1 + 1 + 1 = i * 3 + 1 + 1 + 1 + 1 by omega, List.getElem?_cons_succ, List.getElem?_cons_succ, List.getElem?_cons_succ]; exact h1
    · rw [show i * 3 + 1 + 1 + 1 + 2 = i * 3 + 2 + 1 + 1 + 1 by omega, List.getElem?_cons_succ, List.getElem?_cons_succ, List.getElem?_cons_succ]; exact h2
theorem flatP_set (l : List Pl) (i : Nat) (a : Pl) : flatP (l.set i a) = (((flatP l).set (i * 3) (.int .u64 a.1)).set (i * 3 + 1) (.int .u32 a.2.1)).set (i * 3 + 2) (.bool a.2.2) := by
  induction l generalizing i with
  | nil => simp [flatP]
  | cons b r ih =>
    cases i with
    | zero => simp [flatP_cons]
    | succ i =>
      rw [List.set_cons_succ, flatP_cons, flatP_cons, ih i, show (i + 1) * 3 = i * 3 + 1 + 1 + 1 by omega, show i * 3 + 1 + 1 + 1 + 2 = i * 3 + 2 + 1 + 1 + 1 by omega]
      simp only [List.set_cons_succ]

/-- what a place holds in an age. -/
def seenP (age : Int) (p : Pl) : Option Int := if p.2.2 = true ∧ p.2.1 = age then some p.1 else none
/-- how many hold one. -/
def cnt : List (Option Int) → Nat
  | [] => 0
  | b :: r => (if b.isSome then 1 else 0) + cnt r
theorem cnt_le : ∀ bs : List (Option Int), cnt bs ≤ bs.length
  | [] => Nat.le_refl _
  | b :: r => by have := cnt_le r; unfold cnt; rw [List.length_cons]; split <;> omega
theorem cnt_add : ∀ (bs : List (Option Int)) (d : Nat) (x : Int), bs[d]? = some none → cnt (bs.set d (some x)) = cnt bs + 1
  | [], d, x, h => by simp at h
  | b :: r, 0, x, h => by simp at h; subst h; simp [cnt]; omega
  | b :: r, d + 1, x, h => by have := cnt_add r d x (by simpa using h); rw [List.set_cons_succ]; unfold cnt; rw [this]; omega
theorem cnt_same : ∀ (bs : List (Option Int)) (d : Nat) (x y : Int), bs[d]? = some (some y) → cnt (bs.set d (some x)) = cnt bs
  | [], d, x, y, h => by simp at h
  | b :: r, 0, x, y, h => by simp at h; subst h; simp [cnt]
  | b :: r, d + 1, x, y, h => by have := cnt_same r d x y (by simpa using h); rw [List.set_cons_succ]; unfold cnt; rw [this]
theorem cnt_none (n : Nat) : cnt (List.replicate n none) = 0 := by
  induction n with
  | zero => rfl
  | succ n ih => rw [List.replicate_succ]; unfold cnt; rw [ih]; rfl
theorem cnt_append : ∀ a b : List (Option Int), cnt (a ++ b) = cnt a + cnt b
  | [], b => by simp [cnt]
  | x :: r, b => by
    have h := cnt_append r b
    rw [List.cons_append]
    simp only [cnt]
    omega

/-- a stamp's memory. -/
structure Mem (w : World) (sb pb n : Nat) (age : Int) (held : Nat) (ps : List Pl) : Prop where
  box : w.heap[sb]? = some (.cells #[.slice (some ⟨pb, 0, none⟩) n n, .int .u32 age, .int .i64 held] 144)
  row : w.heap[pb]? = some (.cells (flatP ps).toArray 153)
  len : ps.length = n
  big : n ≤ 65536
  ne : sb ≠ pb
/-- a stamp that holds these. -/
def IsStamp (w : World) (sb pb n : Nat) (vs : List (Option Int)) : Prop := ∃ (age : Int) (held : Nat) (ps : List Pl), Mem w sb pb n age held ps ∧ 0 ≤ age ∧ age ≤ 4294967295 ∧ vs = ps.map (seenP age) ∧ held = cnt vs ∧ ∀ p ∈ ps, p.2.2 = true → p.2.1 ≤ age

/-- what a call on a stamp leaves alone: all but the stamp's own blocks. -/
structure Fr (sb pb : Nat) (w w' : World) : Prop where
  os : w'.os = w.os
  tape : w'.tape = w.tape
  output : w'.output = w.output
  size : w.heap.size ≤ w'.heap.size
  block : ∀ k, k < w.heap.size → k ≠ sb → k ≠ pb → w'.heap[k]? = w.heap[k]?
theorem Fr.refl (sb pb : Nat) (w : World) : Fr sb pb w w := ⟨rfl, rfl, rfl, Nat.le_refl _, fun _ _ _ _ => rfl⟩
theorem Fr.trans {sb pb : Nat} {w w' w'' : World} (h : Fr sb pb w w') (k : Fr sb pb w' w'') : Fr sb pb w w'' :=
  ⟨k.os.trans h.os, k.tape.trans h.tape, k.output.trans h.output, Nat.le_trans h.size k.size, fun j hj h1 h2 => (k.block j (Nat.lt_of_lt_of_le hj h.size) h1 h2).trans (h.block j hj h1 h2)⟩
theorem Fr.of_below {sb pb : Nat} {w w' : World} (h : Below w.heap.size w w') : Fr sb pb w w' := ⟨h.os, h.tape, h.output, h.size, fun k hk _ _ => h.block k hk⟩
theorem Fr.below {sb pb n : Nat} {w w' : World} (h : Fr sb pb w w') (hn : n ≤ w.heap.size) (h1 : n ≤ sb) (h2 : n ≤ pb) : Below n w w' := ⟨h.os, h.tape, h.output, h.size, fun k hk => h.block k (by omega) (by omega) (by omega)⟩
theorem Fr.drew {sb pb : Nat} {w w' : World} (h : Fr sb pb w w') : Fr sb pb w w'.drew := ⟨h.os, h.tape, h.output, h.size, h.block⟩
theorem Fr.box {sb pb : Nat} {w w' : World} (h : Fr sb pb w w') (o : Nat) (v : Value) : Fr sb pb w (w'.setCell ⟨sb, o, none⟩ v) := ⟨h.os, h.tape, h.output, by simpa using h.size, fun k hk h1 h2 => (heap_setCell_other _ _ _ _ h1).trans (h.block k hk h1 h2)⟩
theorem Fr.row {sb pb : Nat} {w w' : World} (h : Fr sb pb w w') (o : Nat) (v : Value) : Fr sb pb w (w'.setCell ⟨pb, o, none⟩ v) := ⟨h.os, h.tape, h.output, by simpa using h.size, fun k hk h1 h2 => (heap_setCell_other _ _ _ _ h2).trans (h.block k hk h1 h2)⟩

theorem Mem.keep {w w' : World} {sb pb n held : Nat} {age : Int} {ps : List Pl} (h : Mem w sb pb n age held ps) (h1 : w'.heap[sb]? = w.heap[sb]?) (h2 : w'.heap[pb]? = w.heap[pb]?) : Mem w' sb pb n age held ps := ⟨h1.trans h.box, h2.trans h.row, h.len, h.big, h.ne⟩
theorem Mem.below {w w' : World} {sb pb n held : Nat} {age : Int} {ps : List Pl} (h : Mem w sb pb n age held ps) (hb : Below w.heap.size w w') : Mem w' sb pb n age held ps := h.keep (hb.block _ (lt_of_get h.box)) (hb.block _ (lt_of_get h.row))
theorem IsStamp.keep {w w' : World} {sb pb n : Nat} {vs : List (Option Int)} (h : IsStamp w sb pb n vs) (hk : ∀ k, k < w.heap.size → (k = sb ∨ k = pb) → w'.heap[k]? = w.heap[k]?) : IsStamp w' sb pb n vs := by
  obtain ⟨age, held, ps, hM, r⟩ := h
  exact ⟨age, held, ps, hM.keep (hk _ (lt_of_get hM.box) (Or.inl rfl)) (hk _ (lt_of_get hM.row) (Or.inr rfl)), r⟩
theorem IsStamp.below {w w' : World} {sb pb n : Nat} {vs : List (Option Int)} (h : IsStamp w sb pb n vs) (hb : Below w.heap.size w w') : IsStamp w' sb pb n vs := h.keep fun k hk _ => hb.block k hk
theorem IsStamp.lt {w : World} {sb pb n : Nat} {vs : List (Option Int)} (h : IsStamp w sb pb n vs) : sb < w.heap.size ∧ pb < w.heap.size ∧ sb ≠ pb ∧ vs.length = n ∧ n ≤ 65536 := by
  obtain ⟨age, held, ps, hM, _, _, rfl, _⟩ := h
  exact ⟨lt_of_get hM.box, lt_of_get hM.row, hM.ne, by rw [List.length_map]; exact hM.len, hM.big⟩

section
variable {w : World} {sb pb n held : Nat} {age : Int} {ps : List Pl}
theorem Mem.cells (h : Mem w sb pb n age held ps) : w.cell? ⟨sb, 0, none⟩ = some (.slice (some ⟨pb, 0, none⟩) n n) ∧ w.cell? ⟨sb, 1, none⟩ = some (.int .u32 age) ∧ w.cell? ⟨sb, 2, none⟩ = some (.int .i64 held) ∧ w.frozen? ⟨sb, 0, none⟩ = false ∧ w.frozen? ⟨sb, 1, none⟩ = false ∧ w.frozen? ⟨sb, 2, none⟩ = false := by
  simp [World.cell?, World.frozen?, h.box]
theorem Mem.place (h : Mem w sb pb n age held ps) {i : Nat} {p : Pl} (hi : ps[i]? = some p) : w.cell? ⟨pb, i * 3, none⟩ = some (.int .u64 p.1) ∧ w.cell? ⟨pb, i * 3 + 1, none⟩ = some (.int .u32 p.2.1) ∧ w.cell? ⟨pb, i * 3 + 2, none⟩ = some (.bool p.2.2) ∧
    w.frozen? ⟨pb, i * 3, none⟩ = false ∧ w.frozen? ⟨pb, i * 3 + 1, none⟩ = false ∧ w.frozen? ⟨pb, i * 3 + 2, none⟩ = false := by
  obtain ⟨g0, g1, g2⟩ := flatP_get ps i p hi
  exact ⟨(cells_at h.row _).1.trans (by simpa using g0), (cells_at h.row _).1.trans (by simpa using g1), (cells_at h.row _).1.trans (by simpa using g2), (cells_at h.row _).2, (cells_at h.row _).2, (cells_at h.row _).2⟩
/-- a place is laid. -/
theorem Mem.put (h : Mem w sb pb n age held ps) (i : Nat) (p : Pl) :
    Mem (((w.setCell ⟨pb, i * 3, none⟩ (.int .u64 p.1)).setCell ⟨pb, i * 3 + 1, none⟩ (.int .u32 p.2.1)).setCell ⟨pb, i * 3 + 2, none⟩ (.bool p.2.2)) sb pb n age held (ps.set i p) := by
  refine ⟨?_, ?_, by rw [List.length_set]; exact h.len, h.big, h.ne⟩
  · rw [heap_setCell_other _ _ _ _ h.ne, heap_setCell_other _ _ _ _ h.ne, heap_setCell_other _ _ _ _ h.ne]; exact h.box
  · rw [heap_setCell_same _ (heap_setCell_same _ (heap_setCell_same _ h.row))]
    congr 2
    rw [List.setIfInBounds_toArray, List.setIfInBounds_toArray, List.setIfInBounds_toArray, flatP_set]
theorem Mem.setAge (h : Mem w sb pb n age held ps) (a : Int) : Mem (w.setCell ⟨sb, 1, none⟩ (.int .u32 a)) sb pb n a held ps := by
  refine ⟨?_, (heap_setCell_other _ _ _ _ (Ne.symm h.ne)).trans h.row, h.len, h.big, h.ne⟩
  rw [heap_setCell_same _ h.box]; rfl
theorem Mem.setHeld (h : Mem w sb pb n age held ps) (m : Nat) : Mem (w.setCell ⟨sb, 2, none⟩ (.int .i64 (m : Int))) sb pb n age m ps := by
  refine ⟨?_, (heap_setCell_other _ _ _ _ (Ne.symm h.ne)).trans h.row, h.len, h.big, h.ne⟩
  rw [heap_setCell_same _ h.box]; rfl
end
end Go.Proofs.YtocgbgjpafdhmaaDoor.St

namespace Go.Proofs.YtocgbgjpafdhmaaDoor.St
open Go.RowKit

attribute [local go_sem] Oper.semAt_some

theorem below_draws {B : Nat} {a w : World} (h : Below B a w) (q : Nat) : Below B a (w.drewN q) := ⟨h.os, h.tape, h.output, h.size, h.block⟩
theorem pair_cells {w : World} {b : Nat} {c0 c1 : Value} {T : TypeId} (h : w.heap[b]? = some (.cells #[c0, c1] T)) : w.cell? ⟨b, 0, none⟩ = some c0 ∧ w.cell? ⟨b, 1, none⟩ = some c1 := by simp [World.cell?, h]

section
variable {w : World} {sb pb n held : Nat} {age : Int} {ps : List Pl}

set_option maxHeartbeats 1000000 in
theorem isPlace_in (h : Mem w sb pb n age held ps) (i : Nat) (hi : i < n) : Calls Tryd.prog 59 #[.pointer (some ⟨sb, 0, none⟩), .int .i64 i] w fun e w' => e = .returned (.bool true) ∧ w' = w := by
  obtain ⟨c0, c1, c2, _, _, _⟩ := h.cells
  have b0 : (0 : Int) ≤ (i : Int) := by omega
  have b1 : (i : Int) < (n : Int) := by omega
  clear h
  go_enter Tryd.func59, Tryd.ntmps59
  go_wp2
  go_ret
  exact ⟨rfl, rfl⟩

set_option maxHeartbeats 1000000 in
theorem isPlace_out (h : Mem w sb pb n age held ps) (i : Int) (hi : i < 0 ∨ (n : Int) ≤ i) : Calls Tryd.prog 59 #[.pointer (some ⟨sb, 0, none⟩), .int .i64 i] w fun e w' => e = .returned (.bool false) ∧ w' = w := by
  obtain ⟨c0, c1, c2, _, _, _⟩ := h.cells
  clear h
  rcases (show i < 0 ∨ (0 ≤ i ∧ (n : Int) ≤ i) by omega) with hi | ⟨hi, hj⟩
  · go_enter Tryd.func59, Tryd.ntmps59
    go_wp2
    go_ret
    exact ⟨rfl, rfl⟩
  · have e1 : decide (i < (n : Int)) = false := decide_eq_false (by omega)
    go_enter Tryd.func59, Tryd.ntmps59
    go_wp2
    go_ret
    exact ⟨rfl, rfl⟩

theorem isPlace_nil (i : Int) (w : World) : Calls Tryd.prog 59 #[.pointer none, .int .i64 i] w fun e w' => e = .returned (.bool false) ∧ w' = w := by
  go_enter Tryd.func59, Tryd.ntmps59
  go_wp2
  go_ret
  exact ⟨rfl, rfl⟩

set_option maxHeartbeats 1000000 in
theorem holds_calls (h : Mem w sb pb n age held ps) {i : Nat} {p : Pl} (hi : ps[i]? = some p) : Calls Tryd.prog 60 #[.pointer (some ⟨sb, 0, none⟩), .int .i64 i] w fun e w' => e = .returned (.bool (seenP age p).isSome) ∧ Below w.heap.size w w' := by
  obtain ⟨c0, c1, c2, _, _, _⟩ := h.cells
  obtain ⟨p0, p1, p2, _, _, _⟩ := h.place hi
  have hlt := (List.getElem?_eq_some_iff.1 hi).1
  have b0 : (0 : Int) ≤ (i : Int) := by omega
  have b1 : (i : Int) < (n : Int) := by have := h.len; omega
  obtain ⟨x, a, b⟩ := p
  clear h hlt hi
  cases b with
  | false =>
    have e0 : (seenP age (x, a, false)).isSome = false := by simp [seenP]
    rw [e0]
    go_enter Tryd.func60, Tryd.ntmps60
    go_wp2_with fail
    go_quiet (fail)
    go_wp2
    go_ret
    exact ⟨rfl, below_draws (Below.refl _ _) _⟩
  | true =>
    by_cases ha : a = age
    · subst ha
      have e0 : (seenP a (x, a, true)).isSome = true := by simp [seenP]
      rw [e0]
      go_enter Tryd.func60, Tryd.ntmps60
      go_wp2_with fail
      go_quiet (fail)
      go_wp2
      go_ret
      exact ⟨rfl, below_draws (Below.refl _ _) _⟩
    · have e0 : (seenP age (x, a, true)).isSome = false := by simp [seenP, ha]
      rw [e0]
      have e1 : (a == age) = false := by simpa using ha
      go_enter Tryd.func60, Tryd.ntmps60
      go_wp2_with fail
      go_quiet (fail)
      go_wp2
      go_ret
      exact ⟨rfl, below_draws (Below.refl _ _) _⟩
end

section
variable {w : World} {sb pb n : Nat} {vs : List (Option Int)}
set_option maxHeartbeats 1000000 in
theorem get_far (h : IsStamp w sb pb n vs) (i : Int) (hi : i < 0 ∨ (n : Int) ≤ i) : Calls Tryd.prog 47 #[.pointer (some ⟨sb, 0, none⟩), .int .i64 i] w fun e w' => e = .returned (.tuple #[.int .u64 0, .bool false]) ∧ w' = w := by
  obtain ⟨age, held, ps, hM, _⟩ := h
  have HP : Hid (type_of% (isPlace_out hM i hi)) := isPlace_out hM i hi
  clear hM
  go_enter Tryd.func47, Tryd.ntmps47
  go_wp2_with fail
  refine HP.out.mono ?_
  rintro e w1 ⟨rfl, hw1⟩
  subst hw1
  go_wp2
  go_ret2
  exact ⟨rfl, rfl⟩

/-- what Get answers of a place. -/
def gotV : Option Int → Value
  | some x => .tuple #[.int .u64 x, .bool true]
  | none => .tuple #[.int .u64 0, .bool false]

set_option maxHeartbeats 1000000 in
theorem get_in (h : IsStamp w sb pb n vs) (i : Nat) (o : Option Int) (hi : vs[i]? = some o) : Calls Tryd.prog 47 #[.pointer (some ⟨sb, 0, none⟩), .int .i64 i] w fun e w' => e = .returned (gotV o) ∧ Below w.heap.size w w' := by
  obtain ⟨age, held, ps, hM, _, _, rfl, _, _⟩ := h
  rw [List.getElem?_map] at hi
  obtain ⟨p, hp, rfl⟩ := Option.map_eq_some_iff.1 hi
  have hlt : i < n := by have := (List.getElem?_eq_some_iff.1 hp).1; have := hM.len; omega
  have HP : Hid (type_of% (isPlace_in hM i hlt)) := isPlace_in hM i hlt
  have HH : Hid (type_of% (holds_calls hM hp)) := holds_calls hM hp
  have HK : Hid (∀ wx, Below w.heap.size w wx → wx.cell? ⟨sb, 0, none⟩ = some (.slice (some ⟨pb, 0, none⟩) n n) ∧ wx.cell? ⟨sb, 1, none⟩ = some (.int .u32 age) ∧ wx.cell? ⟨sb, 2, none⟩ = some (.int .i64 held) ∧ wx.cell? ⟨pb, i * 3, none⟩ = some (.int .u64 p.1) ∧ wx.cell? ⟨pb, i * 3 + 1, none⟩ = some (.int .u32 p.2.1) ∧ wx.cell? ⟨pb, i * 3 + 2, none⟩ = some (.bool p.2.2)) := fun wx hb => by
    have hX := hM.below hb
    obtain ⟨c0, c1, c2, _, _, _⟩ := hX.cells
    obtain ⟨p0, p1, p2, _, _, _⟩ := hX.place hp
    exact ⟨c0, c1, c2, p0, p1, p2⟩
  have b0 : (0 : Int) ≤ (i : Int) := by omega
  have b1 : (i : Int) < (n : Int) := by omega
  clear hM hi hp
  by_cases hs : p.2.2 = true ∧ p.2.1 = age
  · have e0 : seenP age p = some p.1 := by simp [seenP, hs]
    rw [e0] at HH ⊢
    unfold gotV
    clear e0 hs
    go_enter Tryd.func47, Tryd.ntmps47
    go_wp2_with fail
    refine HP.out.mono ?_
    rintro e w1 ⟨rfl, hw1⟩
    subst hw1
    go_wp2_with fail
    refine HH.out.mono ?_
    rintro e w2 ⟨rfl, hw2⟩
    have HB : Hid (Below w1.heap.size w1 w2) := hw2
    obtain ⟨c0, c1, c2, p0, p1, p2⟩ := HK.out w2 hw2
    clear hw2
    go_wp2
    go_ret2
    exact ⟨rfl, HB.out⟩
  · have e0 : seenP age p = none := by simp [seenP, hs]
    rw [e0] at HH ⊢
    unfold gotV
    clear e0 hs
    go_enter Tryd.func47, Tryd.ntmps47
    go_wp2_with fail
    refine HP.out.mono ?_
    rintro e w1 ⟨rfl, hw1⟩
    subst hw1
    go_wp2_with fail
    refine HH.out.mono ?_
    rintro e w2 ⟨rfl, hw2⟩
    have HB : Hid (Below w1.heap.size w1 w2) := hw2
    obtain ⟨c0, c1, c2, p0, p1, p2⟩ := HK.out w2 hw2
    clear hw2
    go_wp2
    go_ret2
    exact ⟨rfl, HB.out⟩
end

set_option maxHeartbeats 1000000 in
theorem new_bad (n : Int) (age : Int) (hn : n < 0 ∨ 65536 < n) (w : World) : Calls Tryd.prog 43 #[.int .i64 n, .int .u32 age] w fun e w' => e = .returned (.tuple #[.pointer none, .iface 53 (.int .i64 1)]) ∧ w' = w := by
  rcases (show n < 0 ∨ (¬ n < 0 ∧ 65536 < n) by omega) with h | ⟨h, h2⟩
  · go_enter Tryd.func43, Tryd.ntmps43
    go_wp2
    go_ret2
    exact ⟨rfl, rfl⟩
  · go_enter Tryd.func43, Tryd.ntmps43
    go_wp2
    go_ret2
    exact ⟨rfl, rfl⟩
end Go.Proofs.YtocgbgjpafdhmaaDoor.St

namespace Go.Proofs.YtocgbgjpafdhmaaDoor.St
open Go.RowKit

attribute [local go_sem] Oper.semAt_some

theorem flatP_zero (n j : Nat) : (flatP (List.replicate n (0, 0, false)))[j]? = if j < n * 3 then some (#[Value.int .u64 0, .int .u32 0, .bool false][j % 3]!) else none := by
  split
  · rename_i h
    have hq : j / 3 < n := by omega
    obtain ⟨g0, g1, g2⟩ := flatP_get (List.replicate n (0, 0, false)) (j / 3) (0, 0, false) (by rw [List.getElem?_replicate, if_pos hq])
    have hj : j = j / 3 * 3 + j % 3 := by omega
    rcases (show j % 3 = 0 ∨ j % 3 = 1 ∨ j % 3 = 2 by omega) with e | e | e
    · rw [e] at hj ⊢
      rw [hj]
      simpa using g0
    · rw [e] at hj ⊢
      rw [hj]
      simpa using g1
    · rw [e] at hj ⊢
      rw [hj]
      simpa using g2
  · rename_i h
    rw [List.getElem?_eq_none]
    rw [flatP_len, List.length_replicate]
    omega
theorem made_places (n : Nat) : madeCells #[.int .u64 0, .int .u32 0, .bool false] (n * 3) = (flatP (List.replicate n (0, 0, false))).toArray := by
  apply Array.ext'
  apply List.ext_getElem?
  intro j
  rw [flatP_zero]
  split
  · rename_i h
    simp [madeCells, h]
  · rename_i h
    rw [List.getElem?_eq_none]
    rw [Array.length_toList, size_madeCells]
    omega

theorem infoPlace : (Tryd.prog.info? 153).map (fun i => (i.zero, i.size, i.bytes)) = some (some (.agg #[.int .u64 0, .int .u32 0, .bool false]), 3, 16) := by kernel_rfl
theorem make_places (n : Nat) (hn : n ≤ 65536) (w : World) : (Instr.makeSlice 142 (.int .i64 (n : Int)) (.int .i64 (n : Int))).run Tryd.prog w = .ok (.slice (some ⟨w.heap.size, 0, none⟩) n n) (w.alloc (.cells (flatP (List.replicate n (0, 0, false))).toArray 153)) := by
  obtain ⟨i, hi, hzz⟩ := Option.map_eq_some_iff.1 infoPlace
  simp only [Prod.mk.injEq] at hzz
  obtain ⟨hz, hs, hb⟩ := hzz
  have hr := run_make (P := Tryd.prog) w 142 153 i _ Tryd.underlying142 hi hz .i64 .i64 n n (by omega) (Int.le_refl _) (by rw [hb]; omega) (by omega)
  simp only [Int.toNat_natCast, hs] at hr
  rw [hr, ← made_places]
  rfl

set_option maxHeartbeats 1000000 in
theorem new_calls (n : Nat) (hn : n ≤ 65536) (age : Int) (ha : 0 ≤ age) (hA : age ≤ 4294967295) (w : World) : Calls Tryd.prog 43 #[.int .i64 n, .int .u32 age] w fun e w' => e = .returned (.tuple #[.pointer (some ⟨w.heap.size + 1, 0, none⟩), .nilIface]) ∧ IsStamp w' (w.heap.size + 1) w.heap.size n (List.replicate n none) ∧ Below w.heap.size w w' := by
  have hmk := make_places n hn
  have h1 : ¬ (n : Int) < 0 := by omega
  have h2 : ¬ (65536 : Int) < (n : Int) := by omega
  obtain ⟨W, hW⟩ : ∃ W, (w.alloc (.cells (flatP (List.replicate n (0, 0, false))).toArray 153)).alloc (.cells #[.slice (some ⟨w.heap.size, 0, none⟩) n n, .int .u32 age, .int .i64 0] 144) = W := ⟨_, rfl⟩
  have HB : Hid (Below w.heap.size w W) := by rw [← hW]; exact ((Below.refl _ w).alloc (Nat.le_refl _) _).alloc (by simp) _
  have HI : Hid (IsStamp W (w.heap.size + 1) w.heap.size n (List.replicate n none)) := by
    refine ⟨age, 0, List.replicate n (0, 0, false), ⟨?_, ?_, by simp, hn, by omega⟩, ha, hA, ?_, (cnt_none n).symm, ?_⟩
    · have h := heap_new (w.alloc (.cells (flatP (List.replicate n (0, 0, false))).toArray 153)) (.cells #[.slice (some ⟨w.heap.size, 0, none⟩) n n, .int .u32 age, .int .i64 0] 144)
      rw [hW] at h
      simpa using h
    · rw [← hW, Below.heap_alloc _ _ _ (by simp), heap_new]
    · rw [List.map_replicate]
      rfl
    · intro p hp hs
      rw [List.eq_of_mem_replicate hp] at hs
      cases hs
  have HW : Hid ((w.alloc (.cells (flatP (List.replicate n (0, 0, false))).toArray 153)).alloc (.cells #[.slice (some ⟨w.heap.size, 0, none⟩) n n, .int .u32 age, .int .i64 0] 144) = W) := hW
  clear hW
  go_enter Tryd.func43, Tryd.ntmps43
  go_wp2
  rw [HW.out]
  go_ret2
  exact ⟨rfl, HI.out, HB.out⟩

section
variable {w : World} {sb pb n : Nat} {vs : List (Option Int)}

set_option maxHeartbeats 1000000 in
theorem set_far (h : IsStamp w sb pb n vs) (i : Int) (hi : i < 0 ∨ (n : Int) ≤ i) (x : Int) : Calls Tryd.prog 55 #[.pointer (some ⟨sb, 0, none⟩), .int .i64 i, .int .u64 x] w fun e w' => e = .returned (.iface 53 (.int .i64 7)) ∧ w' = w := by
  obtain ⟨age, held, ps, hM, _⟩ := h
  have HP : Hid (type_of% (isPlace_out hM i hi)) := isPlace_out hM i hi
  clear hM
  go_enter Tryd.func55, Tryd.ntmps55
  go_wp2_with fail
  refine HP.out.mono ?_
  rintro e w1 ⟨rfl, hw1⟩
  subst hw1
  go_wp2
  go_ret
  exact ⟨rfl, rfl⟩

/-- what is laid in a place is what it holds. -/
theorem laid_isStamp {w' : World} {age : Int} {ps : List Pl} (ha : 0 ≤ age) (hA : age ≤ 4294967295) (hO : ∀ p ∈ ps, p.2.2 = true → p.2.1 ≤ age) {i : Nat} (x : Int) (hM : Mem w' sb pb n age (cnt ((ps.map (seenP age)).set i (some x))) (ps.set i (x, age, true))) : IsStamp w' sb pb n ((ps.map (seenP age)).set i (some x)) := by
  refine ⟨age, _, _, hM, ha, hA, ?_, rfl, ?_⟩
  · rw [List.map_set]
    simp [seenP]
  · intro p hp hs
    rcases List.mem_or_eq_of_mem_set hp with h | h
    · exact hO p h hs
    · subst h
      exact Int.le_refl _

set_option maxHeartbeats 2000000 in
theorem set_calls (h : IsStamp w sb pb n vs) (i : Nat) (hi : i < n) (x : Int) : Calls Tryd.prog 55 #[.pointer (some ⟨sb, 0, none⟩), .int .i64 i, .int .u64 x] w fun e w' => e = .returned .nilIface ∧ IsStamp w' sb pb n (vs.set i (some x)) ∧ Fr sb pb w w' := by
  obtain ⟨age, held, ps, hM, ha, hA, rfl, hh, hO⟩ := h
  have hl := hM.len
  obtain ⟨p, hp⟩ : ∃ p, ps[i]? = some p := ⟨ps[i]'(by omega), List.getElem?_eq_getElem _⟩
  have hv : (ps.map (seenP age))[i]? = some (seenP age p) := by rw [List.getElem?_map, hp]; rfl
  have HP : Hid (type_of% (isPlace_in hM i hi)) := isPlace_in hM i hi
  have HH : Hid (type_of% (holds_calls hM hp)) := holds_calls hM hp
  have HM : Hid (Mem w sb pb n age held ps) := hM
  have HL : Hid (∀ w', Mem w' sb pb n age (cnt ((ps.map (seenP age)).set i (some x))) (ps.set i (x, age, true)) → IsStamp w' sb pb n ((ps.map (seenP age)).set i (some x))) := fun w' hM' => laid_isStamp ha hA hO x hM'
  have hcb : cnt (ps.map (seenP age)) ≤ 65536 := by have := cnt_le (ps.map (seenP age)); rw [List.length_map] at this; have := hM.big; omega
  have hhb : (held : Int) ≤ 65536 := by omega
  have hh0 : (0 : Int) ≤ (held : Int) := by omega
  have n1 : sb ≠ pb := hM.ne
  have n2 : pb ≠ sb := Ne.symm n1
  have b0 : (0 : Int) ≤ (i : Int) := by omega
  have b1 : (i : Int) < (n : Int) := by omega
  obtain ⟨VS, hVS⟩ : ∃ VS, (ps.map (seenP age)).set i (some x) = VS := ⟨_, rfl⟩
  rw [hVS] at HL ⊢
  have HI : Hid (ps[i]? = some p) := hp
  by_cases hs : p.2.2 = true ∧ p.2.1 = age
  · have e0 : seenP age p = some p.1 := by simp [seenP, hs]
    have HC : Hid (cnt VS = held) := by show _ = _; rw [← hVS, hh]; exact cnt_same _ _ _ p.1 (by rw [hv, e0])
    rw [e0] at HH
    clear hM hp hl hs e0 hv hh hVS hO ha hA hcb
    go_enter Tryd.func55, Tryd.ntmps55
    go_wp2_with fail
    refine HP.out.mono ?_
    rintro e w1 ⟨rfl, hw1⟩
    subst hw1
    go_wp2_with fail
    refine HH.out.mono ?_
    rintro e w2 ⟨rfl, hw2⟩
    have HB : Hid (Below w1.heap.size w1 w2) := hw2
    have HM2 : Hid (Mem w2 sb pb n age held ps) := HM.out.below hw2
    obtain ⟨c0, c1, c2, f0, f1, f2⟩ := HM2.out.cells
    obtain ⟨p0, p1, p2, g0, g1, g2⟩ := HM2.out.place HI.out
    have l0 : sb < w2.heap.size := lt_of_get HM2.out.box
    have l1 : pb < w2.heap.size := lt_of_get HM2.out.row
    clear hw2
    go_wp2_with fail
    go_region_held3 (fun w' => w'.cell? ⟨sb, 0, none⟩ = some (.slice (some ⟨pb, 0, none⟩) n n) ∧ w'.cell? ⟨sb, 1, none⟩ = some (.int .u32 age)) (go_keep) (first | fail)
    go_wp2
    go_ret
    refine ⟨rfl, HL.out _ ?_, ?_⟩
    · rw [HC.out]
      exact (HM2.out.put i (x, age, true)).below (below_draws (Below.refl _ _) 1)
    · exact (Fr.of_below HB.out).row _ _ |>.row _ _ |>.row _ _ |>.drew
  · have e0 : seenP age p = none := by simp [seenP, hs]
    have HC : Hid (cnt VS = held + 1) := by show _ = _; rw [← hVS, hh]; exact cnt_add _ _ _ (by rw [hv, e0])
    rw [e0] at HH
    clear hM hp hl hs e0 hv hh hVS hO ha hA hcb
    go_enter Tryd.func55, Tryd.ntmps55
    go_wp2_with fail
    refine HP.out.mono ?_
    rintro e w1 ⟨rfl, hw1⟩
    subst hw1
    go_wp2_with fail
    refine HH.out.mono ?_
    rintro e w2 ⟨rfl, hw2⟩
    have HB : Hid (Below w1.heap.size w1 w2) := hw2
    have HM2 : Hid (Mem w2 sb pb n age held ps) := HM.out.below hw2
    obtain ⟨c0, c1, c2, f0, f1, f2⟩ := HM2.out.cells
    obtain ⟨p0, p1, p2, g0, g1, g2⟩ := HM2.out.place HI.out
    have l0 : sb < w2.heap.size := lt_of_get HM2.out.box
    have l1 : pb < w2.heap.size := lt_of_get HM2.out.row
    have HW : Hid (∀ W3, w2.setCell ⟨sb, 2, none⟩ (.int .i64 ((held : Int) + 1)) = W3 → Mem W3 sb pb n age (held + 1) ps ∧ Fr sb pb w1 W3) := fun W3 e => by
      subst e
      exact ⟨HM2.out.setHeld (held + 1), (Fr.of_below HB.out).box _ _⟩
    clear hw2
    go_wp2_with fail
    generalize hW3 : w2.setCell ⟨sb, 2, none⟩ (.int .i64 ((held : Int) + 1)) = W3
    obtain ⟨hM3, hF3⟩ := HW.out W3 hW3
    clear c0 c1 c2 f0 f1 f2 p0 p1 p2 g0 g1 g2 l0 l1 hW3 HW HM2 HB
    have HM3 : Hid (Mem W3 sb pb n age (held + 1) ps) := hM3
    have HF3 : Hid (Fr sb pb w1 W3) := hF3
    obtain ⟨c0, c1, c2, f0, f1, f2⟩ := hM3.cells
    obtain ⟨p0, p1, p2, g0, g1, g2⟩ := hM3.place HI.out
    have l0 : sb < W3.heap.size := lt_of_get hM3.box
    have l1 : pb < W3.heap.size := lt_of_get hM3.row
    clear hM3 hF3
    go_region_held3 (fun w' => w'.cell? ⟨sb, 0, none⟩ = some (.slice (some ⟨pb, 0, none⟩) n n) ∧ w'.cell? ⟨sb, 1, none⟩ = some (.int .u32 age)) (go_keep) (first | fail)
    go_wp2
    go_ret
    refine ⟨rfl, HL.out _ ?_, ?_⟩
    · rw [HC.out]
      exact (HM3.out.put i (x, age, true)).below (below_draws (Below.refl _ _) 1)
    · exact HF3.out.row _ _ |>.row _ _ |>.row _ _ |>.drew

theorem set_nil (i x : Int) (w : World) : Calls Tryd.prog 55 #[.pointer none, .int .i64 i, .int .u64 x] w fun e w' => e = .returned (.iface 53 (.int .i64 19)) ∧ w' = w := by
  go_enter Tryd.func55, Tryd.ntmps55
  go_wp2
  go_ret
  exact ⟨rfl, rfl⟩

theorem get_nil (i : Int) (w : World) : Calls Tryd.prog 47 #[.pointer none, .int .i64 i] w fun e w' => e = .returned (.tuple #[.int .u64 0, .bool false]) ∧ w' = w := by
  go_enter Tryd.func47, Tryd.ntmps47
  go_wp2_with fail
  refine (isPlace_nil _ _).mono ?_
  rintro e w1 ⟨rfl, hw1⟩
  subst hw1
  go_wp2
  go_ret2
  exact ⟨rfl, rfl⟩
end
end Go.Proofs.YtocgbgjpafdhmaaDoor.St
