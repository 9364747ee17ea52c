/- The reference's distances as plain mathematics: a matrix of numbers, its first state by the arcs, a phase a middle node; turned about; by the normal graph. A matrix in memory. -/
import Derived.Test.YtbkclhaonbjobaaGreatQnX
import Derived.Test.YtbkclhaonbjobaaGreatQsX
import Derived.Deep.RegionHeld3
import Derived.Deep.OwnRows
import Derived.Laws.OwnMore
namespace Go.Proofs.YtbkclhaonbjobaaGreat.Ds
open Go.RowKit

/-- a matrix. -/
abbrev Mx := Nat → Nat → Int
def far : Int := 18446744073709551615
def upd2 (f : Mx) (i j : Nat) (v : Int) : Mx := fun a b => if a = i ∧ b = j then v else f a b
/-- numbers that a matrix may hold, and noughts on the line. -/
structure Good (f : Mx) : Prop where
  lo : ∀ i j, 0 ≤ f i j
  hi : ∀ i j, f i j ≤ far
  diag : ∀ i, f i i = 0
theorem wrap_range (x : Int) : 0 ≤ IntKind.u64.wrap x ∧ IntKind.u64.wrap x ≤ far := by
  rw [IntKind.wrap_u64]
  unfold far
  omega
theorem wrap_self {x : Int} (h : 0 ≤ x) (h2 : x ≤ far) : IntKind.u64.wrap x = x := by
  unfold far at h2
  rw [IntKind.wrap_u64]
  omega
/-- one number of a phase. -/
def ph (f : Mx) (k : Nat) : Mx := fun i j => if f i k ≠ far ∧ f k j ≠ far then min (f i j) (IntKind.u64.wrap (f i k + f k j)) else f i j
theorem ph_row {f : Mx} (h : Good f) (k j : Nat) : ph f k k j = f k j := by
  unfold ph
  split
  · rw [h.diag, Int.zero_add, wrap_self (h.lo _ _) (h.hi _ _)]
    omega
  · rfl
theorem ph_col {f : Mx} (h : Good f) (k i : Nat) : ph f k i k = f i k := by
  unfold ph
  split
  · rw [h.diag, Int.add_zero, wrap_self (h.lo _ _) (h.hi _ _)]
    omega
  · rfl
theorem ph_good {f : Mx} (h : Good f) (k : Nat) : Good (ph f k) := by
  refine ⟨fun i j => ?_, fun i j => ?_, fun i => ?_⟩
  · unfold ph
    have := wrap_range (f i k + f k j)
    have := h.lo i j
    split <;> omega
  · unfold ph
    have := h.hi i j
    split <;> omega
  · unfold ph
    rw [h.diag]
    have := wrap_range (f i k + f k i)
    split <;> omega
/-- the phases. -/
def phs (f : Mx) : Nat → Mx
  | 0 => f
  | k + 1 => ph (phs f k) k
theorem phs_good {f : Mx} (h : Good f) : ∀ k, Good (phs f k)
  | 0 => h
  | k + 1 => ph_good (phs_good h k) k
def tr (f : Mx) : Mx := fun i j => f j i
/-- a phase under way: what is done of it. -/
def part (f : Mx) (k i j : Nat) : Mx := fun a b => if a < i ∨ (a = i ∧ b < j) then ph f k a b else f a b
theorem part_row {f : Mx} (h : Good f) (k i j b : Nat) : part f k i j k b = f k b := by
  unfold part
  split
  · exact ph_row h k b
  · rfl
theorem part_col {f : Mx} (h : Good f) (k i j a : Nat) : part f k i j a k = f a k := by
  unfold part
  split
  · exact ph_col h k a
  · rfl
theorem part_at (f : Mx) (k i j : Nat) : part f k i j i j = f i j := by
  unfold part
  rw [if_neg (by omega)]
theorem part_zero (f : Mx) (k : Nat) : part f k 0 0 = f := by
  funext a b
  unfold part
  rw [if_neg (by omega)]
theorem part_step (f : Mx) (k i j : Nat) : upd2 (part f k i j) i j (ph f k i j) = part f k i (j + 1) := by
  funext a b
  unfold upd2 part
  by_cases h : a = i ∧ b = j
  · obtain ⟨rfl, rfl⟩ := h
    rw [if_pos ⟨rfl, rfl⟩, if_pos (by omega)]
  · rw [if_neg h]
    by_cases h2 : a < i ∨ (a = i ∧ b < j)
    · rw [if_pos h2, if_pos (by omega)]
    · rw [if_neg h2, if_neg (by omega)]
theorem part_same (f : Mx) (k i j : Nat) (h : ph f k i j = f i j) : part f k i j = part f k i (j + 1) := by
  rw [← part_step]
  funext a b
  unfold upd2
  by_cases e : a = i ∧ b = j
  · obtain ⟨rfl, rfl⟩ := e
    rw [if_pos ⟨rfl, rfl⟩, part_at, h]
  · rw [if_neg e]
/-- matrices that are alike in the first n rows and columns. -/
def Alike (n : Nat) (f g : Mx) : Prop := ∀ i j, i < n → j < n → f i j = g i j
theorem part_line (f : Mx) (k i n : Nat) : Alike n (part f k i n) (part f k (i + 1) 0) := fun a b _ hb => by
  unfold part
  by_cases h : a < i + 1
  · rw [if_pos (by omega), if_pos (by omega)]
  · rw [if_neg (by omega), if_neg (by omega)]
theorem part_all (f : Mx) (k n : Nat) : Alike n (part f k n 0) (ph f k) := fun a b ha _ => by
  unfold part
  rw [if_pos (by omega)]
/-- at first. -/
def f00 : Mx := fun i j => if i = j then 0 else far
def arcF (f : Mx) (a : Int × Int × Int) : Mx := upd2 f a.1.toNat a.2.1.toNat (min (f a.1.toNat a.2.1.toNat) a.2.2)
def ini (xs : List (Int × Int × Int)) : Mx := xs.foldl arcF f00
theorem ini_snoc (xs : List (Int × Int × Int)) (a : Int × Int × Int) : ini (xs ++ [a]) = arcF (ini xs) a := by unfold ini; rw [List.foldl_append]; rfl
/-- arcs as a right graph has them. -/
def Fine (xs : List (Int × Int × Int)) : Prop := ∀ a ∈ xs, 0 ≤ a.1 ∧ 0 ≤ a.2.1 ∧ 0 ≤ a.2.2 ∧ a.2.2 ≤ 2147483647
theorem fold_le : ∀ (xs : List (Int × Int × Int)) (f : Mx) (i j : Nat), xs.foldl arcF f i j ≤ f i j
  | [], f, i, j => Int.le_refl _
  | a :: r, f, i, j => by
    refine Int.le_trans (fold_le r _ i j) ?_
    unfold arcF upd2
    split
    · rename_i h
      rw [h.1, h.2]
      exact Int.min_le_left _ _
    · exact Int.le_refl _
theorem fold_or : ∀ (xs : List (Int × Int × Int)) (f : Mx) (i j : Nat), xs.foldl arcF f i j = f i j ∨ ∃ a ∈ xs, a.1.toNat = i ∧ a.2.1.toNat = j ∧ xs.foldl arcF f i j = a.2.2
  | [], f, i, j => Or.inl rfl
  | b :: r, f, i, j => by
    rcases fold_or r (arcF f b) i j with h | ⟨a, ha, h1, h2, h3⟩
    · rw [List.foldl_cons, h]
      unfold arcF upd2
      split
      · rename_i e
        obtain ⟨rfl, rfl⟩ := e
        rcases Int.le_total (f b.1.toNat b.2.1.toNat) b.2.2 with g | g
        · left; rw [Int.min_eq_left g]
        · right; exact ⟨b, by simp, rfl, rfl, Int.min_eq_right g⟩
      · exact Or.inl rfl
    · exact Or.inr ⟨a, by simp [ha], h1, h2, h3⟩
theorem ini_good {xs : List (Int × Int × Int)} (h : Fine xs) : Good (ini xs) := by
  have hf : ∀ i j, 0 ≤ ini xs i j := fun i j => by
    rcases fold_or xs f00 i j with e | ⟨a, ha, _, _, e⟩
    · unfold ini; rw [e]; unfold f00 far; split <;> omega
    · unfold ini; rw [e]; exact (h a ha).2.2.1
  refine ⟨hf, fun i j => Int.le_trans (fold_le xs f00 i j) (by unfold f00 far; split <;> omega), fun i => ?_⟩
  have h1 := fold_le xs f00 i i
  have h2 := hf i i
  unfold ini at *
  have e : f00 i i = 0 := by unfold f00; rw [if_pos rfl]
  omega
/-- all distances. -/
def dist (n : Nat) (xs : List (Int × Int × Int)) : Mx := phs (ini xs) n
end Go.Proofs.YtbkclhaonbjobaaGreat.Ds

namespace Go.Proofs.YtbkclhaonbjobaaGreat.Ds
open Go.RowKit Go.Extern

/-- a graph in its box. -/
structure Gr (wx : World) (b : Nat) (N : Int) (ao : Option Addr) (n cap : Nat) (xs : List (Int × Int × Int)) : Prop where
  box : wx.heap[b]? = some (.cells #[.int .i64 N, .slice ao n cap] 24)
  arcs : HasArcs wx (.slice ao n cap) xs
section
variable {w wx w' : World} {b : Nat} {N : Int} {ao : Option Addr} {n cap : Nat} {xs : List (Int × Int × Int)}
theorem Gr.keep (h : Gr wx b N ao n cap xs) (hb : Below wx.heap.size wx w') : Gr w' b N ao n cap xs := ⟨(hb.block _ (lt_of_get h.box)).trans h.box, h.arcs.keep hb⟩
theorem Gr.new (N : Int) (h : HasArcs wx (.slice ao n cap) xs) : Gr (wx.alloc (.cells #[.int .i64 N, .slice ao n cap] 24)) wx.heap.size N ao n cap xs ∧ Below wx.heap.size wx (wx.alloc (.cells #[.int .i64 N, .slice ao n cap] 24)) := by
  have hb : Below wx.heap.size wx (wx.alloc (.cells #[.int .i64 N, .slice ao n cap] 24)) := (Below.refl _ wx).alloc (Nat.le_refl _) _
  exact ⟨⟨heap_new _ _, h.keep hb⟩, hb⟩
end

attribute [local go_sem] Oper.semAt_some

theorem hs_same {w : World} {b o : Nat} {c : Array Value} {t : TypeId} (v : Value) (h : w.heap[b]? = some (.cells c t)) : (w.setCell ⟨b, o, none⟩ v).heap[b]? = some (.cells (c.setIfInBounds o v) t) := by
  simp only [World.setCell, Array.getElem?_modify]
  rw [if_pos trivial, h]
  rfl
theorem row_cell {w : World} {b : Nat} {c : Array Value} {t : TypeId} (h : w.heap[b]? = some (.cells c t)) (o : Nat) : w.cell? ⟨b, o, none⟩ = c[o]? ∧ w.frozen? ⟨b, o, none⟩ = false := by
  simp [World.cell?, World.frozen?, h]

/-- a row of values, told by places. -/
def rowV (n : Nat) (s : Nat → Value) : List Value := (List.range n).map s
theorem rowV_get (n : Nat) (s : Nat → Value) {i : Nat} (h : i < n) : (rowV n s)[i]? = some (s i) := by
  unfold rowV
  rw [List.getElem?_map, List.getElem?_range h]
  rfl
theorem rowV_ext {n : Nat} {s t : Nat → Value} (h : ∀ i, i < n → s i = t i) : rowV n s = rowV n t := by
  unfold rowV
  apply List.map_congr_left
  intro i hi
  exact h i (List.mem_range.1 hi)
theorem rowV_set (n : Nat) (s : Nat → Value) (i : Nat) (v : Value) : (rowV n s).set i v = rowV n (fun j => if j = i then v else s j) := by
  apply List.ext_getElem?
  intro j
  by_cases hj : j < n
  · rw [rowV_get n _ hj]
    by_cases e : j = i
    · subst e
      rw [if_pos rfl, List.getElem?_set_self (by unfold rowV; simpa using hj)]
    · rw [if_neg e, List.getElem?_set_ne (Ne.symm e), rowV_get n _ hj]
  · rw [List.getElem?_eq_none (by unfold rowV; simpa using hj), List.getElem?_eq_none (by unfold rowV; simpa using hj)]
theorem made_row (z : Value) (n : Nat) : madeCells #[z] n = (rowV n fun _ => z).toArray := by
  apply Array.ext'
  rw [toList_madeCells_one]
  apply List.ext_getElem?
  intro j
  by_cases hj : j < n
  · rw [rowV_get n _ hj, List.getElem?_replicate, if_pos hj]
  · rw [List.getElem?_eq_none (by simpa using hj), List.getElem?_eq_none (by unfold rowV; simpa using hj)]

def rowS (n m : Nat) (rs : Nat → Nat) : Nat → Value := fun i => if i < m then .slice (some ⟨rs i, 0, none⟩) n n else .slice none 0 0
/-- a matrix in memory, the first m of its rows laid. -/
structure MatP (B : Nat) (wx : World) (db n m : Nat) (rs : Nat → Nat) (f : Mx) : Prop where
  top : wx.heap[db]? = some (.cells (rowV n (rowS n m rs)).toArray 53)
  row : ∀ i, i < m → wx.heap[rs i]? = some (.cells (rowV n (fun j => .int .u64 (f i j))).toArray 47)
  far : ∀ i, i < m → rs i ≠ db
  inj : ∀ i j, i < m → j < m → rs i = rs j → i = j
  base : B ≤ db ∧ ∀ i, i < m → B ≤ rs i
section
variable {B : Nat} {wx w' : World} {db n m : Nat} {rs : Nat → Nat} {f g : Mx}
theorem MatP.keep (h : MatP B wx db n m rs f) (hb : Below wx.heap.size wx w') : MatP B w' db n m rs f :=
  ⟨(hb.block _ (lt_of_get h.top)).trans h.top, fun i hi => (hb.block _ (lt_of_get (h.row i hi))).trans (h.row i hi), h.far, h.inj, h.base⟩
theorem MatP.ext (h : MatP B wx db n m rs f) (e : ∀ i j, i < m → j < n → f i j = g i j) : MatP B wx db n m rs g :=
  ⟨h.top, fun i hi => by rw [h.row i hi, rowV_ext (t := fun j => .int .u64 (g i j)) fun j hj => by rw [e i j hi hj]], h.far, h.inj, h.base⟩
theorem MatP.at (h : MatP B wx db n m rs f) {i : Nat} (hi : i < m) (hn : m ≤ n) : wx.cell? ⟨db, i, none⟩ = some (.slice (some ⟨rs i, 0, none⟩) n n) ∧ wx.frozen? ⟨db, i, none⟩ = false ∧ db < wx.heap.size := by
  refine ⟨(row_cell h.top i).1.trans ?_, (row_cell h.top i).2, lt_of_get h.top⟩
  rw [List.getElem?_toArray, rowV_get n _ (by omega)]
  unfold rowS
  rw [if_pos hi]
theorem MatP.cell (h : MatP B wx db n m rs f) {i j : Nat} (hi : i < m) (hj : j < n) : wx.cell? ⟨rs i, j, none⟩ = some (.int .u64 (f i j)) ∧ wx.frozen? ⟨rs i, j, none⟩ = false ∧ rs i < wx.heap.size := by
  refine ⟨(row_cell (h.row i hi) j).1.trans ?_, (row_cell (h.row i hi) j).2, lt_of_get (h.row i hi)⟩
  rw [List.getElem?_toArray, rowV_get n _ hj]
theorem MatP.set (h : MatP B wx db n m rs f) {i : Nat} (hi : i < m) (j : Nat) (v : Int) : MatP B (wx.setCell ⟨rs i, j, none⟩ (.int .u64 v)) db n m rs (upd2 f i j v) := by
  refine ⟨(heap_setCell_other _ _ _ _ (Ne.symm (h.far i hi))).trans h.top, fun a ha => ?_, h.far, h.inj, h.base⟩
  by_cases e : a = i
  · subst e
    rw [hs_same _ (h.row a ha), List.setIfInBounds_toArray, rowV_set]
    congr 3
    apply rowV_ext
    intro b _
    unfold upd2
    by_cases e : b = j
    · rw [if_pos e, if_pos ⟨rfl, e⟩]
    · rw [if_neg e, if_neg (fun g => e g.2)]
  · rw [heap_setCell_other _ _ _ _ (fun g => e (h.inj a i ha hi g)), h.row a ha]
    congr 3
    unfold upd2
    apply rowV_ext
    intro b _
    rw [if_neg (fun g => e g.1)]
theorem MatP.new (w : World) (n : Nat) (rs : Nat → Nat) (f : Mx) : MatP w.heap.size (w.alloc (.cells (madeCells #[.slice none 0 0] n) 53)) w.heap.size n 0 rs f := by
  refine ⟨?_, fun i hi => absurd hi (Nat.not_lt_zero _), fun i hi => absurd hi (Nat.not_lt_zero _), fun i _ hi => absurd hi (Nat.not_lt_zero _), Nat.le_refl _, fun i hi => absurd hi (Nat.not_lt_zero _)⟩
  rw [heap_new, made_row]
  rfl
/-- one row more. -/
theorem MatP.more (h : MatP B wx db n m rs f) (hB : B ≤ wx.heap.size) {W : World} (h1 : W.heap[db]? = some (.cells ((rowV n (rowS n m rs)).toArray.setIfInBounds m (.slice (some ⟨wx.heap.size, 0, none⟩) n n)) 53)) (h2 : W.heap[wx.heap.size]? = some (.cells (madeCells #[.int .u64 0] n) 47)) (h3 : ∀ k, k < wx.heap.size → k ≠ db → W.heap[k]? = wx.heap[k]?) : MatP B W db n (m + 1) (fun i => if i = m then wx.heap.size else rs i) (fun i j => if i = m then 0 else f i j) := by
  refine ⟨?_, fun i hi => ?_, fun i hi => ?_, fun i j hi hj e => ?_, h.base.1, fun i hi => ?_⟩
  · rw [h1, List.setIfInBounds_toArray, rowV_set]
    congr 3
    apply rowV_ext
    intro i _
    unfold rowS
    by_cases e : i = m
    · rw [if_pos e, if_pos (by omega)]
      simp [e]
    · rw [if_neg e]
      by_cases g : i < m
      · rw [if_pos g, if_pos (by omega)]
        simp [e]
      · rw [if_neg g, if_neg (by omega)]
  · by_cases e : i = m
    · simp only [if_pos e]
      rw [h2, made_row]
    · simp only [if_neg e]
      have hl := lt_of_get (h.row i (by omega))
      rw [h3 _ hl (h.far i (by omega))]
      exact h.row i (by omega)
  · by_cases e : i = m
    · simp only [if_pos e]
      have := lt_of_get h.top
      omega
    · simp only [if_neg e]
      exact h.far i (by omega)
  · by_cases e1 : i = m
    · by_cases e2 : j = m
      · omega
      · simp only [if_pos e1, if_neg e2] at e
        have := lt_of_get (h.row j (by omega))
        omega
    · by_cases e2 : j = m
      · simp only [if_pos e2, if_neg e1] at e
        have := lt_of_get (h.row i (by omega))
        omega
      · simp only [if_neg e1, if_neg e2] at e
        exact h.inj i j (by omega) (by omega) e
  · by_cases e : i = m
    · simp only [if_pos e]; exact hB
    · simp only [if_neg e]; exact h.base.2 i (by omega)
end
end Go.Proofs.YtbkclhaonbjobaaGreat.Ds
