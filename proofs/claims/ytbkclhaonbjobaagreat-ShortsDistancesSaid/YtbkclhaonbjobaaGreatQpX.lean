/- viaductref11.Distances as plain mathematics: a matrix of numbers, its first state by who is alive and by the arcs, a phase a middle node. A matrix in memory. (As for viaductref04.Distances.) The reference's matrix tells the distances in an overlay: by phases, each closed under one middle node more. (As for viaductref04.Distances.) -/
import Derived.Test.YtbkclhaonbjobaaGreatQoX
import Derived.Deep.RegionHeld3
import Derived.Deep.OwnRows
import Derived.Laws.OwnMore
namespace Go.Proofs.YtbkclhaonbjobaaGreat.Dt
open Go.RowKit

/-- a matrix. -/
abbrev Mx := Nat → Nat → Int
def far : Int := 18446744073709551615
def upd2 (f : Mx) (i j : Nat) (v : Int) : Mx := fun a b => if a = i ∧ b = j then v else f a b
theorem upd2_at (f : Mx) (i j : Nat) (v : Int) : upd2 f i j v i j = v := by simp [upd2]
/-- numbers that a matrix may hold; a node is at nought from itself, or far from everything. -/
structure Good (f : Mx) : Prop where
  lo : ∀ i j, 0 ≤ f i j
  hi : ∀ i j, f i j ≤ far
  diag : ∀ i, f i i = 0 ∨ ((∀ j, f i j = far) ∧ ∀ j, f j i = far)
theorem wrap_range (x : Int) : 0 ≤ IntKind.u64.wrap x ∧ IntKind.u64.wrap x ≤ far := by
  rw [IntKind.wrap_u64]
  unfold far
  omega
theorem wrap_self {x : Int} (h : 0 ≤ x) (h2 : x ≤ far) : IntKind.u64.wrap x = x := by
  unfold far at h2
  rw [IntKind.wrap_u64]
  omega
/-- one number of a phase. -/
def ph (f : Mx) (k : Nat) : Mx := fun i j => if f i k ≠ far ∧ f k j ≠ far then min (f i j) (IntKind.u64.wrap (f i k + f k j)) else f i j
theorem ph_row {f : Mx} (h : Good f) (k j : Nat) : ph f k k j = f k j := by
  unfold ph
  split
  · rename_i hc
    rcases h.diag k with e | e
    · rw [e, Int.zero_add, wrap_self (h.lo _ _) (h.hi _ _)]
      omega
    · exact absurd (e.1 k) hc.1
  · rfl
theorem ph_col {f : Mx} (h : Good f) (k i : Nat) : ph f k i k = f i k := by
  unfold ph
  split
  · rename_i hc
    rcases h.diag k with e | e
    · rw [e, Int.add_zero, wrap_self (h.lo _ _) (h.hi _ _)]
      omega
    · exact absurd (e.1 k) hc.2
  · rfl
theorem ph_good {f : Mx} (h : Good f) (k : Nat) : Good (ph f k) := by
  refine ⟨fun i j => ?_, fun i j => ?_, fun i => ?_⟩
  · unfold ph
    have := wrap_range (f i k + f k j)
    have := h.lo i j
    split <;> omega
  · unfold ph
    have := h.hi i j
    split <;> omega
  · rcases h.diag i with e | e
    · left
      unfold ph
      rw [e]
      have := wrap_range (f i k + f k i)
      split <;> omega
    · right
      refine ⟨fun j => ?_, fun j => ?_⟩
      · unfold ph
        rw [if_neg (fun g => g.1 (e.1 k))]
        exact e.1 j
      · unfold ph
        rw [if_neg (fun g => g.2 (e.2 k))]
        exact e.2 j
/-- the phases. -/
def phs (f : Mx) : Nat → Mx
  | 0 => f
  | k + 1 => ph (phs f k) k
theorem phs_good {f : Mx} (h : Good f) : ∀ k, Good (phs f k)
  | 0 => h
  | k + 1 => ph_good (phs_good h k) k
/-- a phase under way: what is done of it. -/
def part (f : Mx) (k i j : Nat) : Mx := fun a b => if a < i ∨ (a = i ∧ b < j) then ph f k a b else f a b
theorem part_row {f : Mx} (h : Good f) (k i j b : Nat) : part f k i j k b = f k b := by
  unfold part
  split
  · exact ph_row h k b
  · rfl
theorem part_col {f : Mx} (h : Good f) (k i j a : Nat) : part f k i j a k = f a k := by
  unfold part
  split
  · exact ph_col h k a
  · rfl
theorem part_at (f : Mx) (k i j : Nat) : part f k i j i j = f i j := by
  unfold part
  rw [if_neg (by omega)]
theorem part_zero (f : Mx) (k : Nat) : part f k 0 0 = f := by
  funext a b
  unfold part
  rw [if_neg (by omega)]
theorem part_step (f : Mx) (k i j : Nat) : upd2 (part f k i j) i j (ph f k i j) = part f k i (j + 1) := by
  funext a b
  unfold upd2 part
  by_cases h : a = i ∧ b = j
  · obtain ⟨rfl, rfl⟩ := h
    rw [if_pos ⟨rfl, rfl⟩, if_pos (by omega)]
  · rw [if_neg h]
    by_cases h2 : a < i ∨ (a = i ∧ b < j)
    · rw [if_pos h2, if_pos (by omega)]
    · rw [if_neg h2, if_neg (by omega)]
theorem part_same (f : Mx) (k i j : Nat) (h : ph f k i j = f i j) : part f k i j = part f k i (j + 1) := by
  rw [← part_step]
  funext a b
  unfold upd2
  by_cases e : a = i ∧ b = j
  · obtain ⟨rfl, rfl⟩ := e
    rw [if_pos ⟨rfl, rfl⟩, part_at, h]
  · rw [if_neg e]
/-- matrices that are alike in the first n rows and columns. -/
def Alike (n : Nat) (f g : Mx) : Prop := ∀ i j, i < n → j < n → f i j = g i j
theorem part_line (f : Mx) (k i n : Nat) : Alike n (part f k i n) (part f k (i + 1) 0) := fun a b _ hb => by
  unfold part
  by_cases h : a < i + 1
  · rw [if_pos (by omega), if_pos (by omega)]
  · rw [if_neg (by omega), if_neg (by omega)]
theorem part_all (f : Mx) (k n : Nat) : Alike n (part f k n 0) (ph f k) := fun a b ha _ => by
  unfold part
  rw [if_pos (by omega)]
/-- at first: only the living are at nought. -/
def f00 (al : Nat → Bool) : Mx := fun i j => if i = j ∧ al i = true then 0 else far
def arcF (f : Mx) (a : Int × Int × Int) : Mx := upd2 f a.1.toNat a.2.1.toNat (min (f a.1.toNat a.2.1.toNat) a.2.2)
def ini (al : Nat → Bool) (xs : List (Int × Int × Int)) : Mx := xs.foldl arcF (f00 al)
theorem ini_snoc (al : Nat → Bool) (xs : List (Int × Int × Int)) (a : Int × Int × Int) : ini al (xs ++ [a]) = arcF (ini al xs) a := by unfold ini; rw [List.foldl_append]; rfl
/-- arcs between the living. -/
def Fine (al : Nat → Bool) (xs : List (Int × Int × Int)) : Prop := ∀ a ∈ xs, 0 ≤ a.1 ∧ 0 ≤ a.2.1 ∧ 0 ≤ a.2.2 ∧ a.2.2 ≤ 140737488355328 ∧ al a.1.toNat = true ∧ al a.2.1.toNat = true
theorem fold_le : ∀ (xs : List (Int × Int × Int)) (f : Mx) (i j : Nat), xs.foldl arcF f i j ≤ f i j
  | [], f, i, j => Int.le_refl _
  | a :: r, f, i, j => by
    refine Int.le_trans (fold_le r _ i j) ?_
    unfold arcF upd2
    split
    · rename_i h
      rw [h.1, h.2]
      exact Int.min_le_left _ _
    · exact Int.le_refl _
theorem fold_arc : ∀ (xs : List (Int × Int × Int)) (f : Mx) (a : Int × Int × Int), a ∈ xs → xs.foldl arcF f a.1.toNat a.2.1.toNat ≤ a.2.2
  | b :: r, f, a, h => by
    rcases List.mem_cons.1 h with rfl | h
    · refine Int.le_trans (fold_le r _ _ _) ?_
      unfold arcF
      rw [upd2_at]
      exact Int.min_le_right _ _
    · exact fold_arc r _ a h
theorem fold_or : ∀ (xs : List (Int × Int × Int)) (f : Mx) (i j : Nat), xs.foldl arcF f i j = f i j ∨ ∃ a ∈ xs, a.1.toNat = i ∧ a.2.1.toNat = j ∧ xs.foldl arcF f i j = a.2.2
  | [], f, i, j => Or.inl rfl
  | b :: r, f, i, j => by
    rcases fold_or r (arcF f b) i j with h | ⟨a, ha, h1, h2, h3⟩
    · rw [List.foldl_cons, h]
      unfold arcF upd2
      split
      · rename_i e
        obtain ⟨rfl, rfl⟩ := e
        rcases Int.le_total (f b.1.toNat b.2.1.toNat) b.2.2 with g | g
        · left; rw [Int.min_eq_left g]
        · right; exact ⟨b, by simp, rfl, rfl, Int.min_eq_right g⟩
      · exact Or.inl rfl
    · exact Or.inr ⟨a, by simp [ha], h1, h2, h3⟩
theorem ini_good {al : Nat → Bool} {xs : List (Int × Int × Int)} (h : Fine al xs) : Good (ini al xs) := by
  have hf : ∀ i j, 0 ≤ ini al xs i j := fun i j => by
    rcases fold_or xs (f00 al) i j with e | ⟨a, ha, _, _, e⟩
    · unfold ini; rw [e]; unfold f00 far; split <;> omega
    · unfold ini; rw [e]; exact (h a ha).2.2.1
  refine ⟨hf, fun i j => Int.le_trans (fold_le xs (f00 al) i j) (by unfold f00 far; split <;> omega), fun i => ?_⟩
  by_cases hi : al i = true
  · left
    have h1 := fold_le xs (f00 al) i i
    have h2 := hf i i
    unfold ini at *
    have e : f00 al i i = 0 := by unfold f00; rw [if_pos ⟨rfl, hi⟩]
    omega
  · right
    have g : ∀ a b : Nat, (a = i ∨ b = i) → ini al xs a b = far := fun a b hab => by
      rcases fold_or xs (f00 al) a b with e | ⟨x, hx, e1, e2, _⟩
      · unfold ini; rw [e]; unfold f00
        rw [if_neg]
        rintro ⟨rfl, h3⟩
        rcases hab with rfl | rfl <;> exact hi h3
      · obtain ⟨_, _, _, _, q1, q2⟩ := h x hx
        rcases hab with rfl | rfl
        · rw [e1] at q1; exact absurd q1 hi
        · rw [e2] at q2; exact absurd q2 hi
    exact ⟨fun j => g i j (Or.inl rfl), fun j => g j i (Or.inr rfl)⟩
/-- all distances. -/
def dist (n : Nat) (al : Nat → Bool) (xs : List (Int × Int × Int)) : Mx := phs (ini al xs) n
end Go.Proofs.YtbkclhaonbjobaaGreat.Dt

namespace Go.Proofs.YtbkclhaonbjobaaGreat.Dt
open Go.RowKit Go.Extern

attribute [local go_sem] Oper.semAt_some

theorem hs_same {w : World} {b o : Nat} {c : Array Value} {t : TypeId} (v : Value) (h : w.heap[b]? = some (.cells c t)) : (w.setCell ⟨b, o, none⟩ v).heap[b]? = some (.cells (c.setIfInBounds o v) t) := by
  simp only [World.setCell, Array.getElem?_modify]
  rw [if_pos trivial, h]
  rfl
theorem row_cell {w : World} {b : Nat} {c : Array Value} {t : TypeId} (h : w.heap[b]? = some (.cells c t)) (o : Nat) : w.cell? ⟨b, o, none⟩ = c[o]? ∧ w.frozen? ⟨b, o, none⟩ = false := by
  simp [World.cell?, World.frozen?, h]

/-- a row of values, told by places. -/
def rowV (n : Nat) (s : Nat → Value) : List Value := (List.range n).map s
theorem rowV_get (n : Nat) (s : Nat → Value) {i : Nat} (h : i < n) : (rowV n s)[i]? = some (s i) := by
  unfold rowV
  rw [List.getElem?_map, List.getElem?_range h]
  rfl
theorem rowV_ext {n : Nat} {s t : Nat → Value} (h : ∀ i, i < n → s i = t i) : rowV n s = rowV n t := by
  unfold rowV
  apply List.map_congr_left
  intro i hi
  exact h i (List.mem_range.1 hi)
theorem rowV_set (n : Nat) (s : Nat → Value) (i : Nat) (v : Value) : (rowV n s).set i v = rowV n (fun j => if j = i then v else s j) := by
  apply List.ext_getElem?
  intro j
  by_cases hj : j < n
  · rw [rowV_get n _ hj]
    by_cases e : j = i
    · subst e
      rw [if_pos rfl, List.getElem?_set_self (by unfold rowV; simpa using hj)]
    · rw [if_neg e, List.getElem?_set_ne (Ne.symm e), rowV_get n _ hj]
  · rw [List.getElem?_eq_none (by unfold rowV; simpa using hj), List.getElem?_eq_none (by unfold rowV; simpa using hj)]
theorem made_row (z : Value) (n : Nat) : madeCells #[z] n = (rowV n fun _ => z).toArray := by
  apply Array.ext'
  rw [toList_madeCells_one]
  apply List.ext_getElem?
  intro j
  by_cases hj : j < n
  · rw [rowV_get n _ hj, List.getElem?_replicate, if_pos hj]
  · rw [List.getElem?_eq_none (by simpa using hj), List.getElem?_eq_none (by unfold rowV; simpa using hj)]

def rowS (n m : Nat) (rs : Nat → Nat) : Nat → Value := fun i => if i < m then .slice (some ⟨rs i, 0, none⟩) n n else .slice none 0 0
/-- a matrix in memory, the first m of its rows laid. -/
structure MatP (B : Nat) (wx : World) (db n m : Nat) (rs : Nat → Nat) (f : Mx) : Prop where
  top : wx.heap[db]? = some (.cells (rowV n (rowS n m rs)).toArray 53)
  row : ∀ i, i < m → wx.heap[rs i]? = some (.cells (rowV n (fun j => .int .u64 (f i j))).toArray 47)
  far : ∀ i, i < m → rs i ≠ db
  inj : ∀ i j, i < m → j < m → rs i = rs j → i = j
  base : B ≤ db ∧ ∀ i, i < m → B ≤ rs i
section
variable {B : Nat} {wx w' : World} {db n m : Nat} {rs : Nat → Nat} {f g : Mx}
theorem MatP.keep (h : MatP B wx db n m rs f) (hb : Below wx.heap.size wx w') : MatP B w' db n m rs f :=
  ⟨(hb.block _ (lt_of_get h.top)).trans h.top, fun i hi => (hb.block _ (lt_of_get (h.row i hi))).trans (h.row i hi), h.far, h.inj, h.base⟩
theorem MatP.ext (h : MatP B wx db n m rs f) (e : ∀ i j, i < m → j < n → f i j = g i j) : MatP B wx db n m rs g :=
  ⟨h.top, fun i hi => by rw [h.row i hi, rowV_ext (t := fun j => .int .u64 (g i j)) fun j hj => by rw [e i j hi hj]], h.far, h.inj, h.base⟩
theorem MatP.at (h : MatP B wx db n m rs f) {i : Nat} (hi : i < m) (hn : m ≤ n) : wx.cell? ⟨db, i, none⟩ = some (.slice (some ⟨rs i, 0, none⟩) n n) ∧ wx.frozen? ⟨db, i, none⟩ = false ∧ db < wx.heap.size := by
  refine ⟨(row_cell h.top i).1.trans ?_, (row_cell h.top i).2, lt_of_get h.top⟩
  rw [List.getElem?_toArray, rowV_get n _ (by omega)]
  unfold rowS
  rw [if_pos hi]
theorem MatP.cell (h : MatP B wx db n m rs f) {i j : Nat} (hi : i < m) (hj : j < n) : wx.cell? ⟨rs i, j, none⟩ = some (.int .u64 (f i j)) ∧ wx.frozen? ⟨rs i, j, none⟩ = false ∧ rs i < wx.heap.size := by
  refine ⟨(row_cell (h.row i hi) j).1.trans ?_, (row_cell (h.row i hi) j).2, lt_of_get (h.row i hi)⟩
  rw [List.getElem?_toArray, rowV_get n _ hj]
theorem MatP.set (h : MatP B wx db n m rs f) {i : Nat} (hi : i < m) (j : Nat) (v : Int) : MatP B (wx.setCell ⟨rs i, j, none⟩ (.int .u64 v)) db n m rs (upd2 f i j v) := by
  refine ⟨(heap_setCell_other _ _ _ _ (Ne.symm (h.far i hi))).trans h.top, fun a ha => ?_, h.far, h.inj, h.base⟩
  by_cases e : a = i
  · subst e
    rw [hs_same _ (h.row a ha), List.setIfInBounds_toArray, rowV_set]
    congr 3
    apply rowV_ext
    intro b _
    unfold upd2
    by_cases e : b = j
    · rw [if_pos e, if_pos ⟨rfl, e⟩]
    · rw [if_neg e, if_neg (fun g => e g.2)]
  · rw [heap_setCell_other _ _ _ _ (fun g => e (h.inj a i ha hi g)), h.row a ha]
    congr 3
    unfold upd2
    apply rowV_ext
    intro b _
    rw [if_neg (fun g => e g.1)]
theorem MatP.new (w : World) (n : Nat) (rs : Nat → Nat) (f : Mx) : MatP w.heap.size (w.alloc (.cells (madeCells #[.slice none 0 0] n) 53)) w.heap.size n 0 rs f := by
  refine ⟨?_, fun i hi => absurd hi (Nat.not_lt_zero _), fun i hi => absurd hi (Nat.not_lt_zero _), fun i _ hi => absurd hi (Nat.not_lt_zero _), Nat.le_refl _, fun i hi => absurd hi (Nat.not_lt_zero _)⟩
  rw [heap_new, made_row]
  rfl
/-- one row more. -/
theorem MatP.more (h : MatP B wx db n m rs f) (hB : B ≤ wx.heap.size) {W : World} (h1 : W.heap[db]? = some (.cells ((rowV n (rowS n m rs)).toArray.setIfInBounds m (.slice (some ⟨wx.heap.size, 0, none⟩) n n)) 53)) (h2 : W.heap[wx.heap.size]? = some (.cells (madeCells #[.int .u64 0] n) 47)) (h3 : ∀ k, k < wx.heap.size → k ≠ db → W.heap[k]? = wx.heap[k]?) : MatP B W db n (m + 1) (fun i => if i = m then wx.heap.size else rs i) (fun i j => if i = m then 0 else f i j) := by
  refine ⟨?_, fun i hi => ?_, fun i hi => ?_, fun i j hi hj e => ?_, h.base.1, fun i hi => ?_⟩
  · rw [h1, List.setIfInBounds_toArray, rowV_set]
    congr 3
    apply rowV_ext
    intro i _
    unfold rowS
    by_cases e : i = m
    · rw [if_pos e, if_pos (by omega)]
      simp [e]
    · rw [if_neg e]
      by_cases g : i < m
      · rw [if_pos g, if_pos (by omega)]
        simp [e]
      · rw [if_neg g, if_neg (by omega)]
  · by_cases e : i = m
    · simp only [if_pos e]
      rw [h2, made_row]
    · simp only [if_neg e]
      have hl := lt_of_get (h.row i (by omega))
      rw [h3 _ hl (h.far i (by omega))]
      exact h.row i (by omega)
  · by_cases e : i = m
    · simp only [if_pos e]
      have := lt_of_get h.top
      omega
    · simp only [if_neg e]
      exact h.far i (by omega)
  · by_cases e1 : i = m
    · by_cases e2 : j = m
      · omega
      · simp only [if_pos e1, if_neg e2] at e
        have := lt_of_get (h.row j (by omega))
        omega
    · by_cases e2 : j = m
      · simp only [if_pos e2, if_neg e1] at e
        have := lt_of_get (h.row i (by omega))
        omega
      · simp only [if_neg e1, if_neg e2] at e
        exact h.inj i j (by omega) (by omega) e
  · by_cases e : i = m
    · simp only [if_pos e]; exact hB
    · simp only [if_neg e]; exact h.base.2 i (by omega)
end
end Go.Proofs.YtbkclhaonbjobaaGreat.Dt

namespace Go.Proofs.YtbkclhaonbjobaaGreat.Wt
open Go.RowKit

section
variable {g : Dt.Mx} {zs : List (Int × Int × Int)}
/-- numbers as they stand behind so many phases. -/
def OkD (m : Nat) (g : Dt.Mx) : Prop := ∀ i j, g i j = 18446744073709551615 ∨ (0 ≤ g i j ∧ g i j ≤ 140737488355328 * (2 ^ m : Nat))
theorem pow_small {m : Nat} (h : m ≤ 12) : 2 ^ m ≤ 4096 := Nat.pow_le_pow_right (by omega) h
theorem ph_is {m : Nat} (h : OkD m g) (hm : m ≤ 12) (k i j : Nat) : Dt.ph g k i j = if g i k ≠ 18446744073709551615 ∧ g k j ≠ 18446744073709551615 then min (g i j) (g i k + g k j) else g i j := by
  have hp := pow_small hm
  generalize hP : 2 ^ m = P at hp
  have h1 := h i k
  have h2 := h k j
  rw [hP] at h1 h2
  unfold Dt.ph Dt.far
  split
  · rename_i hc
    rw [Dt.wrap_self (by omega) (by unfold Dt.far; omega)]
  · rfl
theorem ph_ok {m : Nat} (h : OkD m g) (hm : m ≤ 12) (k : Nat) : OkD (m + 1) (Dt.ph g k) := fun i j => by
  have hp := pow_small hm
  rw [ph_is h hm]
  have h1 := h i k
  have h2 := h k j
  have h3 := h i j
  rw [show (2 ^ (m + 1) : Nat) = 2 * 2 ^ m by rw [Nat.pow_succ]; omega]
  generalize 2 ^ m = P at *
  split
  · omega
  · omega
theorem ph_le {m : Nat} (h : OkD m g) (hm : m ≤ 12) (k i j : Nat) : Dt.ph g k i j ≤ g i j := by
  rw [ph_is h hm]
  split
  · omega
  · omega
theorem ph_by {m : Nat} (h : OkD m g) (hm : m ≤ 12) (k i j : Nat) (h1 : g i k ≠ 18446744073709551615) (h2 : g k j ≠ 18446744073709551615) : Dt.ph g k i j ≤ g i k + g k j := by
  rw [ph_is h hm, if_pos ⟨h1, h2⟩]
  omega
theorem ph_or {m : Nat} (h : OkD m g) (hm : m ≤ 12) (k i j : Nat) : Dt.ph g k i j = g i j ∨ (g i k ≠ 18446744073709551615 ∧ g k j ≠ 18446744073709551615 ∧ Dt.ph g k i j = g i k + g k j) := by
  rw [ph_is h hm]
  split
  · rename_i hc
    rcases Int.le_total (g i j) (g i k + g k j) with hl | hl
    · exact Or.inl (Int.min_eq_left hl)
    · exact Or.inr ⟨hc.1, hc.2, Int.min_eq_right hl⟩
  · exact Or.inl rfl
/-- no shorter way by a node below. -/
def Clo (g : Dt.Mx) (k : Nat) : Prop := ∀ i j m, m < k → g i m ≠ 18446744073709551615 → g m j ≠ 18446744073709551615 → g i j ≤ g i m + g m j
theorem clo_ph {q k : Nat} (hG : Dt.Good g) (ho : OkD q g) (hq : q ≤ 12) (hc : Clo g k) : Clo (Dt.ph g k) (k + 1) := fun i j m hm h1 h2 => by
  have hp := pow_small hq
  have hP : ∀ a b, g a b ≠ 18446744073709551615 → 0 ≤ g a b ∧ g a b ≤ 140737488355328 * 4096 := fun a b hab => by
    have := ho a b
    generalize 2 ^ q = P at *
    omega
  by_cases hmk : m = k
  · subst hmk
    rw [Dt.ph_col hG] at h1 ⊢
    rw [Dt.ph_row hG] at h2 ⊢
    exact ph_by ho hq m i j h1 h2
  · have hmk' : m < k := by omega
    have hle := ph_le ho hq k i j
    rcases ph_or ho hq k i m with e1 | ⟨a1, a2, e1⟩ <;> rcases ph_or ho hq k m j with e2 | ⟨b1, b2, e2⟩
    · rw [e1] at h1
      rw [e2] at h2
      have := hc i j m hmk' h1 h2
      omega
    · rw [e1] at h1
      have c := hc i k m hmk' h1 b1
      have p1 := hP _ _ h1
      have p2 := hP _ _ b1
      have := ph_by ho hq k i j (by omega) b2
      omega
    · rw [e2] at h2
      have c := hc k j m hmk' a2 h2
      have p1 := hP _ _ a2
      have p2 := hP _ _ h2
      have := ph_by ho hq k i j a1 (by omega)
      omega
    · have p1 := hP _ _ a2
      have p2 := hP _ _ b1
      have := ph_by ho hq k i j a1 b2
      omega
/-- what is told is reached. -/
def Snd (zs : List (Int × Int × Int)) (g : Dt.Mx) : Prop := ∀ i j : Nat, g i j ≠ 18446744073709551615 → Reach zs (i : Int) (j : Int) (g i j)
theorem rcomp {i k d : Int} (h1 : Reach zs i k d) : ∀ (m : Nat) (j e : Int), ReachN zs k m j e → Reach zs i j (d + e)
  | 0, j, e, ⟨h2, h3⟩ => by
    subst h2
    subst h3
    rwa [Int.add_zero]
  | m + 1, j, e, ⟨u, x, r, h2, h3, h4⟩ => by
    obtain ⟨q, hq⟩ := rcomp h1 m u x h2
    exact ⟨q + 1, u, d + x, r, hq, h3, by omega⟩
theorem snd_ph {q k : Nat} (ho : OkD q g) (hq : q ≤ 12) (hs : Snd zs g) : Snd zs (Dt.ph g k) := fun i j h => by
  rcases ph_or ho hq k i j with e | ⟨h1, h2, e⟩
  · rw [e] at h ⊢
    exact hs i j h
  · rw [e]
    obtain ⟨m, hm⟩ := hs k j h2
    exact rcomp (hs i k h1) m _ _ hm
theorem phases (hG : Dt.Good g) (ho : OkD 0 g) (hs : Snd zs g) : ∀ k, k ≤ 12 → Dt.Good (Dt.phs g k) ∧ OkD k (Dt.phs g k) ∧ Snd zs (Dt.phs g k) ∧ Clo (Dt.phs g k) k ∧ ∀ i j, Dt.phs g k i j ≤ g i j
  | 0, _ => ⟨hG, ho, hs, fun i j m hm => by omega, fun i j => Int.le_refl _⟩
  | k + 1, hk => by
    obtain ⟨g1, g2, g3, g4, g5⟩ := phases hG ho hs k (by omega)
    exact ⟨Dt.ph_good g1 k, ph_ok g2 (by omega) k, snd_ph g2 (by omega) g3, clo_ph g1 g2 (by omega) g4, fun i j => Int.le_trans (ph_le g2 (by omega) k i j) (g5 i j)⟩
theorem ini_ok {al : Nat → Bool} (h : Dt.Fine al zs) : OkD 0 (Dt.ini al zs) := fun i j => by
  rcases Dt.fold_or zs (Dt.f00 al) i j with e | ⟨a, ha, _, _, e⟩
  · unfold Dt.ini
    rw [e]
    unfold Dt.f00 Dt.far
    split
    · exact Or.inr ⟨Int.le_refl _, by omega⟩
    · exact Or.inl rfl
  · unfold Dt.ini
    rw [e]
    have := h a ha
    exact Or.inr ⟨this.2.2.1, by omega⟩
theorem ini_snd {al : Nat → Bool} (h : Dt.Fine al zs) : Snd zs (Dt.ini al zs) := fun i j hne => by
  rcases Dt.fold_or zs (Dt.f00 al) i j with e | ⟨a, ha, h1, h2, e⟩
  · unfold Dt.ini at hne ⊢
    rw [e] at hne ⊢
    unfold Dt.f00 Dt.far at hne ⊢
    split
    · rename_i hij
      obtain ⟨hij, _⟩ := hij
      subst hij
      exact ⟨0, rfl, rfl⟩
    · rename_i hij
      rw [if_neg hij] at hne
      exact absurd rfl hne
  · unfold Dt.ini
    rw [e]
    obtain ⟨a0, a1, a2⟩ := a
    have hf := h _ ha
    simp only at h1 h2 hf
    refine ⟨1, (i : Int), 0, a2, ⟨rfl, rfl⟩, ?_, by simp⟩
    rw [show (i : Int) = a0 by omega, show (j : Int) = a1 by omega]
    exact ha
/-- the matrix tells the distances from who is alive. -/
theorem dist_is {n : Nat} {al : Nat → Bool} (hf : Dt.Fine al zs) (hen : ∀ a ∈ zs, a.1 < (n : Int) ∧ a.2.1 < (n : Int)) (hn : n ≤ 12) {i j : Nat} (hi : i < n) (hal : al i = true) : (Dt.dist n al zs i j = 18446744073709551615 ∧ ∀ e, ¬ Reach zs (i : Int) (j : Int) e) ∨ (0 ≤ Dt.dist n al zs i j ∧ Dt.dist n al zs i j ≤ 9223372036854775808 ∧ Reach zs (i : Int) (j : Int) (Dt.dist n al zs i j) ∧ ∀ e, Reach zs (i : Int) (j : Int) e → Dt.dist n al zs i j ≤ e) := by
  obtain ⟨g1, g2, g3, g4, g5⟩ := phases (Dt.ini_good hf) (ini_ok hf) (ini_snd hf) n hn
  have hii : Dt.phs (Dt.ini al zs) n i i ≤ 0 := by
    refine Int.le_trans (g5 i i) (Int.le_trans (Dt.fold_le zs (Dt.f00 al) i i) ?_)
    unfold Dt.f00
    rw [if_pos ⟨rfl, hal⟩]
    exact Int.le_refl _
  have hlow : ∀ (m : Nat) (v d : Int), ReachN zs (i : Int) m v d → 0 ≤ v ∧ v < (n : Int) ∧ Dt.dist n al zs i v.toNat ≤ d ∧ Dt.dist n al zs i v.toNat ≠ 18446744073709551615 := by
    intro m
    induction m with
    | zero =>
      rintro v d ⟨rfl, rfl⟩
      rw [Int.toNat_natCast]
      unfold Dt.dist
      exact ⟨by omega, by omega, by omega, by omega⟩
    | succ m ih =>
      rintro v d ⟨u, e, r, h1, h2, h3⟩
      obtain ⟨q1, q2, q3, q4⟩ := ih u e h1
      have hen := hen _ h2
      have hf2 := hf _ h2
      simp only at hen hf2
      have ha := Int.le_trans (g5 u.toNat v.toNat) (Dt.fold_arc zs (Dt.f00 al) (u, v, r) h2)
      simp only at ha
      have hb : Dt.phs (Dt.ini al zs) n u.toNat v.toNat ≠ 18446744073709551615 := by omega
      have hc := g4 i v.toNat u.toNat (by omega) q4 hb
      have p := g2 i v.toNat
      have p1 := g2 i u.toNat
      have hp := pow_small hn
      unfold Dt.dist at q3 q4 ⊢
      generalize 2 ^ n = P at *
      exact ⟨by omega, by omega, by omega, by omega⟩
  by_cases hne : Dt.phs (Dt.ini al zs) n i j = 18446744073709551615
  · refine Or.inl ⟨hne, fun e ⟨m, hm⟩ => ?_⟩
    have h := (hlow m _ _ hm).2.2.2
    rw [Int.toNat_natCast] at h
    exact h hne
  · have p := g2 i j
    have hp := pow_small hn
    refine Or.inr ⟨?_, ?_, g3 i j hne, fun e ⟨m, hm⟩ => ?_⟩
    · unfold Dt.dist
      generalize 2 ^ n = P at *
      omega
    · unfold Dt.dist
      generalize 2 ^ n = P at *
      omega
    · have h := (hlow m _ _ hm).2.2.1
      rw [Int.toNat_natCast] at h
      exact h
end
end Go.Proofs.YtbkclhaonbjobaaGreat.Wt
