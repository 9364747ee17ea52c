/- The reference's distances as plain mathematics: a matrix of numbers, its first state by the arcs, a phase a middle node; turned about; by the normal graph. -/
import Derived.Test.YthgmhhlgjooeaaaGreatDoorTwiceM
namespace Go.Proofs.YthgmhhlgjooeaaaGreatDoor.Ds
open Go.RowKit

/-- a matrix. -/
abbrev Mx := Nat → Nat → Int
def far : Int := 18446744073709551615
def upd2 (f : Mx) (i j : Nat) (v : Int) : Mx := fun a b => if a = i ∧ b = j then v else f a b
theorem upd2_at (f : Mx) (i j : Nat) (v : Int) : upd2 f i j v i j = v := by simp [upd2]
/-- numbers that a matrix may hold, and noughts on the line. -/
structure Good (f : Mx) : Prop where
  lo : ∀ i j, 0 ≤ f i j
  hi : ∀ i j, f i j ≤ far
  diag : ∀ i, f i i = 0
theorem wrap_range (x : Int) : 0 ≤ IntKind.u64.wrap x ∧ IntKind.u64.wrap x ≤ far := by
  rw [IntKind.wrap_u64]
  unfold far
  omega
theorem wrap_self {x : Int} (h : 0 ≤ x) (h2 : x ≤ far) : IntKind.u64.wrap x = x := by
  unfold far at h2
  rw [IntKind.wrap_u64]
  omega
/-- one number of a phase. -/
def ph (f : Mx) (k : Nat) : Mx := fun i j => if f i k ≠ far ∧ f k j ≠ far then min (f i j) (IntKind.u64.wrap (f i k + f k j)) else f i j
theorem ph_row {f : Mx} (h : Good f) (k j : Nat) : ph f k k j = f k j := by
  unfold ph
  split
  · rw [h.diag, Int.zero_add, wrap_self (h.lo _ _) (h.hi _ _)]
    omega
  · rfl
theorem ph_col {f : Mx} (h : Good f) (k i : Nat) : ph f k i k = f i k := by
  unfold ph
  split
  · rw [h.diag, Int.add_zero, wrap_self (h.lo _ _) (h.hi _ _)]
    omega
  · rfl
theorem ph_good {f : Mx} (h : Good f) (k : Nat) : Good (ph f k) := by
  refine ⟨fun i j => ?_, fun i j => ?_, fun i => ?_⟩
  · unfold ph
    have := wrap_range (f i k + f k j)
    have := h.lo i j
    split <;> omega
  · unfold ph
    have := h.hi i j
    split <;> omega
  · unfold ph
    rw [h.diag]
    have := wrap_range (f i k + f k i)
    split <;> omega
/-- the phases. -/
def phs (f : Mx) : Nat → Mx
  | 0 => f
  | k + 1 => ph (phs f k) k
theorem phs_good {f : Mx} (h : Good f) : ∀ k, Good (phs f k)
  | 0 => h
  | k + 1 => ph_good (phs_good h k) k
def tr (f : Mx) : Mx := fun i j => f j i
theorem ph_tr (f : Mx) (k : Nat) : ph (tr f) k = tr (ph f k) := by
  funext i j
  show (if f k i ≠ far ∧ f j k ≠ far then min (f j i) (IntKind.u64.wrap (f k i + f j k)) else f j i) = (if f j k ≠ far ∧ f k i ≠ far then min (f j i) (IntKind.u64.wrap (f j k + f k i)) else f j i)
  rw [Int.add_comm (f k i)]
  by_cases h : f k i ≠ far ∧ f j k ≠ far
  · rw [if_pos h, if_pos ⟨h.2, h.1⟩]
  · rw [if_neg h, if_neg (fun g => h ⟨g.2, g.1⟩)]
theorem phs_tr (f : Mx) : ∀ k, phs (tr f) k = tr (phs f k)
  | 0 => rfl
  | k + 1 => by
    unfold phs
    rw [phs_tr f k, ph_tr]
/-- a phase under way: what is done of it. -/
def part (f : Mx) (k i j : Nat) : Mx := fun a b => if a < i ∨ (a = i ∧ b < j) then ph f k a b else f a b
theorem part_row {f : Mx} (h : Good f) (k i j b : Nat) : part f k i j k b = f k b := by
  unfold part
  split
  · exact ph_row h k b
  · rfl
theorem part_col {f : Mx} (h : Good f) (k i j a : Nat) : part f k i j a k = f a k := by
  unfold part
  split
  · exact ph_col h k a
  · rfl
theorem part_at (f : Mx) (k i j : Nat) : part f k i j i j = f i j := by
  unfold part
  rw [if_neg (by omega)]
theorem part_zero (f : Mx) (k : Nat) : part f k 0 0 = f := by
  funext a b
  unfold part
  rw [if_neg (by omega)]
theorem part_step (f : Mx) (k i j : Nat) : upd2 (part f k i j) i j (ph f k i j) = part f k i (j + 1) := by
  funext a b
  unfold upd2 part
  by_cases h : a = i ∧ b = j
  · obtain ⟨rfl, rfl⟩ := h
    rw [if_pos ⟨rfl, rfl⟩, if_pos (by omega)]
  · rw [if_neg h]
    by_cases h2 : a < i ∨ (a = i ∧ b < j)
    · rw [if_pos h2, if_pos (by omega)]
    · rw [if_neg h2, if_neg (by omega)]
theorem part_same (f : Mx) (k i j : Nat) (h : ph f k i j = f i j) : part f k i j = part f k i (j + 1) := by
  rw [← part_step]
  funext a b
  unfold upd2
  by_cases e : a = i ∧ b = j
  · obtain ⟨rfl, rfl⟩ := e
    rw [if_pos ⟨rfl, rfl⟩, part_at, h]
  · rw [if_neg e]
/-- matrices that are alike in the first n rows and columns. -/
def Alike (n : Nat) (f g : Mx) : Prop := ∀ i j, i < n → j < n → f i j = g i j
theorem Alike.refl (n : Nat) (f : Mx) : Alike n f f := fun _ _ _ _ => rfl
theorem part_line (f : Mx) (k i n : Nat) : Alike n (part f k i n) (part f k (i + 1) 0) := fun a b _ hb => by
  unfold part
  by_cases h : a < i + 1
  · rw [if_pos (by omega), if_pos (by omega)]
  · rw [if_neg (by omega), if_neg (by omega)]
theorem part_all (f : Mx) (k n : Nat) : Alike n (part f k n 0) (ph f k) := fun a b ha _ => by
  unfold part
  rw [if_pos (by omega)]
theorem Alike.trans {n : Nat} {f g h : Mx} (a : Alike n f g) (b : Alike n g h) : Alike n f h := fun i j hi hj => (a i j hi hj).trans (b i j hi hj)
theorem Alike.symm {n : Nat} {f g : Mx} (a : Alike n f g) : Alike n g f := fun i j hi hj => (a i j hi hj).symm
theorem Alike.ph {n k : Nat} {f g : Mx} (a : Alike n f g) (hk : k < n) : Alike n (ph f k) (ph g k) := fun i j hi hj => by
  unfold Go.Proofs.YthgmhhlgjooeaaaGreatDoor.Ds.ph
  rw [a i k hi hk, a k j hk hj, a i j hi hj]
theorem Alike.phs {n : Nat} {f g : Mx} (a : Alike n f g) : ∀ k, k ≤ n → Alike n (phs f k) (phs g k)
  | 0, _ => a
  | k + 1, h => (Alike.phs a k (by omega)).ph (by omega)

/-- at first. -/
def f00 : Mx := fun i j => if i = j then 0 else far
def arcF (f : Mx) (a : Int × Int × Int) : Mx := upd2 f a.1.toNat a.2.1.toNat (min (f a.1.toNat a.2.1.toNat) a.2.2)
def ini (xs : List (Int × Int × Int)) : Mx := xs.foldl arcF f00
theorem ini_snoc (xs : List (Int × Int × Int)) (a : Int × Int × Int) : ini (xs ++ [a]) = arcF (ini xs) a := by unfold ini; rw [List.foldl_append]; rfl
/-- arcs as a right graph has them. -/
def Fine (xs : List (Int × Int × Int)) : Prop := ∀ a ∈ xs, 0 ≤ a.1 ∧ 0 ≤ a.2.1 ∧ 0 ≤ a.2.2 ∧ a.2.2 ≤ 2147483647
theorem fold_le : ∀ (xs : List (Int × Int × Int)) (f : Mx) (i j : Nat), xs.foldl arcF f i j ≤ f i j
  | [], f, i, j => Int.le_refl _
  | a :: r, f, i, j => by
    refine Int.le_trans (fold_le r _ i j) ?_
    unfold arcF upd2
    split
    · rename_i h
      rw [h.1, h.2]
      exact Int.min_le_left _ _
    · exact Int.le_refl _
theorem fold_arc : ∀ (xs : List (Int × Int × Int)) (f : Mx) (a : Int × Int × Int), a ∈ xs → xs.foldl arcF f a.1.toNat a.2.1.toNat ≤ a.2.2
  | b :: r, f, a, h => by
    rcases List.mem_cons.1 h with rfl | h
    · refine Int.le_trans (fold_le r _ _ _) ?_
      unfold arcF
      rw [upd2_at]
      exact Int.min_le_right _ _
    · exact fold_arc r _ a h
theorem fold_or : ∀ (xs : List (Int × Int × Int)) (f : Mx) (i j : Nat), xs.foldl arcF f i j = f i j ∨ ∃ a ∈ xs, a.1.toNat = i ∧ a.2.1.toNat = j ∧ xs.foldl arcF f i j = a.2.2
  | [], f, i, j => Or.inl rfl
  | b :: r, f, i, j => by
    rcases fold_or r (arcF f b) i j with h | ⟨a, ha, h1, h2, h3⟩
    · rw [List.foldl_cons, h]
      unfold arcF upd2
      split
      · rename_i e
        obtain ⟨rfl, rfl⟩ := e
        rcases Int.le_total (f b.1.toNat b.2.1.toNat) b.2.2 with g | g
        · left; rw [Int.min_eq_left g]
        · right; exact ⟨b, by simp, rfl, rfl, Int.min_eq_right g⟩
      · exact Or.inl rfl
    · exact Or.inr ⟨a, by simp [ha], h1, h2, h3⟩
theorem ini_good {xs : List (Int × Int × Int)} (h : Fine xs) : Good (ini xs) := by
  have hf : ∀ i j, 0 ≤ ini xs i j := fun i j => by
    rcases fold_or xs f00 i j with e | ⟨a, ha, _, _, e⟩
    · unfold ini; rw [e]; unfold f00 far; split <;> omega
    · unfold ini; rw [e]; exact (h a ha).2.2.1
  refine ⟨hf, fun i j => Int.le_trans (fold_le xs f00 i j) (by unfold f00 far; split <;> omega), fun i => ?_⟩
  have h1 := fold_le xs f00 i i
  have h2 := hf i i
  unfold ini at *
  have e : f00 i i = 0 := by unfold f00; rw [if_pos rfl]
  omega
/-- a list's matrix is no greater, if each of its arcs is matched. -/
theorem ini_le {xs ys : List (Int × Int × Int)} (hy : Fine ys) (hx : Fine xs) (hm : ∀ a ∈ ys, a.1 ≠ a.2.1 → ∃ b ∈ xs, b.1 = a.1 ∧ b.2.1 = a.2.1 ∧ b.2.2 ≤ a.2.2) (i j : Nat) : ini xs i j ≤ ini ys i j := by
  rcases fold_or ys f00 i j with e | ⟨a, ha, h1, h2, e⟩
  · have : ini ys i j = f00 i j := e
    rw [this]
    exact fold_le xs f00 i j
  · have e' : ini ys i j = a.2.2 := e
    rw [e']
    by_cases hl : a.1 = a.2.1
    · have : i = j := by omega
      subst this
      rw [(ini_good hx).diag]
      exact (hy a ha).2.2.1
    · obtain ⟨b, hb, g1, g2, g3⟩ := hm a ha hl
      have := fold_arc xs f00 b hb
      rw [g1, g2, h1, h2] at this
      exact Int.le_trans this g3
theorem fine_sub {xs ys : List (Int × Int × Int)} (h : Fine xs) (hs : ∀ a ∈ ys, a ∈ xs) : Fine ys := fun a ha => h a (hs a ha)
theorem fine_turn {xs : List (Int × Int × Int)} (h : Fine xs) : Fine (xs.map turn) := fun a ha => by
  obtain ⟨b, hb, rfl⟩ := List.mem_map.1 ha
  obtain ⟨h1, h2, h3, h4⟩ := h b hb
  exact ⟨h2, h1, h3, h4⟩
theorem fine_good {N : Int} {xs : List (Int × Int × Int)} (h : graphErr N xs = (0, [])) : Fine xs := fun a ha => by
  have := ((good_iff N xs).1 h).2 a ha
  unfold arcBad at this
  split at this
  · cases this
  · split at this
    · cases this
    · omega
/-- the normal graph has the same first matrix. -/
theorem ini_norm {xs : List (Int × Int × Int)} (h : Fine xs) : ini xs = ini (normA xs) := by
  have hn : Fine (normA xs) := fine_sub h (fun a ha => (norm_sub ha).1)
  funext i j
  refine Int.le_antisymm (ini_le hn h (fun a ha _ => ⟨a, (norm_sub ha).1, rfl, rfl, Int.le_refl _⟩) i j) (ini_le h hn (fun a ha hl => ?_) i j)
  obtain ⟨b, hb, hs, hw⟩ := (normA_norm xs).all a (kept_mem.2 ⟨ha, hl⟩)
  exact ⟨b, hb, hs.1, hs.2, hw⟩
theorem arcF_tr (f : Mx) (a : Int × Int × Int) : arcF (tr f) (turn a) = tr (arcF f a) := by
  funext i j
  unfold arcF upd2 tr turn
  simp only
  by_cases h : i = a.2.1.toNat ∧ j = a.1.toNat
  · rw [if_pos h, if_pos ⟨h.2, h.1⟩]
  · rw [if_neg h, if_neg (fun g => h ⟨g.2, g.1⟩)]
theorem ini_tr (xs : List (Int × Int × Int)) : ini (xs.map turn) = tr (ini xs) := by
  have h : ∀ (xs : List (Int × Int × Int)) (f : Mx), (xs.map turn).foldl arcF (tr f) = tr (xs.foldl arcF f) := by
    intro xs
    induction xs with
    | nil => intro f; rfl
    | cons a r ih => intro f; rw [List.map_cons, List.foldl_cons, arcF_tr, ih, List.foldl_cons]
  have e : tr f00 = f00 := by
    funext i j
    unfold tr f00
    by_cases h : i = j
    · rw [if_pos h, if_pos h.symm]
    · rw [if_neg h, if_neg (Ne.symm h)]
  have g := h xs f00
  rw [e] at g
  exact g
/-- all distances. -/
def dist (n : Nat) (xs : List (Int × Int × Int)) : Mx := phs (ini xs) n
theorem dist_norm {n : Nat} {xs : List (Int × Int × Int)} (h : Fine xs) : dist n xs = dist n (normA xs) := by unfold dist; rw [← ini_norm h]
theorem dist_turn (n : Nat) (xs : List (Int × Int × Int)) (i j : Nat) : dist n (xs.map turn) j i = dist n xs i j := by
  unfold dist
  rw [ini_tr, phs_tr]
  rfl

/-- normal graphs of two lists together. -/
theorem norm_both (xs ys : List (Int × Int × Int)) : normA (xs ++ ys) = (normA ys).foldl putA (normA xs) := by
  refine NormOf.unique (normA_norm (xs ++ ys)) ?_
  have h := norm_fold (normA ys) (normA_norm xs)
  refine ⟨h.rise, fun x hx => ?_, fun y hy => ?_⟩
  · rcases h.of x hx with g | g
    · have := kept_mem.1 g
      exact kept_mem.2 ⟨by simp [this.1], this.2⟩
    · have := norm_sub g
      exact kept_mem.2 ⟨by simp [this.1], this.2⟩
  · obtain ⟨h1, h2⟩ := kept_mem.1 hy
    rcases List.mem_append.1 h1 with g | g
    · exact h.all y (Or.inl (kept_mem.2 ⟨g, h2⟩))
    · obtain ⟨b, hb, hs, hw⟩ := (normA_norm ys).all y (kept_mem.2 ⟨g, h2⟩)
      obtain ⟨c, hc, hs2, hw2⟩ := h.all b (Or.inr hb)
      exact ⟨c, hc, hs2.trans hs, Int.le_trans hw2 hw⟩
end Go.Proofs.YthgmhhlgjooeaaaGreatDoor.Ds
