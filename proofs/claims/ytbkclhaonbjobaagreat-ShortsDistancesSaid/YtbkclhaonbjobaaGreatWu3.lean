/- An overlay as the search sees it: its rows, their arcs without a node. -/
import Derived.Test.YtbkclhaonbjobaaGreatQjX
import Derived.Test.YtbkclhaonbjobaaGreatQeX
namespace Go.Proofs.YtbkclhaonbjobaaGreat.Wt
open Go Go.RowKit Go.Extern

/-- a row's arcs without a node. -/
def rowZ (rowv : Nat → List (Int × Int × Int)) (skip : Int) (v : Nat) : List (Int × Int × Int) := ((rowv v).filter fun a => a.1 != skip).map fun a => ((v : Int), a.1, a.2.1)
/-- the arcs of rows without a node. -/
def rowsZ (rowv : Nat → List (Int × Int × Int)) (skip : Int) : Nat → List (Int × Int × Int)
  | 0 => []
  | n + 1 => rowsZ rowv skip n ++ rowZ rowv skip n
/-- rows that rise, of right ends. -/
structure RowsW (n : Nat) (rowv : Nat → List (Int × Int × Int)) : Prop where
  rise : ∀ v, v < n → (rowv v).Pairwise fun a b => a.1 < b.1
  ends : ∀ v, v < n → ∀ a ∈ rowv v, 0 ≤ a.1 ∧ a.1 < (n : Int) ∧ a.1 ≠ (v : Int) ∧ 0 ≤ a.2.1 ∧ a.2.1 ≤ 140737488355328
section
variable {rowv : Nat → List (Int × Int × Int)} {skip : Int}
theorem rowZ_mem {v : Nat} {a : Int × Int × Int} (h : a ∈ rowZ rowv skip v) : a.1 = (v : Int) ∧ ∃ b ∈ rowv v, a.2.1 = b.1 ∧ a.2.2 = b.2.1 ∧ b.1 ≠ skip := by
  unfold rowZ at h
  obtain ⟨b, hb, rfl⟩ := List.mem_map.1 h
  obtain ⟨h1, h2⟩ := List.mem_filter.1 hb
  exact ⟨rfl, b, h1, rfl, rfl, by simpa using h2⟩
theorem rowsZ_mem : ∀ {n : Nat} {a : Int × Int × Int}, a ∈ rowsZ rowv skip n → ∃ v, v < n ∧ a ∈ rowZ rowv skip v
  | 0, a, h => by cases h
  | n + 1, a, h => by
    rcases List.mem_append.1 h with h | h
    · obtain ⟨v, h1, h2⟩ := rowsZ_mem h
      exact ⟨v, by omega, h2⟩
    · exact ⟨n, by omega, h⟩
theorem rowsZ_in {v : Nat} {a : Int × Int × Int} (h : a ∈ rowZ rowv skip v) : ∀ {n : Nat}, v < n → a ∈ rowsZ rowv skip n
  | 0, h1 => by omega
  | n + 1, h1 => by
    rcases (show v < n ∨ v = n by omega) with h2 | rfl
    · exact List.mem_append_left _ (rowsZ_in h h2)
    · exact List.mem_append_right _ h
theorem rowsZ_rise {m : Nat} (h : RowsW m rowv) : ∀ {n : Nat}, n ≤ m → RiseA (rowsZ rowv skip n)
  | 0, _ => List.Pairwise.nil
  | n + 1, hn => by
    refine List.pairwise_append.2 ⟨rowsZ_rise h (by omega), ?_, fun a ha b hb => ?_⟩
    · unfold rowZ
      rw [List.pairwise_map]
      exact ((h.rise n (by omega)).filter _).imp fun hab => Or.inr ⟨rfl, hab⟩
    · obtain ⟨v, h1, h2⟩ := rowsZ_mem ha
      have e1 := (rowZ_mem h2).1
      have e2 := (rowZ_mem hb).1
      exact Or.inl (by omega)
theorem rise_few {l : List (Int × Int × Int)} {n : Nat} (hr : l.Pairwise fun a b => a.1 < b.1) (h0 : ∀ a ∈ l, 0 ≤ a.1 ∧ a.1 < (n : Int)) : l.length ≤ n := Go.Proofs.YtbkclhaonbjobaaGreat.rise_len hr h0
theorem rowsZ_len {m : Nat} (h : RowsW m rowv) : ∀ {n : Nat}, n ≤ m → (rowsZ rowv skip n).length ≤ n * m
  | 0, _ => by simp [rowsZ]
  | n + 1, hn => by
    have h1 := rowsZ_len h (show n ≤ m by omega)
    have h2 : (rowZ rowv skip n).length ≤ m := by
      unfold rowZ
      rw [List.length_map]
      exact Nat.le_trans (List.length_filter_le _ _) (rise_few (h.rise n (by omega)) fun a ha => ⟨(h.ends n (by omega) a ha).1, (h.ends n (by omega) a ha).2.1⟩)
    have h3 : (n + 1) * m = n * m + m := Nat.succ_mul n m
    unfold rowsZ
    rw [List.length_append]
    omega
theorem rowsZ_fine {n : Nat} (h : RowsW n rowv) (hn : n ≤ 512) : Fine n (rowsZ rowv skip n) := by
  refine ⟨rowsZ_rise h (Nat.le_refl _), fun a ha => ?_, by omega, ?_⟩
  · obtain ⟨v, h1, h2⟩ := rowsZ_mem ha
    obtain ⟨e1, b, hb, e2, e3, _⟩ := rowZ_mem h2
    have h3 := h.ends v h1 b hb
    rw [e1, e2, e3]
    refine ⟨by omega, by omega, h3.1, h3.2.1, fun e => h3.2.2.1 e.symm, h3.2.2.2⟩
  · have h1 := rowsZ_len (skip := skip) h (Nat.le_refl n)
    have h2 : n * n ≤ 512 * 512 := Nat.mul_le_mul hn hn
    omega
theorem rowsZ_pre : ∀ {n m : Nat}, m ≤ n → ∃ r, rowsZ rowv skip n = rowsZ rowv skip m ++ r
  | 0, m, h => by obtain rfl : m = 0 := by omega
                  exact ⟨[], rfl⟩
  | n + 1, m, h => by
    rcases (show m ≤ n ∨ m = n + 1 by omega) with h1 | rfl
    · obtain ⟨r, hr⟩ := rowsZ_pre h1
      exact ⟨r ++ rowZ rowv skip n, by show rowsZ rowv skip n ++ _ = _; rw [hr, List.append_assoc]⟩
    · exact ⟨[], by rw [List.append_nil]⟩
theorem rowsZ_first (v : Nat) : ∀ k : Nat, firstAt (rowsZ rowv skip (v + k)) v = (rowsZ rowv skip v).length
  | 0 => by
    unfold firstAt
    rw [Nat.add_zero, List.countP_eq_length]
    intro a ha
    obtain ⟨u, h1, h2⟩ := rowsZ_mem ha
    have e1 := (rowZ_mem h2).1
    simp only [decide_eq_true_eq]
    omega
  | k + 1 => by
    have ih := rowsZ_first v k
    unfold firstAt at ih ⊢
    show List.countP _ (rowsZ rowv skip (v + k) ++ rowZ rowv skip (v + k)) = _
    rw [List.countP_append, ih, show List.countP (fun a : Int × Int × Int => decide (a.1 < (v : Int))) (rowZ rowv skip (v + k)) = 0 from ?_, Nat.add_zero]
    rw [List.countP_eq_zero]
    intro a ha
    have e1 := (rowZ_mem ha).1
    simp only [decide_eq_true_eq]
    omega
theorem rowsZ_row {n v : Nat} (h : v < n) : arcRow (rowsZ rowv skip n) (firstAt (rowsZ rowv skip n) v) (firstAt (rowsZ rowv skip n) (v + 1)) = rowZ rowv skip v := by
  have e1 := rowsZ_first (rowv := rowv) (skip := skip) v (n - v)
  have e2 := rowsZ_first (rowv := rowv) (skip := skip) (v + 1) (n - (v + 1))
  rw [show v + (n - v) = n by omega] at e1
  rw [show v + 1 + (n - (v + 1)) = n by omega] at e2
  obtain ⟨r, hr⟩ := rowsZ_pre (rowv := rowv) (skip := skip) (show v + 1 ≤ n by omega)
  unfold arcRow
  rw [e1, e2, hr, List.take_left' rfl]
  show List.drop _ (rowsZ rowv skip v ++ rowZ rowv skip v) = _
  rw [List.drop_left' rfl]
end
/-- the living halves that leave a node. -/
def rowW (n : Nat) (bs : List Bool) (R : Bool → Nat → Rw) (v : Nat) : List (Int × Int × Int) := if aliveB n bs (v : Int) then livH bs (R false v).2.1 else []
/-- no weight is above a bound. -/
def WtB (n : Nat) (R : Bool → Nat → Rw) : Prop := ∀ s v, v < n → ∀ a ∈ (R s v).2.1, 0 ≤ a.2.1 ∧ a.2.1 ≤ 140737488355328
section
variable {PX : Nat → Option Obj} {w w' : World} {B0 pb n : Nat} {bs : List Bool} {R : Bool → Nat → Rw} {nodes arcs : Int}
theorem rowW_mem {v : Nat} {a : Int × Int × Int} (h : a ∈ rowW n bs R v) : a ∈ (R false v).2.1 ∧ aliveB n bs (v : Int) = true := by
  unfold rowW at h
  split at h
  · rename_i e
    exact ⟨(List.mem_filter.1 h).1, e⟩
  · cases h
end
end Go.Proofs.YtbkclhaonbjobaaGreat.Wt
