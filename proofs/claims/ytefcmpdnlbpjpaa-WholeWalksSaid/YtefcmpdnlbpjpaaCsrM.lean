/- The arrays of a normal list of arcs: plain mathematics. -/
import Derived.Test.YtefcmpdnlbpjpaaNoX
namespace Go.Proofs.Ytefcmpdnlbpjpaa
open Go.RowKit

/-- how many arcs come from nodes below v. -/
def firstAt (zs : List (Int × Int × Int)) (v : Nat) : Nat := zs.countP fun a => decide (a.1 < (v : Int))
/-- a normal list of a right graph. -/
structure Fine (n : Nat) (zs : List (Int × Int × Int)) : Prop where
  rise : RiseA zs
  ends : ∀ a ∈ zs, 0 ≤ a.1 ∧ a.1 < (n : Int) ∧ 0 ≤ a.2.1 ∧ a.2.1 < (n : Int) ∧ a.1 ≠ a.2.1 ∧ 0 ≤ a.2.2 ∧ a.2.2 ≤ 2147483647
  few : n ≤ 65536
  short : zs.length ≤ 262144
def firsts (n : Nat) (zs : List (Int × Int × Int)) : List Int := (List.range (n + 1)).map fun v => (firstAt zs v : Int)
def tos (zs : List (Int × Int × Int)) : List Int := zs.map (·.2.1)
def weights (zs : List (Int × Int × Int)) : List Int := zs.map (·.2.2)
theorem firsts_len (n : Nat) (zs : List (Int × Int × Int)) : (firsts n zs).length = n + 1 := by simp [firsts]
theorem firsts_at {n : Nat} (zs : List (Int × Int × Int)) {v : Nat} (h : v ≤ n) : (firsts n zs)[v]? = some (firstAt zs v : Int) := by
  unfold firsts
  rw [List.getElem?_map, List.getElem?_range (by omega)]
  rfl
theorem tos_len (zs : List (Int × Int × Int)) : (tos zs).length = zs.length := by simp [tos]
theorem weights_len (zs : List (Int × Int × Int)) : (weights zs).length = zs.length := by simp [weights]
theorem tos_at {zs : List (Int × Int × Int)} {i : Nat} {a : Int × Int × Int} (h : zs[i]? = some a) : (tos zs)[i]? = some a.2.1 := by simp [tos, h]
theorem weights_at {zs : List (Int × Int × Int)} {i : Nat} {a : Int × Int × Int} (h : zs[i]? = some a) : (weights zs)[i]? = some a.2.2 := by simp [weights, h]

theorem firstAt_le (zs : List (Int × Int × Int)) (v : Nat) : firstAt zs v ≤ zs.length := List.countP_le_length
theorem firstAt_mono (zs : List (Int × Int × Int)) {v u : Nat} (h : v ≤ u) : firstAt zs v ≤ firstAt zs u := by
  unfold firstAt
  refine List.countP_mono_left fun a _ ha => ?_
  simp only [decide_eq_true_eq] at *
  omega
theorem Fine.zero {n : Nat} {zs : List (Int × Int × Int)} (h : Fine n zs) : firstAt zs 0 = 0 := by
  unfold firstAt
  rw [List.countP_eq_zero]
  intro a ha
  have := (h.ends a ha).1
  simp only [decide_eq_true_eq]
  omega
theorem Fine.top {n : Nat} {zs : List (Int × Int × Int)} (h : Fine n zs) : firstAt zs n = zs.length := by
  unfold firstAt
  rw [List.countP_eq_length]
  intro a ha
  have := (h.ends a ha).2.1
  simp only [decide_eq_true_eq]
  omega
/-- in a list that rises those from below v are its head. -/
theorem firstAt_lt : ∀ {zs : List (Int × Int × Int)}, RiseA zs → ∀ {i : Nat} {a : Int × Int × Int}, zs[i]? = some a → ∀ v : Nat, (i < firstAt zs v ↔ a.1 < (v : Int))
  | [], _, _, _, h, _ => by cases h
  | b :: r, hr, i, a, h, v => by
    obtain ⟨h1, h2⟩ := List.pairwise_cons.1 hr
    by_cases hb : b.1 < (v : Int)
    · have e : firstAt (b :: r) v = firstAt r v + 1 := by
        unfold firstAt
        rw [List.countP_cons_of_pos (by simpa using hb)]
      rw [e]
      cases i with
      | zero => cases h; simp [hb]
      | succ i =>
        have ih := firstAt_lt h2 (i := i) (a := a) h v
        rw [← ih]
        omega
    · have e : firstAt (b :: r) v = 0 := by
        unfold firstAt
        rw [List.countP_eq_zero]
        intro c hc
        simp only [decide_eq_true_eq]
        rcases List.mem_cons.1 hc with rfl | hc
        · exact hb
        · have := h1 c hc
          unfold lessA at this
          omega
      rw [e]
      have hab : b.1 ≤ a.1 := by
        cases i with
        | zero => cases h; exact Int.le_refl _
        | succ i =>
          have := h1 a (List.mem_of_getElem? h)
          unfold lessA at this
          omega
      omega
theorem Fine.row {n : Nat} {zs : List (Int × Int × Int)} (h : Fine n zs) {i v : Nat} {a : Int × Int × Int} (ha : zs[i]? = some a) (h1 : firstAt zs v ≤ i) (h2 : i < firstAt zs (v + 1)) : a.1 = (v : Int) := by
  have g1 := firstAt_lt h.rise ha v
  have g2 := firstAt_lt h.rise ha (v + 1)
  have g3 := g2.1 h2
  have g4 : ¬ a.1 < (v : Int) := fun e => by have := g1.2 e; omega
  omega
theorem rise_at {zs : List (Int × Int × Int)} (h : RiseA zs) {i j : Nat} {a b : Int × Int × Int} (ha : zs[i]? = some a) (hb : zs[j]? = some b) (hij : i < j) : lessA a b := by
  obtain ⟨h1, rfl⟩ := List.getElem?_eq_some_iff.1 ha
  obtain ⟨h2, rfl⟩ := List.getElem?_eq_some_iff.1 hb
  exact List.pairwise_iff_getElem.1 h i j h1 h2 hij
theorem Fine.row_rise {n : Nat} {zs : List (Int × Int × Int)} (h : Fine n zs) {i v : Nat} {a b : Int × Int × Int} (hb : zs[i]? = some b) (ha : zs[i + 1]? = some a) (h1 : firstAt zs v ≤ i) (h2 : i + 1 < firstAt zs (v + 1)) : b.2.1 < a.2.1 := by
  have e1 := h.row hb h1 (by omega)
  have e2 := h.row ha (by omega) h2
  have := rise_at h.rise hb ha (by omega)
  unfold lessA at this
  omega
theorem Fine.at {n : Nat} {zs : List (Int × Int × Int)} (h : Fine n zs) {i : Nat} {a : Int × Int × Int} (ha : zs[i]? = some a) : 0 ≤ a.1 ∧ a.1 < (n : Int) ∧ 0 ≤ a.2.1 ∧ a.2.1 < (n : Int) ∧ a.1 ≠ a.2.1 ∧ 0 ≤ a.2.2 ∧ a.2.2 ≤ 2147483647 := h.ends a (List.mem_of_getElem? ha)
theorem fine_norm {n : Nat} {xs : List (Int × Int × Int)} (h : graphErr (n : Int) xs = (0, [])) : Fine n (normA xs) := by
  obtain ⟨h1, h2⟩ := (good_iff _ _).1 (good_norm h)
  refine ⟨(normA_norm xs).rise, fun a ha => ?_, by omega, by omega⟩
  have h3 := h2 a ha
  have h4 := (norm_sub ha).2
  unfold arcBad at h3
  split at h3
  · cases h3
  · split at h3
    · cases h3
    · refine ⟨?_, ?_, ?_, ?_, h4, ?_, ?_⟩ <;> omega
theorem good_nat {N : Int} {xs : List (Int × Int × Int)} (h : graphErr N xs = (0, [])) : ∃ n : Nat, N = (n : Int) := ⟨N.toNat, by have := ((good_iff _ _).1 h).1; omega⟩
/-- how many arcs come from u. -/
def fromAt (zs : List (Int × Int × Int)) (u : Nat) : Nat := zs.countP fun a => decide (a.1 = (u : Int))
theorem firstAt_succ (zs : List (Int × Int × Int)) (u : Nat) : firstAt zs (u + 1) = firstAt zs u + fromAt zs u := by
  unfold firstAt fromAt
  induction zs with
  | nil => rfl
  | cons a r ih =>
    simp only [List.countP_cons, ih]
    by_cases h1 : a.1 < (u : Int)
    · have h2 : a.1 < ((u + 1 : Nat) : Int) := by omega
      have h3 : ¬ a.1 = (u : Int) := by omega
      rw [decide_eq_true h1, decide_eq_true h2, decide_eq_false h3, if_pos rfl, if_neg (by decide)]
      omega
    · by_cases h3 : a.1 = (u : Int)
      · have h2 : a.1 < ((u + 1 : Nat) : Int) := by omega
        rw [decide_eq_false h1, decide_eq_true h2, decide_eq_true h3, if_pos rfl, if_neg (by decide)]
        omega
      · have h2 : ¬ a.1 < ((u + 1 : Nat) : Int) := by omega
        rw [decide_eq_false h1, decide_eq_false h2, decide_eq_false h3, if_neg (by decide)]
        omega
theorem fromAt_next {zs : List (Int × Int × Int)} {k : Nat} {a : Int × Int × Int} (h : zs[k]? = some a) (u : Nat) : fromAt (zs.take (k + 1)) u = fromAt (zs.take k) u + (if a.1 = (u : Int) then 1 else 0) := by
  unfold fromAt
  rw [List.take_add_one, h, List.countP_append]
  simp only [Option.toList_some, List.countP_cons, List.countP_nil, Nat.zero_add]
  by_cases e : a.1 = (u : Int) <;> simp [e]
theorem fromAt_le (zs : List (Int × Int × Int)) (u : Nat) : fromAt zs u ≤ zs.length := List.countP_le_length
end Go.Proofs.Ytefcmpdnlbpjpaa
