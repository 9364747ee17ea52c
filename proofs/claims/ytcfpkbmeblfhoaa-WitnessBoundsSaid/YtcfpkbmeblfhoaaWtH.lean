/- A binary heap as a function of places: what up and down make of it. -/
import Derived.Test.YtcfpkbmeblfhoaaWtA
namespace Go.Proofs.Ytcfpkbmeblfhoaa.Wt

theorem ltT_no {x y z : Th} (h : ¬ ltT x y) (g : ¬ ltT y z) : ¬ ltT x z := by unfold ltT at *; omega
theorem ltT_as {x y : Th} (h : ltT x y) : ¬ ltT y x := by unfold ltT at *; omega
theorem ltT_self (x : Th) : ¬ ltT x x := by unfold ltT; omega
instance (x y : Th) : Decidable (ltT x y) := by unfold ltT; infer_instance

def par (k : Nat) : Nat := (k - 1) / 2
def swp (q : Nat → Th) (i j : Nat) : Nat → Th := fun k => if k = j then q i else if k = i then q j else q k
def HeapF (n : Nat) (q : Nat → Th) : Prop := ∀ k, 0 < k → k < n → ¬ ltT (q k) (q (par k))
/-- all but the place j. -/
def HeapUp (n : Nat) (q : Nat → Th) (j : Nat) : Prop := (∀ k, 0 < k → k < n → k ≠ j → ¬ ltT (q k) (q (par k))) ∧ (∀ k, 0 < k → k < n → par k = j → 0 < j → ¬ ltT (q k) (q (par j)))
/-- all but what hangs on i. -/
def HeapDn (n : Nat) (q : Nat → Th) (i : Nat) : Prop := (∀ k, 0 < k → k < n → par k ≠ i → ¬ ltT (q k) (q (par k))) ∧ (∀ k, 0 < k → k < n → par k = i → 0 < i → ¬ ltT (q k) (q (par i)))
theorem par_lt {k : Nat} (h : 0 < k) : par k < k := by unfold par; omega
theorem swp_j (q : Nat → Th) (i j : Nat) : swp q i j j = q i := by unfold swp; rw [if_pos rfl]
theorem swp_i (q : Nat → Th) {i j : Nat} (h : i ≠ j) : swp q i j i = q j := by unfold swp; rw [if_neg h, if_pos rfl]
theorem swp_o (q : Nat → Th) {i j k : Nat} (h1 : k ≠ i) (h2 : k ≠ j) : swp q i j k = q k := by unfold swp; rw [if_neg h2, if_neg h1]
theorem HeapUp.step {n : Nat} {q : Nat → Th} {j : Nat} (h : HeapUp n q j) (hj : 0 < j) (hl : ltT (q j) (q (par j))) : HeapUp n (swp q (par j) j) (par j) := by
  obtain ⟨h1, h2⟩ := h
  have hp := par_lt hj
  have hne : par j ≠ j := by omega
  refine ⟨fun k k0 kn ki => ?_, fun k k0 kn ki i0 => ?_⟩
  · have hk := par_lt k0
    by_cases e : k = j
    · subst e
      rw [swp_j, swp_i q hne]
      exact ltT_as hl
    · rw [swp_o q ki e]
      by_cases e2 : par k = j
      · rw [e2, swp_j]
        exact h2 k k0 kn e2 hj
      · by_cases e3 : par k = par j
        · rw [e3, swp_i q hne]
          have := h1 k k0 kn e
          rw [e3] at this
          exact ltT_no this (ltT_as hl)
        · rw [swp_o q e3 e2]
          exact h1 k k0 kn e
  · have hk := par_lt k0
    have hpi := par_lt i0
    rw [swp_o q (k := par (par j)) (by omega) (by omega)]
    by_cases e : k = j
    · subst e
      rw [swp_j]
      by_cases hin : par k < n
      · exact h1 (par k) i0 hin (by omega)
      · omega
    · rw [swp_o q (by omega) e]
      have a := h1 k k0 kn e
      rw [ki] at a
      exact ltT_no a (h1 (par j) i0 (by omega) (by omega))
theorem HeapUp.fin {n : Nat} {q : Nat → Th} {j : Nat} (h : HeapUp n q j) (hl : j = 0 ∨ ¬ ltT (q j) (q (par j))) : HeapF n q := fun k k0 kn => by
  by_cases e : k = j
  · subst e
    rcases hl with hl | hl
    · omega
    · exact hl
  · exact h.1 k k0 kn e
theorem HeapDn.step {n : Nat} {q : Nat → Th} {i j : Nat} (h : HeapDn n q i) (hj : 0 < j) (hjn : j < n) (hp : par j = i) (hl : ltT (q j) (q i)) (ho : ∀ k, 0 < k → k < n → par k = i → ¬ ltT (q k) (q j)) : HeapDn n (swp q i j) j := by
  obtain ⟨h1, h2⟩ := h
  have hpj := par_lt hj
  have hne : i ≠ j := by omega
  refine ⟨fun k k0 kn kj => ?_, fun k k0 kn kj _ => ?_⟩
  · have hk := par_lt k0
    by_cases e : k = j
    · subst e
      rw [swp_j, hp, swp_i q hne]
      exact ltT_as hl
    · by_cases e2 : par k = i
      · rw [e2, swp_i q hne, swp_o q (by omega) e]
        exact ho k k0 kn e2
      · by_cases e3 : k = i
        · subst e3
          rw [swp_i q hne, swp_o q e2 (by omega)]
          exact h2 j hj hjn hp k0
        · rw [swp_o q e3 e, swp_o q e2 kj]
          exact h1 k k0 kn e2
  · have hk := par_lt k0
    rw [swp_o q (by omega) (by omega), hp, swp_i q hne]
    have := h1 k k0 kn (by omega)
    rw [kj] at this
    exact this
theorem HeapDn.fin {n : Nat} {q : Nat → Th} {i : Nat} (h : HeapDn n q i) (ho : ∀ k, 0 < k → k < n → par k = i → ¬ ltT (q k) (q i)) : HeapF n q := fun k k0 kn => by
  by_cases e : par k = i
  · rw [e]; exact ho k k0 kn e
  · exact h.1 k k0 kn e
theorem HeapF.min {n : Nat} {q : Nat → Th} (h : HeapF n q) : ∀ k, k < n → ¬ ltT (q k) (q 0) := by
  intro k
  induction k using Nat.strongRecOn with
  | _ k ih =>
    intro kn
    by_cases e : k = 0
    · subst e; exact ltT_self _
    · have hk := par_lt (k := k) (by omega)
      exact ltT_no (h k (by omega) kn) (ih (par k) hk (by omega))
theorem par_iff {k i : Nat} (h : 0 < k) : par k = i ↔ (k = 2 * i + 1 ∨ k = 2 * i + 2) := by unfold par; omega

/-- the places of a list. -/
def plc (Q : List Th) : Nat → Th := fun k => Q.getD k (0, 0)
theorem plc_at {Q : List Th} {k : Nat} {a : Th} (h : Q[k]? = some a) : plc Q k = a := by unfold plc; rw [List.getD_eq_getElem?_getD, h]; rfl
/-- two places are swapped. -/
def swL (Q : List Th) (i j : Nat) : List Th := (Q.set i (plc Q j)).set j (plc Q i)
theorem swL_len (Q : List Th) (i j : Nat) : (swL Q i j).length = Q.length := by simp [swL]
theorem swL_plc {Q : List Th} {i j : Nat} (hi : i < Q.length) (hj : j < Q.length) : plc (swL Q i j) = swp (plc Q) i j := by
  funext k
  have e : plc (swL Q i j) k = ((swL Q i j)[k]?).getD (0, 0) := by unfold plc; rw [List.getD_eq_getElem?_getD]
  rw [e]
  unfold swL swp
  rw [List.getElem?_set, List.length_set, List.getElem?_set]
  by_cases e1 : k = j
  · subst e1; simp [hj]
  · rw [if_neg (fun h => e1 h.symm), if_neg e1]
    by_cases e2 : k = i
    · subst e2; simp [hi]
    · rw [if_neg (fun h => e2 h.symm), if_neg e2]
      unfold plc
      rw [List.getD_eq_getElem?_getD]
theorem swL_perm {Q : List Th} {i j : Nat} (hi : i < Q.length) (hj : j < Q.length) : (swL Q i j).Perm Q := by
  have e1 : plc Q j = Q[j] := plc_at (List.getElem?_eq_getElem hj)
  have e2 : plc Q i = Q[i] := plc_at (List.getElem?_eq_getElem hi)
  unfold swL
  rw [e1, e2]
  exact List.set_set_perm hi hj
/-- a thing behind a heap. -/
theorem HeapUp.push {Q : List Th} (h : HeapF Q.length (plc Q)) (a : Th) : HeapUp (Q ++ [a]).length (plc (Q ++ [a])) Q.length := by
  have e : ∀ k, k < Q.length → plc (Q ++ [a]) k = plc Q k := fun k hk => by
    unfold plc
    rw [List.getD_eq_getElem?_getD, List.getD_eq_getElem?_getD, List.getElem?_append_left hk]
  rw [List.length_append]
  refine ⟨fun k k0 kn ke => ?_, fun k k0 kn ke _ => ?_⟩
  · simp at kn
    have := par_lt k0
    rw [e k (by omega), e (par k) (by omega)]
    exact h k k0 (by omega)
  · simp at kn
    have := par_lt k0
    omega
/-- the root is taken away, the last one stands in its place. -/
theorem HeapDn.pop {Q : List Th} {m : Nat} (hm : Q.length = m + 1) (h : HeapF Q.length (plc Q)) : HeapDn m (plc (swL Q 0 m)) 0 := by
  rw [swL_plc (by omega) (by omega)]
  refine ⟨fun k k0 kn ke => ?_, fun k _ _ _ i0 => by omega⟩
  have := par_lt k0
  rw [swp_o _ (by omega) (by omega), swp_o _ (by omega) (by omega)]
  exact h k k0 (by omega)
theorem take_plc {Q : List Th} {m k : Nat} (h : k < m) : plc (Q.take m) k = plc Q k := by
  unfold plc
  rw [List.getD_eq_getElem?_getD, List.getD_eq_getElem?_getD, List.getElem?_take, if_pos h]
theorem HeapF.congr {n : Nat} {q r : Nat → Th} (h : HeapF n q) (e : ∀ k, k < n → q k = r k) : HeapF n r := fun k k0 kn => by
  have := par_lt k0
  rw [← e k kn, ← e (par k) (by omega)]
  exact h k k0 kn
end Go.Proofs.Ytcfpkbmeblfhoaa.Wt
