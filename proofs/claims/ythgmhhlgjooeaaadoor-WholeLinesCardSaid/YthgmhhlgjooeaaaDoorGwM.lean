/- a text with lines of remarks ahead of it: plain mathematics. -/
import Derived.Test.YthgmhhlgjooeaaaDoorGtK
namespace Go.Proofs.YthgmhhlgjooeaaaDoor.Gt
open Go Go.Lib

/-- k lines of remarks. -/
def remL : Nat → By
  | 0 => []
  | k + 1 => 35 :: 32 :: 10 :: remL k
theorem remL_len : ∀ k, (remL k).length = 3 * k
  | 0 => rfl
  | k + 1 => by rw [remL, List.length_cons, List.length_cons, List.length_cons, remL_len k]; omega
theorem remL_more : ∀ k, remL (k + 1) = remL k ++ [35, 32, 10]
  | 0 => rfl
  | k + 1 => by
    show 35 :: 32 :: 10 :: remL (k + 1) = (35 :: 32 :: 10 :: remL k) ++ [35, 32, 10]
    rw [remL_more k]
    rfl
/-- rows, their lines moved. -/
def shR (k : Nat) (R : List Row) : List Row := R.map fun r => (r.1 + k, r.2)
theorem shR_append (k : Nat) (a b : List Row) : shR k (a ++ b) = shR k a ++ shR k b := by simp [shR]
theorem shR_len (k : Nat) (R : List Row) : (shR k R).length = R.length := by simp [shR]
theorem shR_get (k : Nat) (R : List Row) (j : Nat) : (shR k R)[j]? = R[j]?.map fun r => (r.1 + k, r.2) := by simp [shR]
theorem rows_rem : ∀ (k n : Nat) (l : By) (acc : List Row), rowsF (remL k ++ l).length n (remL k ++ l) acc = rowsF l.length (n + k) l acc
  | 0, n, l, acc => rfl
  | k + 1, n, l, acc => by
    have e : remL (k + 1) ++ l = 35 :: 32 :: 10 :: (remL k ++ l) := rfl
    have e1 : lineOf (35 :: 32 :: 10 :: (remL k ++ l)) = [35, 32] := rfl
    have e2 : restOf (35 :: 32 :: 10 :: (remL k ++ l)) = remL k ++ l := rfl
    have e3 : wordsOf [35, 32] = [] := by decide
    have e4 : rightL [35, 32] = true := by decide
    rw [e, rows_step (by simp) (by rw [e1]; decide) (by rw [e1]; exact e4), e1, e2, if_pos e3, rows_rem k (n + 1) l acc, show n + 1 + k = n + (k + 1) by omega]
theorem rows_sh (k : Nat) : ∀ (f n : Nat) (l : By) (acc : List Row), (rowsF f (n + k) l (shR k acc)).1.1 = (rowsF f n l acc).1.1 ∧ ((rowsF f n l acc).1.1 ≠ 0 → (rowsF f (n + k) l (shR k acc)).1.2 = (rowsF f n l acc).1.2 + k) ∧ (rowsF f (n + k) l (shR k acc)).2 = shR k (rowsF f n l acc).2
  | 0, n, l, acc => ⟨rfl, fun h => absurd rfl h, rfl⟩
  | f + 1, n, l, acc => by
    unfold rowsF
    split
    · exact ⟨rfl, fun h => absurd rfl h, rfl⟩
    · split
      · exact ⟨rfl, fun _ => rfl, rfl⟩
      · split
        · exact ⟨rfl, fun _ => rfl, rfl⟩
        · have e : (if wordsOf (lineOf l) = [] then shR k acc else shR k acc ++ [(n + k, wordsOf (lineOf l))]) = shR k (if wordsOf (lineOf l) = [] then acc else acc ++ [(n, wordsOf (lineOf l))]) := by
            split
            · rfl
            · rw [shR_append]; rfl
          rw [e, show n + k + 1 = (n + 1) + k by omega]
          exact rows_sh k f (n + 1) (restOf l) _
theorem rE_sh (k : Nat) (R : List Row) (j : Nat) (word : By) (B : List (Nat × Int)) : rE (shR k R) j word B = rE R j word B := by
  unfold rE
  rw [shR_get]
  cases R[j]? <;> rfl
theorem wdK_sh (k : Nat) (R : List Row) (j i : Nat) : wdK (shR k R) j i = wdK R j i := by
  unfold wdK
  rw [List.getD_eq_getElem?_getD (l := shR k R), List.getD_eq_getElem?_getD (l := R), shR_get]
  cases R[j]? <;> rfl
theorem lnK_sh (k : Nat) (R : List Row) {j : Nat} (h : j < R.length) : lnK (shR k R) (j + 1) = lnK R (j + 1) + k := by
  have e : R[j]? = some R[j] := List.getElem?_eq_getElem h
  rw [lnK, lnK, List.getD_eq_getElem?_getD, List.getD_eq_getElem?_getD, shR_get, e]
  rfl
theorem lnE_sh (k : Nat) (R : List Row) {j : Nat} (h : j ≤ R.length) (h0 : R ≠ []) : lnE (shR k R) j = lnE R j + k := by
  unfold lnE
  rw [shR_len]
  split
  · exact lnK_sh k R (by assumption)
  · have hl := List.length_pos_iff.2 h0
    obtain ⟨i, rfl⟩ : ∃ i, j = i + 1 := ⟨j - 1, by omega⟩
    exact lnK_sh k R (by omega)
theorem rE_in {R : List Row} {j : Nat} {word : By} {B : List (Nat × Int)} (h : rE R j word B = 0) : j < R.length := by
  unfold rE at h
  cases e : R[j]? with
  | none => rw [e] at h; cases h
  | some r => exact (List.getElem?_eq_some_iff.1 e).1
theorem gF_sh (s : Nat) (R : List Row) (h0 : R ≠ []) (N : Nat) : ∀ (m j : Nat) (acc : List Arc3), j ≤ R.length → (gF (shR s R) N m j acc).1.1 = (gF R N m j acc).1.1 ∧ ((gF R N m j acc).1.1 ≠ 0 → (gF (shR s R) N m j acc).1.2 = (gF R N m j acc).1.2 + s) ∧ (gF (shR s R) N m j acc).2 = (gF R N m j acc).2
  | 0, j, acc, hj => by
    rw [gF, gF, rE_sh, shR_len]
    split
    · exact ⟨rfl, fun _ => lnE_sh s R hj h0, rfl⟩
    · split
      · rename_i h2
        exact ⟨rfl, fun _ => lnK_sh s R h2, rfl⟩
      · exact ⟨rfl, fun h => absurd rfl h, rfl⟩
  | m + 1, j, acc, hj => by
    have ea : arcK (shR s R) j = arcK R j := by unfold arcK; rw [wdK_sh, wdK_sh, wdK_sh]
    rw [gF, gF, rE_sh, ea]
    split
    · exact ⟨rfl, fun _ => lnE_sh s R hj h0, rfl⟩
    · rename_i h1
      have := rE_in (R := R) (j := j) (word := awd) (B := bA N) (by omega)
      exact gF_sh s R h0 N m (j + 1) _ (by omega)
theorem gR_sh (s : Nat) (R : List Row) (h0 : R ≠ []) : (gR (shR s R)).1.1 = (gR R).1.1 ∧ ((gR R).1.1 ≠ 0 → (gR (shR s R)).1.2 = (gR R).1.2 + s) ∧ (gR (shR s R)).2 = (gR R).2 := by
  unfold gR
  rw [rE_sh, wdK_sh, wdK_sh]
  have hl := List.length_pos_iff.2 h0
  split
  · exact ⟨rfl, fun _ => lnE_sh s R (Nat.zero_le _) h0, rfl⟩
  · obtain ⟨e1, e2, e3⟩ := gF_sh s R h0 (val (wdK R 0 1)) (val (wdK R 0 2)) 1 [] hl
    rw [e1, e3]
    split
    · exact ⟨rfl, fun h => absurd rfl h, rfl⟩
    · rename_i h
      exact ⟨e1, fun _ => e2 h, rfl⟩
theorem rows_pos : ∀ (f n : Nat) (l : By) (acc : List Row), 1 ≤ n → (∀ r ∈ acc, 1 ≤ r.1) → (∀ r ∈ (rowsF f n l acc).2, 1 ≤ r.1) ∧ ((rowsF f n l acc).1.1 ≠ 0 → 1 ≤ (rowsF f n l acc).1.2)
  | 0, n, l, acc, _, h => ⟨h, fun q => absurd rfl q⟩
  | f + 1, n, l, acc, hn, h => by
    unfold rowsF
    split
    · exact ⟨h, fun q => absurd rfl q⟩
    · split
      · exact ⟨by simp, fun _ => hn⟩
      · split
        · exact ⟨by simp, fun _ => hn⟩
        · refine rows_pos f (n + 1) (restOf l) _ (by omega) fun r hr => ?_
          split at hr
          · exact h r hr
          · rcases List.mem_append.1 hr with hr | hr
            · exact h r hr
            · simp at hr; subst hr; exact hn
theorem lnK_pos {R : List Row} (h : ∀ r ∈ R, 1 ≤ r.1) {j : Nat} (hj : j < R.length) : 1 ≤ lnK R (j + 1) := by
  have e : R[j]? = some R[j] := List.getElem?_eq_getElem hj
  rw [lnK, List.getD_eq_getElem?_getD, e]
  exact h _ (List.getElem_mem hj)
theorem lnE_pos {R : List Row} (h : ∀ r ∈ R, 1 ≤ r.1) (h0 : R ≠ []) {j : Nat} (hj : j ≤ R.length) : 1 ≤ lnE R j := by
  unfold lnE
  split
  · exact lnK_pos h (by assumption)
  · have hl := List.length_pos_iff.2 h0
    obtain ⟨i, rfl⟩ : ∃ i, j = i + 1 := ⟨j - 1, by omega⟩
    exact lnK_pos h (by omega)
theorem gF_pos {R : List Row} (h : ∀ r ∈ R, 1 ≤ r.1) (h0 : R ≠ []) (N : Nat) : ∀ (m j : Nat) (acc : List Arc3), j ≤ R.length → (gF R N m j acc).1.1 ≠ 0 → 1 ≤ (gF R N m j acc).1.2
  | 0, j, acc, hj, hq => by
    rw [gF] at hq ⊢
    split at hq
    · rename_i h1
      rw [if_pos h1]
      exact lnE_pos h h0 hj
    · rename_i h1
      split at hq
      · rename_i h2
        rw [if_neg h1, if_pos h2]
        exact lnK_pos h h2
      · exact absurd rfl hq
  | m + 1, j, acc, hj, hq => by
    rw [gF] at hq ⊢
    split at hq
    · rename_i h1
      rw [if_pos h1]
      exact lnE_pos h h0 hj
    · rename_i h1
      rw [if_neg h1]
      have := rE_in (R := R) (j := j) (word := awd) (B := bA N) (by omega)
      exact gF_pos h h0 N m (j + 1) _ (by omega) hq
theorem gR_pos {R : List Row} (h : ∀ r ∈ R, 1 ≤ r.1) (h0 : R ≠ []) (hq : (gR R).1.1 ≠ 0) : 1 ≤ (gR R).1.2 := by
  have hl := List.length_pos_iff.2 h0
  unfold gR at hq ⊢
  split at hq
  · rename_i h1
    rw [if_pos h1]
    exact lnE_pos h h0 (Nat.zero_le _)
  · rename_i h1
    rw [if_neg h1]
    split at hq
    · exact absurd rfl hq
    · rename_i h2
      rw [if_neg h2]
      exact gF_pos h h0 _ _ _ _ hl h2
/-- a text with k lines of remarks ahead: the same graph; the same error, k lines further on, but where there is no row at all. -/
theorem ps_rem (k : Nat) {t : By} (ht : t.length ≤ 100000) (hk : k ≤ 255) : psG (remL k ++ t) = psG t ∧ ((psE t = (0, []) ∧ psE (remL k ++ t) = (0, [])) ∨ (∃ (c : Int) (l : Nat), c ≠ 0 ∧ 1 ≤ l ∧ psE t = (c, [(1, (l : Int))]) ∧ psE (remL k ++ t) = (c, [(1, ((l + k : Nat) : Int))])) ∨ (∃ c : Int, c ≠ 0 ∧ psE t = (c, [(1, 0)]) ∧ psE (remL k ++ t) = (c, [(1, 0)]))) := by
  have hlen : (remL k ++ t).length ≤ 1048576 := by rw [List.length_append, remL_len]; omega
  have h1 := rows_rem k 1 t []
  have h2 := rows_sh k t.length 1 t []
  have h3 := rows_pos t.length 1 t [] (Nat.le_refl _) (by simp)
  have e0 : shR k [] = [] := rfl
  rw [e0, ← h1] at h2
  obtain ⟨S, hS⟩ : ∃ S, rowsF t.length 1 t [] = S := ⟨_, rfl⟩
  obtain ⟨S2, hS2⟩ : ∃ S, rowsF (remL k ++ t).length 1 (remL k ++ t) [] = S := ⟨_, rfl⟩
  rw [hS] at h2 h3
  rw [hS2] at h2
  obtain ⟨a1, a2, a3⟩ := h2
  have hE : rowsE t = if S.1.1 = 0 then (0, []) else (S.1.1, [(1, (S.1.2 : Int))]) := by unfold rowsE; rw [if_neg (by omega), hS]
  have hE2 : rowsE (remL k ++ t) = if S2.1.1 = 0 then (0, []) else (S2.1.1, [(1, (S2.1.2 : Int))]) := by unfold rowsE; rw [if_neg (by omega), hS2]
  have hR : rowsR t = S.2 := by unfold rowsR; rw [if_neg (by omega), hS]
  have hR2 : rowsR (remL k ++ t) = shR k S.2 := by unfold rowsR; rw [if_neg (by omega), hS2, a3]
  by_cases hz : S.1.1 = 0
  · rw [if_pos hz] at hE
    rw [if_pos (by rw [a1]; exact hz)] at hE2
    have g1 : psE t = if (gR S.2).1.1 = 0 then (0, []) else ((gR S.2).1.1, [(1, ((gR S.2).1.2 : Int))]) := by unfold psE; rw [if_pos hE, hR]
    have g2 : psE (remL k ++ t) = if (gR (shR k S.2)).1.1 = 0 then (0, []) else ((gR (shR k S.2)).1.1, [(1, ((gR (shR k S.2)).1.2 : Int))]) := by unfold psE; rw [if_pos hE2, hR2]
    have g3 : psG t = (gR S.2).2 := by unfold psG; rw [if_pos hE, hR]
    have g4 : psG (remL k ++ t) = (gR (shR k S.2)).2 := by unfold psG; rw [if_pos hE2, hR2]
    by_cases hn : S.2 = []
    · rw [hn] at g1 g2 g3 g4
      have e1 : shR k [] = [] := rfl
      rw [e1] at g2 g4
      have e2 : gR [] = ((5, 0), 0, []) := by decide
      refine ⟨by rw [g3, g4], Or.inr (Or.inr ⟨5, by decide, ?_, ?_⟩)⟩
      · rw [g1, e2]; rfl
      · rw [g2, e2]; rfl
    · obtain ⟨b1, b2, b3⟩ := gR_sh k S.2 hn
      refine ⟨by rw [g3, g4, b3], ?_⟩
      by_cases hc : (gR S.2).1.1 = 0
      · rw [if_pos hc] at g1
        rw [if_pos (by rw [b1]; exact hc)] at g2
        exact Or.inl ⟨g1, g2⟩
      · rw [if_neg hc] at g1
        rw [if_neg (by rw [b1]; exact hc), b1, b2 hc] at g2
        exact Or.inr (Or.inl ⟨_, _, hc, gR_pos h3.1 hn hc, g1, g2⟩)
  · rw [if_neg hz] at hE
    rw [if_neg (by rw [a1]; exact hz), a1, a2 hz] at hE2
    have n1 : rowsE t ≠ (0, []) := by rw [hE]; simp
    have n2 : rowsE (remL k ++ t) ≠ (0, []) := by rw [hE2]; simp
    have g1 : psE t = rowsE t := by unfold psE; rw [if_neg n1]
    have g2 : psE (remL k ++ t) = rowsE (remL k ++ t) := by unfold psE; rw [if_neg n2]
    have g3 : psG t = (0, []) := by unfold psG; rw [if_neg n1]
    have g4 : psG (remL k ++ t) = (0, []) := by unfold psG; rw [if_neg n2]
    exact ⟨by rw [g3, g4], Or.inr (Or.inl ⟨_, _, hz, h3.2 hz, by rw [g1]; exact hE, by rw [g2]; exact hE2⟩)⟩
end Go.Proofs.YthgmhhlgjooeaaaDoor.Gt
