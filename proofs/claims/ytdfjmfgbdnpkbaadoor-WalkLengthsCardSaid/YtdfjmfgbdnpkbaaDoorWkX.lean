/- What is simple: it begins and ends as the list, goes by its neighbours, is a walk where the list is one, and no longer. -/
import Derived.Test.YtdfjmfgbdnpkbaaDoorWkQ
namespace Go.Proofs.YtdfjmfgbdnpkbaaDoor

theorem walk_take {zs : List (Int × Int × Int)} {xs ws : List Int} (h : WalkIs zs xs ws) {i : Nat} (hi : i + 1 ≤ xs.length) : WalkIs zs (xs.take (i + 1)) (ws.take i) := by
  obtain ⟨h1, h2⟩ := h
  refine ⟨by rw [List.length_take, List.length_take]; omega, fun j r hj => ?_⟩
  rw [List.getElem?_take] at hj
  split at hj
  · obtain ⟨v, u, g1, g2, g3⟩ := h2 j r hj
    exact ⟨v, u, by rw [List.getElem?_take, if_pos (by omega)]; exact g1, by rw [List.getElem?_take, if_pos (by omega)]; exact g2, g3⟩
  · cases hj
theorem walk_snoc {zs : List (Int × Int × Int)} {S ws : List Int} {v u r : Int} (h : WalkIs zs S ws) (hv : S[S.length - 1]? = some v) (hr : (v, u, r) ∈ zs) : WalkIs zs (S ++ [u]) (ws ++ [r]) := by
  obtain ⟨h1, h2⟩ := h
  refine ⟨by simp; omega, fun j x hj => ?_⟩
  rcases Nat.lt_or_ge j ws.length with hl | hl
  · rw [List.getElem?_append_left hl] at hj
    obtain ⟨a, b, g1, g2, g3⟩ := h2 j x hj
    have l2 := (List.getElem?_eq_some_iff.1 g2).1
    exact ⟨a, b, by rw [List.getElem?_append_left (by omega)]; exact g1, by rw [List.getElem?_append_left l2]; exact g2, g3⟩
  · have l1 := (List.getElem?_eq_some_iff.1 hj).1
    simp at l1
    obtain rfl : j = ws.length := by omega
    rw [List.getElem?_append_right (Nat.le_refl _), Nat.sub_self] at hj
    obtain rfl : r = x := by simpa using hj
    refine ⟨v, u, ?_, ?_, hr⟩
    · rw [List.getElem?_append_left (by omega), show ws.length = S.length - 1 by omega]; exact hv
    · rw [List.getElem?_append_right (by omega), show ws.length + 1 - S.length = 0 by omega]; rfl
theorem sum_take_le : ∀ {l : List Int}, (∀ r ∈ l, 0 ≤ r) → ∀ i, (l.take i).sum ≤ l.sum ∧ 0 ≤ l.sum
  | [], _, i => by simp
  | a :: t, h, 0 => by
    have := (sum_take_le (l := t) (fun r hr => h r (List.mem_cons_of_mem _ hr)) 0).2
    have h0 := h a (by simp)
    simp only [List.take_zero, List.sum_nil, List.sum_cons]
    omega
  | a :: t, h, i + 1 => by
    have := sum_take_le (l := t) (fun r hr => h r (List.mem_cons_of_mem _ hr)) i
    have h0 := h a (by simp)
    simp only [List.take_succ_cons, List.sum_cons]
    omega
/-- neighbours of a list. -/
def Near (xs : List Int) (a b : Int) : Prop := ∃ j, xs[j]? = some a ∧ xs[j + 1]? = some b
structure SimpI (zs : List (Int × Int × Int)) (xs : List Int) (m : Nat) (S : List Int) : Prop where
  pos : 0 < S.length
  head : S[0]? = xs[0]?
  last : S[S.length - 1]? = xs[m]?
  near : ∀ i a b, S[i]? = some a → S[i + 1]? = some b → Near xs a b
  len : ∀ ws, WalkIs zs (xs.take (m + 1)) ws → (∀ r ∈ ws, 0 ≤ r) → ∃ ws', WalkIs zs S ws' ∧ ws'.sum ≤ ws.sum ∧ ∀ r ∈ ws', 0 ≤ r
theorem SimpI.next {zs : List (Int × Int × Int)} {xs S : List Int} {m : Nat} (h : SimpI zs xs m S) {a : Int} (ha : xs[m + 1]? = some a) : SimpI zs xs (m + 1) (stepS S a) := by
  have hal := (List.getElem?_eq_some_iff.1 ha).1
  have hp := h.pos
  have hwcut : ∀ ws, WalkIs zs (xs.take (m + 1 + 1)) ws → WalkIs zs (xs.take (m + 1)) (ws.take m) ∧ ∃ r v, ws = ws.take m ++ [r] ∧ xs[m]? = some v ∧ (v, a, r) ∈ zs := fun ws hw => by
    have h1 := walk_take hw (i := m) (by rw [List.length_take]; omega)
    rw [List.take_take, Nat.min_eq_left (by omega)] at h1
    have hl := hw.1
    rw [List.length_take] at hl
    obtain ⟨r, hr⟩ : ∃ r, ws[m]? = some r := ⟨ws[m], List.getElem?_eq_getElem (by omega)⟩
    obtain ⟨v, u, g1, g2, g3⟩ := hw.2 m r hr
    rw [List.getElem?_take, if_pos (by omega)] at g1 g2
    rw [ha] at g2
    obtain rfl := Option.some.inj g2
    refine ⟨h1, r, v, ?_, g1, g3⟩
    rw [← take_snoc hr, List.take_of_length_le (by omega)]
  unfold stepS
  by_cases hm : a ∈ S
  · rw [if_pos hm]
    have hi := List.idxOf_lt_length_iff.2 hm
    have hia : S[S.idxOf a]? = some a := by rw [List.getElem?_eq_getElem hi]; simp
    generalize S.idxOf a = i at hi hia
    have hl : (S.take (i + 1)).length = i + 1 := by rw [List.length_take]; omega
    refine ⟨by omega, by rw [List.getElem?_take, if_pos (by omega)]; exact h.head, ?_, fun j x y hx hy => ?_, fun ws hw h0 => ?_⟩
    · rw [hl, Nat.add_sub_cancel, List.getElem?_take, if_pos (by omega), hia, ha]
    · rw [List.getElem?_take] at hx hy
      split at hx
      · split at hy
        · exact h.near j x y hx hy
        · cases hy
      · cases hx
    · obtain ⟨h1, r, v, h2, _, _⟩ := hwcut ws hw
      have h0' : ∀ r ∈ ws.take m, 0 ≤ r := fun r hr => h0 r (List.mem_of_mem_take hr)
      obtain ⟨ws', g1, g2, g3⟩ := h.len _ h1 h0'
      refine ⟨ws'.take i, walk_take g1 (by omega), ?_, fun r hr => g3 r (List.mem_of_mem_take hr)⟩
      have e1 := (sum_take_le g3 i).1
      have e2 := (sum_take_le h0 m).1
      omega
  · rw [if_neg hm]
    refine ⟨by simp, by rw [List.getElem?_append_left hp]; exact h.head, ?_, fun j x y hx hy => ?_, fun ws hw h0 => ?_⟩
    · rw [List.length_append, List.length_singleton, Nat.add_sub_cancel, List.getElem?_append_right (Nat.le_refl _), Nat.sub_self, ha]
      rfl
    · rcases Nat.lt_or_ge (j + 1) S.length with hl | hl
      · rw [List.getElem?_append_left (by omega)] at hx
        rw [List.getElem?_append_left hl] at hy
        exact h.near j x y hx hy
      · have l1 := (List.getElem?_eq_some_iff.1 hy).1
        simp at l1
        rw [List.getElem?_append_left (by omega), show j = S.length - 1 by omega, h.last] at hx
        rw [List.getElem?_append_right (by omega), show j + 1 - S.length = 0 by omega] at hy
        obtain rfl : a = y := by simpa using hy
        exact ⟨m, hx, ha⟩
    · obtain ⟨h1, r, v, h2, h3, h4⟩ := hwcut ws hw
      have h0' : ∀ r ∈ ws.take m, 0 ≤ r := fun r hr => h0 r (List.mem_of_mem_take hr)
      obtain ⟨ws', g1, g2, g3⟩ := h.len _ h1 h0'
      have hr0 : 0 ≤ r := h0 r (by rw [h2]; simp)
      refine ⟨ws' ++ [r], walk_snoc g1 (h.last.trans h3) h4, ?_, fun x hx => ?_⟩
      · rw [h2, List.sum_append, List.sum_append]
        omega
      · rcases List.mem_append.1 hx with hx | hx
        · exact g3 x hx
        · simp at hx
          subst hx
          exact hr0
theorem simp_first {xs : List Int} {x : Int} (h : xs[0]? = some x) : simpS (xs.take 1) = [x] := by
  rw [take_snoc h]
  simp [simpS, stepS]
theorem simp_inv (zs : List (Int × Int × Int)) (xs : List Int) : ∀ m, m < xs.length → SimpI zs xs m (simpS (xs.take (m + 1)))
  | 0, hm => by
    have hx : xs[0]? = some xs[0] := List.getElem?_eq_getElem hm
    rw [simp_first hx]
    refine ⟨by simp, by rw [hx]; rfl, by rw [hx]; rfl, fun i a b _ h => by simp at h, fun ws hw h0 => ⟨[], ⟨rfl, fun i r h => by simp at h⟩, (sum_take_le h0 0).2, fun r h => by cases h⟩⟩
  | m + 1, hm => by
    have hx : xs[m + 1]? = some xs[m + 1] := List.getElem?_eq_getElem hm
    rw [simpS_snoc hx]
    exact (simp_inv zs xs m (by omega)).next hx
theorem simp_all (zs : List (Int × Int × Int)) {xs : List Int} (h : xs ≠ []) : SimpI zs xs (xs.length - 1) (simpS xs) := by
  have hp := List.length_pos_iff.2 h
  have := simp_inv zs xs (xs.length - 1) (by omega)
  rw [show xs.length - 1 + 1 = xs.length by omega, List.take_length] at this
  exact this
theorem simp_self {s : List Int} (h : s.Nodup) : ∀ k, k ≤ s.length → simpS (s.take k) = s.take k
  | 0, _ => by simp [simpS]
  | k + 1, hk => by
    have hx : s[k]? = some s[k] := List.getElem?_eq_getElem hk
    rw [simpS_snoc hx, simp_self h k (by omega), take_snoc hx]
    unfold stepS
    rw [if_neg]
    intro hm
    obtain ⟨j, hj⟩ := List.getElem?_of_mem hm
    rw [List.getElem?_take] at hj
    split at hj
    · rename_i hjk
      have := (List.getElem?_inj (List.getElem?_eq_some_iff.1 hj).1 h).1 (hj.trans hx.symm)
      omega
    · cases hj
theorem simp_simp (xs : List Int) : simpS (simpS xs) = simpS xs := by
  have := simp_self (simpS_nodup xs) (simpS xs).length (Nat.le_refl _)
  rwa [List.take_length] at this
theorem nodup_at {s : List Int} (h : s.Nodup) {i j : Nat} {a b : Int} (hi : s[i]? = some a) (hj : s[j]? = some b) (hij : i < j) : ¬ a = b := fun e => by
  subst e
  have := (List.getElem?_inj (List.getElem?_eq_some_iff.1 hi).1 h).1 (hi.trans hj.symm)
  omega
/-- the lengths of a list and of what is simple of it. -/
theorem simp_len {n : Nat} {zs : List (Int × Int × Int)} (hz : Fine n zs) {xs ws : List Int} (hn : Nodes n xs) (h0 : xs ≠ []) (hw : WalkIs zs xs ws) : Nodes n (simpS xs) ∧ simpS xs ≠ [] ∧ ∃ ws', WalkIs zs (simpS xs) ws' ∧ ws'.sum ≤ ws.sum := by
  have h := simp_all zs h0
  have hp := List.length_pos_iff.2 h0
  have hr : ∀ r ∈ ws, 0 ≤ r := fun r hr => by
    obtain ⟨i, hi⟩ := List.getElem?_of_mem hr
    obtain ⟨v, u, _, _, h3⟩ := hw.2 i r hi
    exact (hz.ends _ h3).2.2.2.2.2.1
  obtain ⟨ws', g1, g2, _⟩ := h.len ws (by rw [show xs.length - 1 + 1 = xs.length by omega, List.take_length]; exact hw) hr
  exact ⟨fun v hv => hn v (simpS_mem hv), List.length_pos_iff.1 h.pos, ws', g1, g2⟩
end Go.Proofs.YtdfjmfgbdnpkbaaDoor
