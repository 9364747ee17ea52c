/- a list of arcs, mended at its first bad arc; an own row of arcs, an arc of it laid as nothing. -/
import Derived.Test.YthgmhhlgjooeaaaGreatDoorTwiceM
import Derived.Test.YthgmhhlgjooeaaaGreatDoorRefTwin
namespace Go.Proofs.YthgmhhlgjooeaaaGreatDoor
open Go.RowKit Go.Extern

theorem firstBad_is (N : Int) : ∀ (xs : List (Int × Int × Int)) (i j : Nat) (c : Int), firstBad N xs i = some (j, c) → ∃ m, j = i + m ∧ m < xs.length ∧ (c = 7 ∨ c = 8) ∧ ∀ k a, k < m → xs[k]? = some a → arcBad N a = 0
  | [], i, j, c, h => by cases h
  | a :: r, i, j, c, h => by
    rw [firstBad] at h
    split at h
    · rename_i h0
      obtain ⟨m, rfl, hm, hc, hg⟩ := firstBad_is N r (i + 1) j c h
      refine ⟨m + 1, by omega, by simpa using hm, hc, fun k b hk hb => ?_⟩
      rcases k with _ | k
      · simp at hb
        subst hb
        exact h0
      · exact hg k b (by omega) (by simpa using hb)
    · rename_i h0
      injection h with h
      injection h with h1 h2
      subst h1
      subst h2
      refine ⟨0, by omega, by simp, ?_, fun k b hk _ => by omega⟩
      rcases arcBad_or N a with e | e | e
      · exact absurd e h0
      · exact Or.inl e
      · exact Or.inr e
theorem arc_nil {N : Int} (h : 1 ≤ N) : arcBad N (0, 0, 0) = 0 := by
  unfold arcBad
  rw [if_neg (by simp; omega), if_neg (by simp)]
/-- what Check says of a list: too wide, its first bad arc, or nothing. -/
theorem graph_cases (N : Int) (ys : List (Int × Int × Int)) (hl : ys.length ≤ 262144) : ((N < 0 ∨ 65536 < N) ∧ graphErr N ys = (9, [])) ∨ (¬ (N < 0 ∨ 65536 < N) ∧ graphErr N ys = (0, [])) ∨
    (¬ (N < 0 ∨ 65536 < N) ∧ ∃ (i : Nat) (c : Int), graphErr N ys = (c, [(4, (i : Int))]) ∧ i < ys.length ∧ (c = 7 ∨ c = 8) ∧ (∀ k a, k < i → ys[k]? = some a → arcBad N a = 0) ∧ (N = 0 → c = 7) ∧ ∃ a, ys[i]? = some a ∧ arcBad N a ≠ 0) := by
  by_cases h : N < 0 ∨ 65536 < N
  · refine Or.inl ⟨h, ?_⟩
    unfold graphErr
    rw [if_pos (by rcases h with h | h; exact Or.inl h; exact Or.inr (Or.inl h))]
  · have hg : graphErr N ys = match firstBad N ys 0 with
        | none => (0, [])
        | some (i, c) => (c, [(4, (i : Int))]) := by
      unfold graphErr
      rw [if_neg (by omega)]
      rfl
    cases e : firstBad N ys 0 with
    | none => rw [e] at hg; exact Or.inr (Or.inl ⟨h, hg⟩)
    | some p =>
      obtain ⟨j, c⟩ := p
      rw [e] at hg
      obtain ⟨m, rfl, hm, hc, hb⟩ := firstBad_is N ys 0 j c e
      have ea : ∃ a, ys[m]? = some a := ⟨_, List.getElem?_eq_getElem hm⟩
      obtain ⟨a, ha⟩ := ea
      have hs := firstBad_skip N m ys 0 (by omega) hb
      rw [e] at hs
      obtain ⟨hlt, hget⟩ := List.getElem?_eq_some_iff.1 ha
      have hd : ys.drop m = a :: ys.drop (m + 1) := by rw [List.drop_eq_getElem_cons hlt, hget]
      rw [hd, firstBad] at hs
      have hne : arcBad N a ≠ 0 := fun h0 => by
        rw [if_pos h0] at hs
        obtain ⟨m', e', _⟩ := firstBad_is N _ _ _ _ hs.symm
        omega
      rw [if_neg hne] at hs
      have hcc : c = arcBad N a := by
        injection hs with hs
        exact congrArg Prod.snd hs
      refine Or.inr (Or.inr ⟨h, m, c, ?_, hm, hc, hb, fun h0 => ?_, a, ha, hne⟩)
      · rw [hg]; simp
      · rw [hcc, h0]
        unfold arcBad
        rw [if_pos (by omega)]
/-- the law's loop: k rounds, the last bad arc, the arcs as they are. -/
structure Mend (N : Int) (xs : List (Int × Int × Int)) (k : Nat) (l : Int) (ys : List (Int × Int × Int)) : Prop where
  len : ys.length = xs.length
  start : k = 0 → l = -1 ∧ ys = xs
  later : 0 < k → 0 ≤ l ∧ 1 ≤ N ∧ N ≤ 65536
  step : (k : Int) - 1 ≤ l
  good : ∀ (j : Nat) a, (j : Int) ≤ l → ys[j]? = some a → arcBad N a = 0
  up : l < xs.length
theorem Mend.new (N : Int) (xs : List (Int × Int × Int)) : Mend N xs 0 (-1) xs := ⟨rfl, fun _ => ⟨rfl, rfl⟩, fun h => by omega, by omega, fun j a h => by omega, by omega⟩
theorem Mend.few {N : Int} {xs ys : List (Int × Int × Int)} {k : Nat} {l : Int} (h : Mend N xs k l ys) : k ≤ xs.length := by
  have := h.step
  have := h.up
  omega
theorem Mend.above {N : Int} {xs ys : List (Int × Int × Int)} {k : Nat} {l : Int} (h : Mend N xs k l ys) {i : Nat} {a : Int × Int × Int} (ha : ys[i]? = some a) (hb : arcBad N a ≠ 0) : l < i := by
  rcases Int.lt_or_le l i with h1 | h1
  · exact h1
  · exact absurd (h.good i a h1 ha) hb
theorem Mend.next {N : Int} {xs ys : List (Int × Int × Int)} {k : Nat} {l : Int} (h : Mend N xs k l ys) (hN : 1 ≤ N ∧ N ≤ 65536) {i : Nat} (hi : i < ys.length) (hb : ∀ k a, k < i → ys[k]? = some a → arcBad N a = 0) (hl : l < i) : Mend N xs (k + 1) i (ys.set i (0, 0, 0)) := by
  refine ⟨by rw [List.length_set]; exact h.len, fun e => by omega, fun _ => ⟨by omega, hN⟩, by have := h.step; omega, fun j a hj ha => ?_, by have := h.len; omega⟩
  rcases Nat.lt_or_ge j i with h1 | h1
  · rw [List.getElem?_set_ne (by omega)] at ha
    exact hb j a h1 ha
  · have e : j = i := by omega
    subst e
    rw [List.getElem?_set_self hi] at ha
    injection ha with ha
    subst ha
    exact arc_nil hN.1
theorem flat_set : ∀ (ys : List (Int × Int × Int)) (i : Nat), (((flatA ys).set (i * 3) (.int .i64 0)).set (i * 3 + 1) (.int .i64 0)).set (i * 3 + 2) (.int .i64 0) = flatA (ys.set i (0, 0, 0))
  | [], i => by simp [flatA]
  | a :: r, 0 => by simp [flatA, encA]
  | a :: r, i + 1 => by
    have h := flat_set r i
    have e : flatA (a :: r) = .int .i64 a.1 :: .int .i64 a.2.1 :: .int .i64 a.2.2 :: flatA r := by simp [flatA, encA]
    have e' : flatA ((a :: r).set (i + 1) (0, 0, 0)) = .int .i64 a.1 :: .int .i64 a.2.1 :: .int .i64 a.2.2 :: flatA (r.set i (0, 0, 0)) := by simp [flatA, encA]
    rw [e, e', ← h, show (i + 1) * 3 = i * 3 + 1 + 1 + 1 by omega, show i * 3 + 1 + 1 + 1 + 1 = (i * 3 + 1) + 1 + 1 + 1 by omega, show i * 3 + 1 + 1 + 1 + 2 = (i * 3 + 2) + 1 + 1 + 1 by omega]
    simp only [List.set_cons_succ]
theorem own_set {w : World} {B g cap i : Nat} {ys : List (Int × Int × Int)} (h : w.ownsRow B 50 3 (.slice (some ⟨g, 0, none⟩) ys.length cap) ys.length (flatA ys)) :
    (((w.setCell ⟨g, i * 3, none⟩ (.int .i64 0)).setCell ⟨g, i * 3 + 1, none⟩ (.int .i64 0)).setCell ⟨g, i * 3 + 2, none⟩ (.int .i64 0)).ownsRow B 50 3 (.slice (some ⟨g, 0, none⟩) ys.length cap) ys.length (flatA (ys.set i (0, 0, 0))) := by
  obtain ⟨h1, h2⟩ := h
  refine ⟨?_, ?_⟩
  · rw [← flat_set, List.length_set, List.length_set, List.length_set]
    exact h1
  · rcases h2 with ⟨e, _⟩ | ⟨g', cap', cur, e, hB, hh, hn, hc, hs, ht⟩
    · injection e with e1; cases e1
    · injection e with e1 e2 e3
      injection e1 with e1
      injection e1 with e1
      subst e1
      subst e3
      refine Or.inr ⟨g, cap, ((cur.setIfInBounds (i * 3) (.int .i64 0)).setIfInBounds (i * 3 + 1) (.int .i64 0)).setIfInBounds (i * 3 + 2) (.int .i64 0), rfl, hB, ?_, hn, hc, by simp [hs], ?_⟩
      · exact Go.heap_setCell_same _ _ _ _ _ _ (Go.heap_setCell_same _ _ _ _ _ _ (Go.heap_setCell_same _ _ _ _ _ _ hh))
      · rw [Array.toList_setIfInBounds, Array.toList_setIfInBounds, Array.toList_setIfInBounds, List.take_set, List.take_set, List.take_set, ht]
        exact flat_set ys i
end Go.Proofs.YthgmhhlgjooeaaaGreatDoor
