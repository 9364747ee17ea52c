/- What walk.Simple makes of a list, and what its map knows. -/
import Derived.Maps.OwnSet
import Derived.Maps.Views
import Derived.WalkKit
namespace Go.Proofs.Ytefcmpdnlbpjpaa
open Go.Maps

/-- one number more: what stands behind it is cut off, or it comes to stand there. -/
def stepS (s : List Int) (v : Int) : List Int := if v ∈ s then s.take (s.idxOf v + 1) else s ++ [v]
def simpS (xs : List Int) : List Int := xs.foldl stepS []
theorem take_snoc {xs : List Int} {k : Nat} {a : Int} (h : xs[k]? = some a) : xs.take (k + 1) = xs.take k ++ [a] := by
  rw [List.take_add_one, h]
  rfl
theorem simpS_snoc {xs : List Int} {k : Nat} {a : Int} (h : xs[k]? = some a) : simpS (xs.take (k + 1)) = stepS (simpS (xs.take k)) a := by
  rw [take_snoc h]
  simp [simpS, List.foldl_append]
theorem stepS_nodup {s : List Int} (h : s.Nodup) (v : Int) : (stepS s v).Nodup := by
  unfold stepS
  split
  · exact h.sublist (List.take_sublist _ _)
  · rename_i hv
    rw [List.nodup_append]
    refine ⟨h, by simp, ?_⟩
    intro a ha b hb
    simp at hb
    subst hb
    exact fun e => hv (e ▸ ha)
theorem stepS_len (s : List Int) (v : Int) : (stepS s v).length ≤ s.length + 1 := by
  unfold stepS
  split
  · rw [List.length_take]; omega
  · simp
theorem simp_fold : ∀ (xs s : List Int), s.Nodup → (xs.foldl stepS s).Nodup ∧ (xs.foldl stepS s).length ≤ s.length + xs.length
  | [], s, h => ⟨h, by simp⟩
  | x :: r, s, h => by
    have ih := simp_fold r (stepS s x) (stepS_nodup h x)
    have := stepS_len s x
    refine ⟨ih.1, Nat.le_trans ih.2 ?_⟩
    simp only [List.length_cons]
    omega
theorem simpS_nodup (xs : List Int) : (simpS xs).Nodup := (simp_fold xs [] List.nodup_nil).1
theorem simpS_len (xs : List Int) : (simpS xs).length ≤ xs.length := by
  have := (simp_fold xs [] List.nodup_nil).2
  unfold simpS
  simpa using this
theorem simpS_sub : ∀ (xs s : List Int) (x : Int), x ∈ xs.foldl stepS s → x ∈ s ∨ x ∈ xs
  | [], s, x, h => Or.inl h
  | a :: r, s, x, h => by
    rcases simpS_sub r (stepS s a) x h with h1 | h1
    · unfold stepS at h1
      split at h1
      · exact Or.inl (List.mem_of_mem_take h1)
      · rcases List.mem_append.1 h1 with h2 | h2
        · exact Or.inl h2
        · simp at h2
          subst h2
          exact Or.inr (by simp)
    · exact Or.inr (by simp [h1])
theorem simpS_mem {xs : List Int} {x : Int} (h : x ∈ simpS xs) : x ∈ xs := by
  rcases simpS_sub xs [] x h with h1 | h1
  · cases h1
  · exact h1

/-- the key of a number. -/
abbrev ky (x : Int) : Lit := .int .i64 x
theorem ky_ne {x y : Int} (h : x ≠ y) : ky x ≠ ky y := fun e => h (by injection e)
theorem ky_key (x : Int) : WideAt.IsKeyLit (ky x) := trivial
/-- the map knows the numbers of A, each by its place in s. -/
structure MapIs (D : DataW Unit) (A s : List Int) : Prop where
  isMap : IsMap D
  has : ∀ x, Maps.has D (ky x) = decide (x ∈ A)
  place : ∀ (i : Nat) (x : Int), s[i]? = some x → x ∈ A → ∀ z, D.atKey (ky x) z = .lit (.int .i64 (i : Int))
theorem MapIs.nil : MapIs (.map []) [] [] := ⟨isMap_empty, fun x => by simp [Maps.has], fun i x h => by simp at h⟩
theorem MapIs.add {D : DataW Unit} {s : List Int} {v : Int} (h : MapIs D s s) (hv : v ∉ s) : MapIs (D.put (ky v) (.lit (.int .i64 (s.length : Int)))) (s ++ [v]) (s ++ [v]) := by
  refine ⟨h.isMap.put _ _, fun x => ?_, fun i x hi hx z => ?_⟩
  · by_cases e : x = v
    · subst e
      rw [has_put_same h.isMap (ky_key _)]
      simp
    · rw [has_put_other (ky_ne e), h.has]
      simp [e]
  · rcases Nat.lt_or_ge i s.length with hl | hl
    · rw [List.getElem?_append_left hl] at hi
      have hm : x ∈ s := List.mem_of_getElem? hi
      have hne : x ≠ v := fun e => hv (e ▸ hm)
      rw [atKey_put_other (ky_ne hne)]
      exact h.place i x hi hm z
    · rw [List.getElem?_append_right hl] at hi
      rcases Nat.eq_or_lt_of_le hl with e | e
      · subst e
        simp at hi
        subst hi
        exact atKey_put_same h.isMap (ky_key _) _ _
      · rw [List.getElem?_eq_none (by simp; omega)] at hi
        cases hi
theorem MapIs.drop {D : DataW Unit} {P R s : List Int} {x : Int} (h : MapIs D (P ++ x :: R) s) (hn : x ∉ P ++ R) : MapIs (D.del (ky x)) (P ++ R) s := by
  refine ⟨h.isMap.del _, fun y => ?_, fun i y hi hy z => ?_⟩
  · by_cases e : y = x
    · subst e
      rw [has_del_same]
      rw [decide_eq_false hn]
    · rw [has_del_other (ky_ne e), h.has]
      simp [e]
  · have e : y ≠ x := fun e => hn (e ▸ hy)
    rw [atKey_del_other (ky_ne e)]
    refine h.place i y hi ?_ z
    rcases List.mem_append.1 hy with h1 | h1
    · exact List.mem_append.2 (Or.inl h1)
    · exact List.mem_append.2 (Or.inr (by simp [h1]))
theorem MapIs.cut {D : DataW Unit} {s : List Int} {m : Nat} (h : MapIs D (s.take m) s) : MapIs D (s.take m) (s.take m) := by
  refine ⟨h.isMap, h.has, fun i x hi hx z => ?_⟩
  rw [List.getElem?_take] at hi
  split at hi
  · exact h.place i x hi hx z
  · cases hi
/-- the place of a number that stands there. -/
theorem MapIs.look {D : DataW Unit} {s : List Int} {v c : Int} (h : MapIs D s s) (hv : v ∈ s) (hc : D.atKey (ky v) (.lit (.int .i64 0)) = .lit (.int .i64 c)) : c = (s.idxOf v : Int) ∧ s.idxOf v < s.length := by
  have hl : s.idxOf v < s.length := List.idxOf_lt_length_of_mem hv
  have hi : s[s.idxOf v]? = some v := by rw [List.getElem?_eq_getElem hl, List.getElem_idxOf]
  rw [h.place _ v hi hv] at hc
  injection hc with e
  injection e with _ e2
  exact ⟨e2.symm, hl⟩
theorem nodup_parts {s : List Int} (h : s.Nodup) {m : Nat} {x : Int} (hx : s[m]? = some x) (p : Nat) (hp : p ≤ m) : x ∉ s.take p ++ s.drop (m + 1) := by
  intro hm
  have key : ∀ j : Nat, s[j]? = some x → j = m := fun j hj => by
    obtain ⟨hj1, hj2⟩ := List.getElem?_eq_some_iff.1 hj
    obtain ⟨hm1, hm2⟩ := List.getElem?_eq_some_iff.1 hx
    have e1 := List.Nodup.idxOf_getElem h j hj1
    have e2 := List.Nodup.idxOf_getElem h m hm1
    rw [hj2] at e1
    rw [hm2] at e2
    omega
  rcases List.mem_append.1 hm with h1 | h1
  · obtain ⟨j, hj⟩ := List.getElem?_of_mem h1
    rw [List.getElem?_take] at hj
    split at hj
    · have := key j hj; omega
    · cases hj
  · obtain ⟨j, hj⟩ := List.getElem?_of_mem h1
    rw [List.getElem?_drop] at hj
    have := key _ hj
    omega
end Go.Proofs.Ytefcmpdnlbpjpaa
