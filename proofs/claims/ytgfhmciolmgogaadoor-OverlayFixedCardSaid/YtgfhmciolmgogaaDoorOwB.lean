/- what holds between an overlay's rows: mathematics. -/
import Derived.Test.YtgfhmciolmgogaaDoorOwA
namespace Go.Proofs.YtgfhmciolmgogaaDoor
open Go.RowKit Go.Extern Go.Sort

/-- is a node alive? -/
def liv (bs : List Bool) (u : Nat) : Bool := bs[u]?.getD false
theorem liv_set (bs : List Bool) (u v : Nat) : liv (bs.set u false) v = if v = u then false else liv bs v := by
  unfold liv
  rw [List.getElem?_set]
  by_cases h : u = v
  · subst h
    simp
    split <;> rfl
  · rw [if_neg h, if_neg (fun e => h e.symm)]
theorem setH_iff {l : List H3} (hr : RiseH l) {a b : H3} : b ∈ setH l a ↔ b = a ∨ (b ∈ l ∧ b.1 ≠ a.1) := by
  unfold setH
  split
  · rename_i h
    obtain ⟨h1, h2⟩ := hasH_low hr h
    constructor
    · intro hb
      obtain ⟨i, hi⟩ := List.getElem?_of_mem hb
      rw [List.getElem?_set] at hi
      split at hi
      · simp at hi
        exact Or.inl hi.symm
      · rename_i hne
        refine Or.inr ⟨List.mem_of_getElem? hi, ?_⟩
        have hl : l[lowH l a.1]? = some l[lowH l a.1] := List.getElem?_eq_getElem h1
        have e := h2 _ hl
        rcases Nat.lt_trichotomy (lowH l a.1) i with hlt | hlt | hlt
        · have := hr.lt hl hi hlt
          omega
        · exact absurd hlt hne
        · have := hr.lt hi hl hlt
          omega
    · rintro (rfl | ⟨hb, hne⟩)
      · exact List.mem_of_getElem? (i := lowH l b.1) (by rw [List.getElem?_set]; simp [h1])
      · obtain ⟨i, hi⟩ := List.getElem?_of_mem hb
        refine List.mem_of_getElem? (i := i) ?_
        rw [List.getElem?_set, if_neg]
        · exact hi
        · intro e
          subst e
          exact hne (h2 _ hi)
  · rename_i h
    unfold insH
    rw [List.mem_append, List.mem_cons]
    constructor
    · rintro (hb | hb | hb)
      · exact Or.inr ⟨List.mem_of_mem_take hb, fun e => h (List.any_eq_true.2 ⟨b, List.mem_of_mem_take hb, by simp [e]⟩)⟩
      · exact Or.inl hb
      · exact Or.inr ⟨List.mem_of_mem_drop hb, fun e => h (List.any_eq_true.2 ⟨b, List.mem_of_mem_drop hb, by simp [e]⟩)⟩
    · rintro (hb | ⟨hb, _⟩)
      · exact Or.inr (Or.inl hb)
      · rw [← List.take_append_drop (lowH l a.1) l, List.mem_append] at hb
        rcases hb with hb | hb
        · exact Or.inl hb
        · exact Or.inr (Or.inr hb)
theorem livH_count (bs : List Bool) (l : List H3) : (livH bs l).length = (l.map (·.1)).countP (fun x => bs[x.toNat]?.getD false) := by
  unfold livH
  rw [← List.countP_eq_length_filter, List.countP_map]
  rfl
theorem set_fst {l : List H3} (hr : RiseH l) {a : H3} (h : hasH l a.1 = true) : (l.set (lowH l a.1) a).map (·.1) = l.map (·.1) := by
  obtain ⟨h1, h2⟩ := hasH_low hr h
  rw [List.map_set]
  apply List.ext_getElem?
  intro i
  rw [List.getElem?_set]
  split
  · subst_vars
    rw [List.length_map, if_pos h1, List.getElem?_map, List.getElem?_eq_getElem h1]
    simp [h2 _ (List.getElem?_eq_getElem h1)]
  · rfl
theorem livH_setH {bs : List Bool} {l : List H3} (hr : RiseH l) {a : H3} (ha : bs[a.1.toNat]?.getD false = true) : (livH bs (setH l a)).length + l.length = (livH bs l).length + (setH l a).length := by
  unfold setH
  split
  · rename_i h
    rw [livH_count, livH_count, set_fst hr h, List.length_set]
  · rw [insH_len (lowH_le _ _)]
    have e : (livH bs (insH l (lowH l a.1) a)).length = (livH bs l).length + 1 := by
      have hl : livH bs l = livH bs (l.take (lowH l a.1)) ++ livH bs (l.drop (lowH l a.1)) := by unfold livH; rw [← List.filter_append, List.take_append_drop]
      have hi : livH bs (insH l (lowH l a.1) a) = livH bs (l.take (lowH l a.1)) ++ a :: livH bs (l.drop (lowH l a.1)) := by
        unfold livH insH
        rw [List.filter_append, List.filter_cons_of_pos (p := fun b : H3 => bs[b.1.toNat]?.getD false) ha]
      rw [hl, hi]
      simp
      omega
    omega
theorem livH_twice (bs : List Bool) (l : List H3) : livH bs (livH bs l) = livH bs l := by unfold livH; rw [List.filter_filter]; simp
theorem livH_drop1 {bs : List Bool} {u : Nat} (hu : liv bs u = true) : ∀ {l : List H3}, RiseH l → (∀ a ∈ l, 0 ≤ a.1) → (livH bs l).length = (livH (bs.set u false) l).length + (if hasH l (u : Int) then 1 else 0)
  | [], _, _ => rfl
  | a :: r, hr, h0 => by
    obtain ⟨h1, h2⟩ := List.pairwise_cons.1 hr
    have ih := livH_drop1 hu h2 (fun b hb => h0 b (by simp [hb]))
    have ha0 := h0 a (by simp)
    have hs := liv_set bs u a.1.toNat
    unfold liv at hs hu
    by_cases e : a.1 = (u : Int)
    · have hno : hasH r (u : Int) = false := by
        unfold hasH
        rw [List.any_eq_false]
        intro b hb
        have := h1 b hb
        simp
        omega
      have hhas : hasH (a :: r) (u : Int) = true := by unfold hasH; simp [e]
      have et : a.1.toNat = u := by omega
      rw [et] at hs
      rw [if_pos rfl] at hs
      have c1 : livH bs (a :: r) = a :: livH bs r := by unfold livH; rw [List.filter_cons_of_pos (by rw [et]; exact hu)]
      have c2 : livH (bs.set u false) (a :: r) = livH (bs.set u false) r := by unfold livH; rw [List.filter_cons_of_neg (by rw [et, hs]; simp)]
      rw [c1, c2, hhas, if_pos rfl, List.length_cons, ih, hno]
      simp
    · have hhas : hasH (a :: r) (u : Int) = hasH r (u : Int) := by unfold hasH; simp [e]
      rw [if_neg (show ¬ a.1.toNat = u by omega)] at hs
      rw [hhas]
      cases hb : bs[a.1.toNat]?.getD false with
      | true =>
        have c1 : livH bs (a :: r) = a :: livH bs r := by unfold livH; rw [List.filter_cons_of_pos (p := fun b : H3 => bs[b.1.toNat]?.getD false) hb]
        have c2 : livH (bs.set u false) (a :: r) = a :: livH (bs.set u false) r := by unfold livH; rw [List.filter_cons_of_pos (by rw [hs]; exact hb)]
        rw [c1, c2, List.length_cons, List.length_cons, ih]
        omega
      | false =>
        have c1 : livH bs (a :: r) = livH bs r := by unfold livH; rw [List.filter_cons_of_neg (by rw [hb]; simp)]
        have c2 : livH (bs.set u false) (a :: r) = livH (bs.set u false) r := by unfold livH; rw [List.filter_cons_of_neg (by rw [hs, hb]; simp)]
        rw [c1, c2, ih]
/-- what holds between an overlay's rows. -/
structure OvInv (n : Nat) (bs : List Bool) (R : Bool → Nat → Rw) : Prop where
  ok : RowsOk n R
  dead : ∀ s u, u < n → liv bs u = false → (R s u).2 = ([], 0)
  gone : ∀ s u, u < n → (R s u).2.2 + (livH bs (R s u).2.1).length = (R s u).2.1.length
  self : ∀ s u, u < n → ∀ a ∈ (R s u).2.1, a.1 ≠ (u : Int)
  sym : ∀ s u v wt via, u < n → v < n → liv bs u = true → liv bs v = true → ((v : Int), wt, via) ∈ (R s u).2.1 → ((u : Int), wt, via) ∈ (R (!s) v).2.1
end Go.Proofs.YtgfhmciolmgogaaDoor
