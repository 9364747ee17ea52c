/- A path told from its end is a walk; DocFind at an arc. -/
import Derived.Test.YtnkfggccahohpaaDoorSqJ
import Derived.Test.YtnkfggccahohpaaDoorSpA
import Derived.Test.YtnkfggccahohpaaDoorSqD
namespace Go.Proofs.YtnkfggccahohpaaDoor
open Go.RowKit Go.Extern

/-- a list is a walk, with these weights. -/
def WalkIs (zs : List (Int × Int × Int)) (xs ws : List Int) : Prop := ws.length + 1 = xs.length ∧ ∀ i r, ws[i]? = some r → ∃ v u, xs[i]? = some v ∧ xs[i + 1]? = some u ∧ (v, u, r) ∈ zs
theorem sum_take {ws : List Int} {k : Nat} {r : Int} (h : ws[k]? = some r) : (ws.take (k + 1)).sum = (ws.take k).sum + r := by
  rw [take_snoc h, List.sum_append]
  simp
theorem sum_le {ws : List Int} (h : ∀ (i : Nat) (r : Int), ws[i]? = some r → 0 ≤ r ∧ r ≤ 2147483647) : ∀ k : Nat, k ≤ ws.length → 0 ≤ (ws.take k).sum ∧ (ws.take k).sum ≤ (k : Int) * 2147483647
  | 0, _ => by simp
  | k + 1, hk => by
    have e : ws[k]? = some ws[k] := List.getElem?_eq_getElem (by omega)
    have ih := sum_le h k (by omega)
    have h1 := h k _ e
    rw [sum_take e]
    omega
theorem nums_cons (x : Nat) (l : List Nat) : (nums (x :: l)).reverse = (nums l).reverse ++ [(x : Int)] := by
  unfold nums
  simp
theorem path_walk {zs : List (Int × Int × Int)} {s : Nat} : ∀ {P : List Nat} {d : Int}, PathTo zs s P d → ∃ ws, WalkIs zs (nums P).reverse ws ∧ ws.sum = d ∧ (nums P).reverse[0]? = some (s : Int)
  | [], d, h => h.elim
  | [x], d, ⟨hx, hd⟩ => by
    subst hx hd
    exact ⟨[], ⟨by simp [nums], by simp⟩, rfl, by simp [nums]⟩
  | x :: y :: r, d, ⟨w, e, hw, hd, h⟩ => by
    obtain ⟨ws, ⟨h1, h2⟩, h3, h4⟩ := path_walk h
    have hl : (nums (y :: r)).reverse.length = r.length + 1 := by simp [nums]
    have hlast : (nums (y :: r)).reverse[r.length]? = some (y : Int) := by
      rw [nums_cons, List.getElem?_append_right (by simp [nums]), List.length_reverse, nums_len]
      simp
    have e1 := nums_cons x (y :: r)
    generalize (nums (y :: r)).reverse = xs at *
    rw [e1]
    refine ⟨ws ++ [w], ⟨by simp; omega, fun i r' hr => ?_⟩, by rw [List.sum_append]; simp; omega, by rw [List.getElem?_append_left (by omega)]; exact h4⟩
    by_cases hi : i < ws.length
    · rw [List.getElem?_append_left hi] at hr
      obtain ⟨v, u, g1, g2, g3⟩ := h2 i r' hr
      exact ⟨v, u, by rw [List.getElem?_append_left (by omega)]; exact g1, by rw [List.getElem?_append_left (by omega)]; exact g2, g3⟩
    · rw [List.getElem?_append_right (by omega)] at hr
      have hi2 : i - ws.length = 0 := by
        rcases Nat.eq_zero_or_pos (i - ws.length) with h | h
        · exact h
        · rw [List.getElem?_eq_none (by simp; omega)] at hr; cases hr
      rw [hi2] at hr
      cases hr
      obtain rfl : i = r.length := by omega
      exact ⟨y, x, by rw [List.getElem?_append_left (by omega)]; exact hlast, by rw [List.getElem?_append_right (by omega), hl]; simp, hw⟩
/-- a path: what the reference asks of it. -/
structure PathIs (n : Nat) (zs : List (Int × Int × Int)) (s t : Nat) (d : Int) (xs ws : List Int) : Prop where
  walk : WalkIs zs xs ws
  sum : ws.sum = d
  first : xs[0]? = some (s : Int)
  last : xs[xs.length - 1]? = some (t : Int)
  nodup : xs.Nodup
  node : ∀ x ∈ xs, 0 ≤ x ∧ x < (n : Int)
  len : xs.length ≤ n + 1
theorem pathIs_of {n : Nat} {zs : List (Int × Int × Int)} {s t : Nat} {P : List Nat} {d : Int} (hz : Fine n zs) (hs : s < n) (h : PathTo zs s P d) (ht : P[0]? = some t) (hn : P.Nodup) (hl : P.length ≤ n + 1) : ∃ ws, PathIs n zs s t d (nums P).reverse ws := by
  obtain ⟨ws, h1, h2, h3⟩ := path_walk h
  have hnode : ∀ x ∈ (nums P).reverse, 0 ≤ x ∧ x < (n : Int) := fun x hx => by
    obtain ⟨i, hi⟩ := List.getElem?_of_mem hx
    rcases i with _ | i
    · rw [h3] at hi; cases hi; omega
    · have hl := (List.getElem?_eq_some_iff.1 hi).1
      have hw := h1.1
      obtain ⟨q, e⟩ : ∃ q, ws[i]? = some q := ⟨ws[i]'(by omega), List.getElem?_eq_getElem _⟩
      obtain ⟨v, u, g1, g2, g3⟩ := h1.2 i _ e
      rw [g2] at hi
      cases hi
      have := hz.ends _ g3
      exact ⟨this.2.2.1, this.2.2.2.1⟩
  have hnd : (nums P).reverse.Nodup := by
    rw [List.nodup_iff_pairwise_ne, List.pairwise_reverse]
    unfold nums
    rw [List.pairwise_map]
    exact (List.nodup_iff_pairwise_ne.1 hn).imp fun hne e => hne (Int.ofNat.inj e).symm
  refine ⟨ws, h1, h2, h3, ?_, hnd, hnode, by rw [List.length_reverse, nums_len]; exact hl⟩
  cases P with
  | nil => simp at ht
  | cons x l =>
    obtain rfl : x = t := by simpa using ht
    rw [nums_cons, List.length_append, List.getElem?_append_right (by simp)]
    simp
theorem docFind_arc (n : Nat) (zs : List (Int × Int × Int)) (fo uo wo : Option Addr) (fc tc wc : Nat) (w : World) (hz : Fine n zs) (h : CsrIn w n zs fo uo wo fc tc wc) (v u r : Int) (ha : (v, u, r) ∈ zs) (hD : ∀ wx, Below w.heap.size w wx → Calls Tryd.prog 23 #[.agg #[.slice fo (n + 1) fc, .slice uo zs.length tc, .slice wo zs.length wc]] wx (DocAns wx (0, []))) :
    Calls Tryd.prog 41 #[.agg #[.slice fo (n + 1) fc, .slice uo zs.length tc, .slice wo zs.length wc], .int .i64 v, .int .i64 u] w (FAns w r (0, [])) := by
  obtain ⟨a1, a2, a3, a4, a5, a6, a7⟩ := hz.ends _ ha
  simp only at a1 a2 a3 a4
  obtain ⟨p, rfl⟩ : ∃ p : Nat, v = (p : Int) := ⟨v.toNat, by omega⟩
  have hmem : ∀ a, a ∈ theRow zs p ↔ a ∈ zs ∧ a.1 = (p : Int) := fun a => hz.arcRow_mem p a
  have hr0 : ((p : Int), u, r) ∈ theRow zs p := (hmem _).2 ⟨ha, rfl⟩
  obtain ⟨k0, hk0⟩ := List.getElem?_of_mem hr0
  have huniq : ∀ (j : Nat) b, (theRow zs p)[j]? = some b → b.2.1 = u → b = ((p : Int), u, r) := fun j b hb hbu => by
    obtain ⟨m1, m2⟩ := (hmem b).1 (List.mem_of_getElem? hb)
    exact rise_same hz.rise m1 ha ⟨m2, hbu⟩
  refine docFind_go fo uo wo n fc zs.length tc zs.length wc w p u (theRow zs p) hz.few (Nat.le_trans (rowOf_len _ _) hz.short) ⟨a3, a4⟩ r (0, []) (Or.inl ?_) (fun wx hx => docRow_good fo uo wo n fc zs.length tc zs.length wc wx p (theRow zs p) hz.few ⟨a1, a2⟩ (fun wy hy => hD wy (btr hx hy)) (fun wy hy => rRow_calls n zs fo uo wo fc tc wc wy hz ((h.keep hx).keep hy) p (by omega)))
  · rcases first_ex (fun k => ∃ a, (theRow zs p)[k]? = some a ∧ a.2.1 = u) (theRow zs p).length with ⟨k, hk, ⟨a, hak, hau⟩, hfirst⟩ | hno
    · obtain rfl := huniq k a hak hau
      exact ⟨k, _, hak, rfl, rfl, fun j b hj hb hbu => hfirst j hj ⟨b, hb, hbu⟩, rfl⟩
    · exact absurd ⟨_, hk0, rfl⟩ (hno k0 (List.getElem?_eq_some_iff.1 hk0).1)
end Go.Proofs.YtnkfggccahohpaaDoor
