/- what holds between an overlay's rows: behind New, Put, Remove. -/
import Derived.Test.YtgfhmciolmgogaaDoorOwB
namespace Go.Proofs.YtgfhmciolmgogaaDoor
open Go.RowKit Go.Extern Go.Sort

theorem sideL_mem_false {zs : List (Int × Int × Int)} {u : Nat} {b : H3} : b ∈ sideL false zs u ↔ ((u : Int), b.1, b.2.1) ∈ zs ∧ b.2.2 = -1 := by
  unfold sideL
  simp only [Bool.false_eq_true, if_false, List.mem_map, List.mem_filter, decide_eq_true_eq]
  constructor
  · rintro ⟨a, ⟨h1, h2⟩, rfl⟩
    exact ⟨by rw [← h2]; exact h1, rfl⟩
  · rintro ⟨h1, h2⟩
    exact ⟨_, ⟨h1, rfl⟩, by rw [← h2]⟩
theorem sideL_mem_true {zs : List (Int × Int × Int)} {u : Nat} {b : H3} : b ∈ sideL true zs u ↔ (b.1, (u : Int), b.2.1) ∈ zs ∧ b.2.2 = -1 := by
  unfold sideL
  simp only [if_true, List.mem_map, List.mem_filter, decide_eq_true_eq]
  constructor
  · rintro ⟨a, ⟨h1, h2⟩, rfl⟩
    exact ⟨by rw [← h2]; exact h1, rfl⟩
  · rintro ⟨h1, h2⟩
    exact ⟨_, ⟨h1, rfl⟩, by rw [← h2]⟩
theorem sideL_rise {zs : List (Int × Int × Int)} (hr : RiseA zs) (s : Bool) (u : Nat) : RiseH (sideL s zs u) := by
  unfold sideL RiseH
  have hz : zs.Pairwise lessA := hr
  cases s with
  | false =>
    simp only [Bool.false_eq_true, if_false]
    rw [List.pairwise_map, List.pairwise_filter]
    refine hz.imp ?_
    intro a b hab ha hb
    unfold lessA at hab
    simp at ha hb ⊢
    omega
  | true =>
    simp only [if_true]
    rw [List.pairwise_map, List.pairwise_filter]
    refine hz.imp ?_
    intro a b hab ha hb
    unfold lessA at hab
    simp at ha hb ⊢
    omega
theorem inv_new {n : Nat} {zs : List (Int × Int × Int)} {R : Bool → Nat → Rw} (hr : RiseA zs) (hs : ∀ a ∈ zs, a.1 ≠ a.2.1) (hn : ∀ a ∈ zs, (0 ≤ a.1 ∧ a.1 < (n : Int)) ∧ (0 ≤ a.2.1 ∧ a.2.1 < (n : Int))) (hR : ∀ s u, u < n → (R s u).2 = (sideL s zs u, 0)) : OvInv n (List.replicate n true) R := by
  have hl : ∀ u, u < n → liv (List.replicate n true) u = true := fun u hu => by simp [liv, hu]
  have hnode : ∀ s u, u < n → ∀ a ∈ (R s u).2.1, 0 ≤ a.1 ∧ a.1 < (n : Int) := fun s u hu a ha => by
    rw [hR s u hu] at ha
    cases s with
    | false => exact (hn _ (sideL_mem_false.1 ha).1).2
    | true => exact (hn _ (sideL_mem_true.1 ha).1).1
  refine ⟨⟨fun s u hu => by rw [hR s u hu]; exact sideL_rise hr s u, hnode, fun s u hu => by rw [hR s u hu]; exact Nat.zero_le _⟩, fun s u hu h => (by rw [hl u hu] at h; cases h), fun s u hu => ?_, fun s u hu a ha => ?_, fun s u v wt via hu hv _ _ h => ?_⟩
  · have e : livH (List.replicate n true) (R s u).2.1 = (R s u).2.1 := by
      unfold livH
      rw [List.filter_eq_self]
      intro a ha
      obtain ⟨h0, h1⟩ := hnode s u hu a ha
      exact hl a.1.toNat (by omega)
    rw [e, hR s u hu]
    simp
  · rw [hR s u hu] at ha
    cases s with
    | false => exact fun e => hs _ (sideL_mem_false.1 ha).1 e.symm
    | true => exact hs _ (sideL_mem_true.1 ha).1
  · rw [hR s u hu] at h
    rw [hR (!s) v hv]
    cases s with
    | false => exact sideL_mem_true.2 (sideL_mem_false.1 h)
    | true => exact sideL_mem_false.2 (sideL_mem_true.1 h)

theorem OvInv.put {n : Nat} {bs : List Bool} {R : Bool → Nat → Rw} (h : OvInv n bs R) {x y : Nat} (hx : x < n) (hy : y < n) (hxy : x ≠ y) (lx : liv bs x = true) (ly : liv bs y = true) (wt via : Int) (v1 v2 : Value) :
    OvInv n bs (updS (updS R false x (v1, setH (R false x).2.1 ((y : Int), wt, via), (R false x).2.2)) true y (v2, setH (R true y).2.1 ((x : Int), wt, via), (R true y).2.2)) := by
  obtain ⟨R', hR'⟩ : ∃ R', R' = updS (updS R false x (v1, setH (R false x).2.1 ((y : Int), wt, via), (R false x).2.2)) true y (v2, setH (R true y).2.1 ((x : Int), wt, via), (R true y).2.2) := ⟨_, rfl⟩
  have rf : ∀ u, (R' false u).2 = if u = x then (setH (R false x).2.1 ((y : Int), wt, via), (R false x).2.2) else (R false u).2 := fun u => by
    rw [hR', updS_far _ true false _ _ (by simp)]
    by_cases e : u = x
    · subst e
      rw [updS_at, if_pos rfl]
    · rw [updS_other _ _ _ _ _ _ (by simp [e]), if_neg e]
  have rt : ∀ u, (R' true u).2 = if u = y then (setH (R true y).2.1 ((x : Int), wt, via), (R true y).2.2) else (R true u).2 := fun u => by
    rw [hR']
    by_cases e : u = y
    · subst e
      rw [updS_at, if_pos rfl]
    · rw [updS_other _ _ _ _ _ _ (by simp [e]), if_neg e, updS_far _ false true _ _ (by simp)]
  have hok : RowsOk n R' := by
    rw [hR']
    have h1 := h.ok.set false (u := x) v1 (a := ((y : Int), wt, via)) (by simp) (by simp; omega)
    have h2 := h1.set true (u := y) v2 (a := ((x : Int), wt, via)) (by simp) (by simp; omega)
    rw [updS_far R false true x _ (by simp)] at h2
    exact h2
  rw [← hR']
  refine ⟨hok, fun s u hu hd => ?_, fun s u hu => ?_, fun s u hu a ha => ?_, fun s u v wt' via' hu hv lu lv hm => ?_⟩
  · cases s with
    | false =>
      rw [rf, if_neg (fun e => by rw [e, lx] at hd; cases hd)]
      exact h.dead false u hu hd
    | true =>
      rw [rt, if_neg (fun e => by rw [e, ly] at hd; cases hd)]
      exact h.dead true u hu hd
  · cases s with
    | false =>
      rw [rf]
      split
      · have h1 := h.gone false x hx
        have h2 := livH_setH (bs := bs) (h.ok.rise false x hx) (a := ((y : Int), wt, via)) (by simpa [liv] using ly)
        have h3 := setH_len (R false x).2.1 ((y : Int), wt, via)
        simp only
        omega
      · exact h.gone false u hu
    | true =>
      rw [rt]
      split
      · have h1 := h.gone true y hy
        have h2 := livH_setH (bs := bs) (h.ok.rise true y hy) (a := ((x : Int), wt, via)) (by simpa [liv] using lx)
        have h3 := setH_len (R true y).2.1 ((x : Int), wt, via)
        simp only
        omega
      · exact h.gone true u hu
  · cases s with
    | false =>
      rw [rf] at ha
      split at ha
      · rename_i e
        subst e
        rcases setH_mem ha with rfl | ha
        · simp
          omega
        · exact h.self false u hx a ha
      · exact h.self false u hu a ha
    | true =>
      rw [rt] at ha
      split at ha
      · rename_i e
        subst e
        rcases setH_mem ha with rfl | ha
        · simp
          omega
        · exact h.self true u hy a ha
      · exact h.self true u hu a ha
  · cases s with
    | false =>
      rw [rf] at hm
      show _ ∈ (R' true v).2.1
      rw [rt]
      by_cases eu : u = x
      · subst eu
        rw [if_pos rfl] at hm
        rcases (setH_iff (h.ok.rise false u hu)).1 hm with e | ⟨hm, hne⟩
        · have e1 : v = y := by have := congrArg (·.1) e; simp only at this; omega
          have e2 : wt' = wt := congrArg (·.2.1) e
          have e3 : via' = via := congrArg (·.2.2) e
          subst e1 e2 e3
          rw [if_pos rfl]
          exact (setH_iff (h.ok.rise true v hv)).2 (Or.inl rfl)
        · rw [if_neg (fun e => hne (by rw [e]))]
          exact h.sym false u v wt' via' hu hv lu lv hm
      · rw [if_neg eu] at hm
        have h1 := h.sym false u v wt' via' hu hv lu lv hm
        split
        · rename_i ev
          subst ev
          exact (setH_iff (h.ok.rise true v hv)).2 (Or.inr ⟨h1, by simp; omega⟩)
        · exact h1
    | true =>
      rw [rt] at hm
      show _ ∈ (R' false v).2.1
      rw [rf]
      by_cases eu : u = y
      · subst eu
        rw [if_pos rfl] at hm
        rcases (setH_iff (h.ok.rise true u hu)).1 hm with e | ⟨hm, hne⟩
        · have e1 : v = x := by have := congrArg (·.1) e; simp only at this; omega
          have e2 : wt' = wt := congrArg (·.2.1) e
          have e3 : via' = via := congrArg (·.2.2) e
          subst e1 e2 e3
          rw [if_pos rfl]
          exact (setH_iff (h.ok.rise false v hv)).2 (Or.inl rfl)
        · rw [if_neg (fun e => hne (by rw [e]))]
          exact h.sym true u v wt' via' hu hv lu lv hm
      · rw [if_neg eu] at hm
        have h1 := h.sym true u v wt' via' hu hv lu lv hm
        split
        · rename_i ev
          subst ev
          exact (setH_iff (h.ok.rise false v hv)).2 (Or.inr ⟨h1, by simp; omega⟩)
        · exact h1
end Go.Proofs.YtgfhmciolmgogaaDoor
