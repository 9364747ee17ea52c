/- what holds between an overlay's rows: mathematics. what holds between an overlay's rows: behind New, Put, Remove. what holds between an overlay's rows: behind Remove. the law's compare of halves; the overlay that it wakes with. an overlay as a whole: what its calls answer and leave. -/
import Derived.Test.YtbkclhaonbjobaaGreatOwA
import Derived.BigQuiet
namespace Go.Proofs.YtbkclhaonbjobaaGreat
open Go.RowKit Go.Extern Go.Sort

/-- is a node alive? -/
def liv (bs : List Bool) (u : Nat) : Bool := bs[u]?.getD false
theorem liv_set (bs : List Bool) (u v : Nat) : liv (bs.set u false) v = if v = u then false else liv bs v := by
  unfold liv
  rw [List.getElem?_set]
  by_cases h : u = v
  · subst h
    simp
    split <;> rfl
  · rw [if_neg h, if_neg (fun e => h e.symm)]
theorem setH_iff {l : List H3} (hr : RiseH l) {a b : H3} : b ∈ setH l a ↔ b = a ∨ (b ∈ l ∧ b.1 ≠ a.1) := by
  unfold setH
  split
  · rename_i h
    obtain ⟨h1, h2⟩ := hasH_low hr h
    constructor
    · intro hb
      obtain ⟨i, hi⟩ := List.getElem?_of_mem hb
      rw [List.getElem?_set] at hi
      split at hi
      · simp at hi
        exact Or.inl hi.symm
      · rename_i hne
        refine Or.inr ⟨List.mem_of_getElem? hi, ?_⟩
        have hl : l[lowH l a.1]? = some l[lowH l a.1] := List.getElem?_eq_getElem h1
        have e := h2 _ hl
        rcases Nat.lt_trichotomy (lowH l a.1) i with hlt | hlt | hlt
        · have := hr.lt hl hi hlt
          omega
        · exact absurd hlt hne
        · have := hr.lt hi hl hlt
          omega
    · rintro (rfl | ⟨hb, hne⟩)
      · exact List.mem_of_getElem? (i := lowH l b.1) (by rw [List.getElem?_set]; simp [h1])
      · obtain ⟨i, hi⟩ := List.getElem?_of_mem hb
        refine List.mem_of_getElem? (i := i) ?_
        rw [List.getElem?_set, if_neg]
        · exact hi
        · intro e
          subst e
          exact hne (h2 _ hi)
  · rename_i h
    unfold insH
    rw [List.mem_append, List.mem_cons]
    constructor
    · rintro (hb | hb | hb)
      · exact Or.inr ⟨List.mem_of_mem_take hb, fun e => h (List.any_eq_true.2 ⟨b, List.mem_of_mem_take hb, by simp [e]⟩)⟩
      · exact Or.inl hb
      · exact Or.inr ⟨List.mem_of_mem_drop hb, fun e => h (List.any_eq_true.2 ⟨b, List.mem_of_mem_drop hb, by simp [e]⟩)⟩
    · rintro (hb | ⟨hb, _⟩)
      · exact Or.inr (Or.inl hb)
      · rw [← List.take_append_drop (lowH l a.1) l, List.mem_append] at hb
        rcases hb with hb | hb
        · exact Or.inl hb
        · exact Or.inr (Or.inr hb)
theorem livH_count (bs : List Bool) (l : List H3) : (livH bs l).length = (l.map (·.1)).countP (fun x => bs[x.toNat]?.getD false) := by
  unfold livH
  rw [← List.countP_eq_length_filter, List.countP_map]
  rfl
theorem set_fst {l : List H3} (hr : RiseH l) {a : H3} (h : hasH l a.1 = true) : (l.set (lowH l a.1) a).map (·.1) = l.map (·.1) := by
  obtain ⟨h1, h2⟩ := hasH_low hr h
  rw [List.map_set]
  apply List.ext_getElem?
  intro i
  rw [List.getElem?_set]
  split
  · subst_vars
    rw [List.length_map, if_pos h1, List.getElem?_map, List.getElem?_eq_getElem h1]
    simp [h2 _ (List.getElem?_eq_getElem h1)]
  · rfl
theorem livH_setH {bs : List Bool} {l : List H3} (hr : RiseH l) {a : H3} (ha : bs[a.1.toNat]?.getD false = true) : (livH bs (setH l a)).length + l.length = (livH bs l).length + (setH l a).length := by
  unfold setH
  split
  · rename_i h
    rw [livH_count, livH_count, set_fst hr h, List.length_set]
  · rw [insH_len (lowH_le _ _)]
    have e : (livH bs (insH l (lowH l a.1) a)).length = (livH bs l).length + 1 := by
      have hl : livH bs l = livH bs (l.take (lowH l a.1)) ++ livH bs (l.drop (lowH l a.1)) := by unfold livH; rw [← List.filter_append, List.take_append_drop]
      have hi : livH bs (insH l (lowH l a.1) a) = livH bs (l.take (lowH l a.1)) ++ a :: livH bs (l.drop (lowH l a.1)) := by
        unfold livH insH
        rw [List.filter_append, List.filter_cons_of_pos (p := fun b : H3 => bs[b.1.toNat]?.getD false) ha]
      rw [hl, hi]
      simp
      omega
    omega
theorem livH_twice (bs : List Bool) (l : List H3) : livH bs (livH bs l) = livH bs l := by unfold livH; rw [List.filter_filter]; simp
theorem livH_drop1 {bs : List Bool} {u : Nat} (hu : liv bs u = true) : ∀ {l : List H3}, RiseH l → (∀ a ∈ l, 0 ≤ a.1) → (livH bs l).length = (livH (bs.set u false) l).length + (if hasH l (u : Int) then 1 else 0)
  | [], _, _ => rfl
  | a :: r, hr, h0 => by
    obtain ⟨h1, h2⟩ := List.pairwise_cons.1 hr
    have ih := livH_drop1 hu h2 (fun b hb => h0 b (by simp [hb]))
    have ha0 := h0 a (by simp)
    have hs := liv_set bs u a.1.toNat
    unfold liv at hs hu
    by_cases e : a.1 = (u : Int)
    · have hno : hasH r (u : Int) = false := by
        unfold hasH
        rw [List.any_eq_false]
        intro b hb
        have := h1 b hb
        simp
        omega
      have hhas : hasH (a :: r) (u : Int) = true := by unfold hasH; simp [e]
      have et : a.1.toNat = u := by omega
      rw [et] at hs
      rw [if_pos rfl] at hs
      have c1 : livH bs (a :: r) = a :: livH bs r := by unfold livH; rw [List.filter_cons_of_pos (by rw [et]; exact hu)]
      have c2 : livH (bs.set u false) (a :: r) = livH (bs.set u false) r := by unfold livH; rw [List.filter_cons_of_neg (by rw [et, hs]; simp)]
      rw [c1, c2, hhas, if_pos rfl, List.length_cons, ih, hno]
      simp
    · have hhas : hasH (a :: r) (u : Int) = hasH r (u : Int) := by unfold hasH; simp [e]
      rw [if_neg (show ¬ a.1.toNat = u by omega)] at hs
      rw [hhas]
      cases hb : bs[a.1.toNat]?.getD false with
      | true =>
        have c1 : livH bs (a :: r) = a :: livH bs r := by unfold livH; rw [List.filter_cons_of_pos (p := fun b : H3 => bs[b.1.toNat]?.getD false) hb]
        have c2 : livH (bs.set u false) (a :: r) = a :: livH (bs.set u false) r := by unfold livH; rw [List.filter_cons_of_pos (by rw [hs]; exact hb)]
        rw [c1, c2, List.length_cons, List.length_cons, ih]
        omega
      | false =>
        have c1 : livH bs (a :: r) = livH bs r := by unfold livH; rw [List.filter_cons_of_neg (by rw [hb]; simp)]
        have c2 : livH (bs.set u false) (a :: r) = livH (bs.set u false) r := by unfold livH; rw [List.filter_cons_of_neg (by rw [hs, hb]; simp)]
        rw [c1, c2, ih]
/-- what holds between an overlay's rows. -/
structure OvInv (n : Nat) (bs : List Bool) (R : Bool → Nat → Rw) : Prop where
  ok : RowsOk n R
  dead : ∀ s u, u < n → liv bs u = false → (R s u).2 = ([], 0)
  gone : ∀ s u, u < n → (R s u).2.2 + (livH bs (R s u).2.1).length = (R s u).2.1.length
  self : ∀ s u, u < n → ∀ a ∈ (R s u).2.1, a.1 ≠ (u : Int)
  sym : ∀ s u v wt via, u < n → v < n → liv bs u = true → liv bs v = true → ((v : Int), wt, via) ∈ (R s u).2.1 → ((u : Int), wt, via) ∈ (R (!s) v).2.1
end Go.Proofs.YtbkclhaonbjobaaGreat

namespace Go.Proofs.YtbkclhaonbjobaaGreat
open Go.RowKit Go.Extern Go.Sort

theorem sideL_mem_false {zs : List (Int × Int × Int)} {u : Nat} {b : H3} : b ∈ sideL false zs u ↔ ((u : Int), b.1, b.2.1) ∈ zs ∧ b.2.2 = -1 := by
  unfold sideL
  simp only [Bool.false_eq_true, if_false, List.mem_map, List.mem_filter, decide_eq_true_eq]
  constructor
  · rintro ⟨a, ⟨h1, h2⟩, rfl⟩
    exact ⟨by rw [← h2]; exact h1, rfl⟩
  · rintro ⟨h1, h2⟩
    exact ⟨_, ⟨h1, rfl⟩, by rw [← h2]⟩
theorem sideL_mem_true {zs : List (Int × Int × Int)} {u : Nat} {b : H3} : b ∈ sideL true zs u ↔ (b.1, (u : Int), b.2.1) ∈ zs ∧ b.2.2 = -1 := by
  unfold sideL
  simp only [if_true, List.mem_map, List.mem_filter, decide_eq_true_eq]
  constructor
  · rintro ⟨a, ⟨h1, h2⟩, rfl⟩
    exact ⟨by rw [← h2]; exact h1, rfl⟩
  · rintro ⟨h1, h2⟩
    exact ⟨_, ⟨h1, rfl⟩, by rw [← h2]⟩
theorem sideL_rise {zs : List (Int × Int × Int)} (hr : RiseA zs) (s : Bool) (u : Nat) : RiseH (sideL s zs u) := by
  unfold sideL RiseH
  have hz : zs.Pairwise lessA := hr
  cases s with
  | false =>
    simp only [Bool.false_eq_true, if_false]
    rw [List.pairwise_map, List.pairwise_filter]
    refine hz.imp ?_
    intro a b hab ha hb
    unfold lessA at hab
    simp at ha hb ⊢
    omega
  | true =>
    simp only [if_true]
    rw [List.pairwise_map, List.pairwise_filter]
    refine hz.imp ?_
    intro a b hab ha hb
    unfold lessA at hab
    simp at ha hb ⊢
    omega
theorem inv_new {n : Nat} {zs : List (Int × Int × Int)} {R : Bool → Nat → Rw} (hr : RiseA zs) (hs : ∀ a ∈ zs, a.1 ≠ a.2.1) (hn : ∀ a ∈ zs, (0 ≤ a.1 ∧ a.1 < (n : Int)) ∧ (0 ≤ a.2.1 ∧ a.2.1 < (n : Int))) (hR : ∀ s u, u < n → (R s u).2 = (sideL s zs u, 0)) : OvInv n (List.replicate n true) R := by
  have hl : ∀ u, u < n → liv (List.replicate n true) u = true := fun u hu => by simp [liv, hu]
  have hnode : ∀ s u, u < n → ∀ a ∈ (R s u).2.1, 0 ≤ a.1 ∧ a.1 < (n : Int) := fun s u hu a ha => by
    rw [hR s u hu] at ha
    cases s with
    | false => exact (hn _ (sideL_mem_false.1 ha).1).2
    | true => exact (hn _ (sideL_mem_true.1 ha).1).1
  refine ⟨⟨fun s u hu => by rw [hR s u hu]; exact sideL_rise hr s u, hnode, fun s u hu => by rw [hR s u hu]; exact Nat.zero_le _⟩, fun s u hu h => (by rw [hl u hu] at h; cases h), fun s u hu => ?_, fun s u hu a ha => ?_, fun s u v wt via hu hv _ _ h => ?_⟩
  · have e : livH (List.replicate n true) (R s u).2.1 = (R s u).2.1 := by
      unfold livH
      rw [List.filter_eq_self]
      intro a ha
      obtain ⟨h0, h1⟩ := hnode s u hu a ha
      exact hl a.1.toNat (by omega)
    rw [e, hR s u hu]
    simp
  · rw [hR s u hu] at ha
    cases s with
    | false => exact fun e => hs _ (sideL_mem_false.1 ha).1 e.symm
    | true => exact hs _ (sideL_mem_true.1 ha).1
  · rw [hR s u hu] at h
    rw [hR (!s) v hv]
    cases s with
    | false => exact sideL_mem_true.2 (sideL_mem_false.1 h)
    | true => exact sideL_mem_false.2 (sideL_mem_true.1 h)

theorem OvInv.put {n : Nat} {bs : List Bool} {R : Bool → Nat → Rw} (h : OvInv n bs R) {x y : Nat} (hx : x < n) (hy : y < n) (hxy : x ≠ y) (lx : liv bs x = true) (ly : liv bs y = true) (wt via : Int) (v1 v2 : Value) :
    OvInv n bs (updS (updS R false x (v1, setH (R false x).2.1 ((y : Int), wt, via), (R false x).2.2)) true y (v2, setH (R true y).2.1 ((x : Int), wt, via), (R true y).2.2)) := by
  obtain ⟨R', hR'⟩ : ∃ R', R' = updS (updS R false x (v1, setH (R false x).2.1 ((y : Int), wt, via), (R false x).2.2)) true y (v2, setH (R true y).2.1 ((x : Int), wt, via), (R true y).2.2) := ⟨_, rfl⟩
  have rf : ∀ u, (R' false u).2 = if u = x then (setH (R false x).2.1 ((y : Int), wt, via), (R false x).2.2) else (R false u).2 := fun u => by
    rw [hR', updS_far _ true false _ _ (by simp)]
    by_cases e : u = x
    · subst e
      rw [updS_at, if_pos rfl]
    · rw [updS_other _ _ _ _ _ _ (by simp [e]), if_neg e]
  have rt : ∀ u, (R' true u).2 = if u = y then (setH (R true y).2.1 ((x : Int), wt, via), (R true y).2.2) else (R true u).2 := fun u => by
    rw [hR']
    by_cases e : u = y
    · subst e
      rw [updS_at, if_pos rfl]
    · rw [updS_other _ _ _ _ _ _ (by simp [e]), if_neg e, updS_far _ false true _ _ (by simp)]
  have hok : RowsOk n R' := by
    rw [hR']
    have h1 := h.ok.set false (u := x) v1 (a := ((y : Int), wt, via)) (by simp) (by simp; omega)
    have h2 := h1.set true (u := y) v2 (a := ((x : Int), wt, via)) (by simp) (by simp; omega)
    rw [updS_far R false true x _ (by simp)] at h2
    exact h2
  rw [← hR']
  refine ⟨hok, fun s u hu hd => ?_, fun s u hu => ?_, fun s u hu a ha => ?_, fun s u v wt' via' hu hv lu lv hm => ?_⟩
  · cases s with
    | false =>
      rw [rf, if_neg (fun e => by rw [e, lx] at hd; cases hd)]
      exact h.dead false u hu hd
    | true =>
      rw [rt, if_neg (fun e => by rw [e, ly] at hd; cases hd)]
      exact h.dead true u hu hd
  · cases s with
    | false =>
      rw [rf]
      split
      · have h1 := h.gone false x hx
        have h2 := livH_setH (bs := bs) (h.ok.rise false x hx) (a := ((y : Int), wt, via)) (by simpa [liv] using ly)
        have h3 := setH_len (R false x).2.1 ((y : Int), wt, via)
        simp only
        omega
      · exact h.gone false u hu
    | true =>
      rw [rt]
      split
      · have h1 := h.gone true y hy
        have h2 := livH_setH (bs := bs) (h.ok.rise true y hy) (a := ((x : Int), wt, via)) (by simpa [liv] using lx)
        have h3 := setH_len (R true y).2.1 ((x : Int), wt, via)
        simp only
        omega
      · exact h.gone true u hu
  · cases s with
    | false =>
      rw [rf] at ha
      split at ha
      · rename_i e
        subst e
        rcases setH_mem ha with rfl | ha
        · simp
          omega
        · exact h.self false u hx a ha
      · exact h.self false u hu a ha
    | true =>
      rw [rt] at ha
      split at ha
      · rename_i e
        subst e
        rcases setH_mem ha with rfl | ha
        · simp
          omega
        · exact h.self true u hy a ha
      · exact h.self true u hu a ha
  · cases s with
    | false =>
      rw [rf] at hm
      show _ ∈ (R' true v).2.1
      rw [rt]
      by_cases eu : u = x
      · subst eu
        rw [if_pos rfl] at hm
        rcases (setH_iff (h.ok.rise false u hu)).1 hm with e | ⟨hm, hne⟩
        · have e1 : v = y := by have := congrArg (·.1) e; simp only at this; omega
          have e2 : wt' = wt := congrArg (·.2.1) e
          have e3 : via' = via := congrArg (·.2.2) e
          subst e1 e2 e3
          rw [if_pos rfl]
          exact (setH_iff (h.ok.rise true v hv)).2 (Or.inl rfl)
        · rw [if_neg (fun e => hne (by rw [e]))]
          exact h.sym false u v wt' via' hu hv lu lv hm
      · rw [if_neg eu] at hm
        have h1 := h.sym false u v wt' via' hu hv lu lv hm
        split
        · rename_i ev
          subst ev
          exact (setH_iff (h.ok.rise true v hv)).2 (Or.inr ⟨h1, by simp; omega⟩)
        · exact h1
    | true =>
      rw [rt] at hm
      show _ ∈ (R' false v).2.1
      rw [rf]
      by_cases eu : u = y
      · subst eu
        rw [if_pos rfl] at hm
        rcases (setH_iff (h.ok.rise true u hu)).1 hm with e | ⟨hm, hne⟩
        · have e1 : v = x := by have := congrArg (·.1) e; simp only at this; omega
          have e2 : wt' = wt := congrArg (·.2.1) e
          have e3 : via' = via := congrArg (·.2.2) e
          subst e1 e2 e3
          rw [if_pos rfl]
          exact (setH_iff (h.ok.rise false v hv)).2 (Or.inl rfl)
        · rw [if_neg (fun e => hne (by rw [e]))]
          exact h.sym true u v wt' via' hu hv lu lv hm
      · rw [if_neg eu] at hm
        have h1 := h.sym true u v wt' via' hu hv lu lv hm
        split
        · rename_i ev
          subst ev
          exact (setH_iff (h.ok.rise false v hv)).2 (Or.inr ⟨h1, by simp; omega⟩)
        · exact h1
end Go.Proofs.YtbkclhaonbjobaaGreat

namespace Go.Proofs.YtbkclhaonbjobaaGreat
open Go.RowKit Go.Extern Go.Sort

theorem hasH_mem {l : List H3} {x : Int} : hasH l x = true ↔ ∃ a ∈ l, a.1 = x := by
  unfold hasH
  rw [List.any_eq_true]
  simp
section
variable {n u : Nat} {bs : List Bool} {R R1 R2 : Bool → Nat → Rw}
/-- where a node stands, its end is alive too. -/
theorem OvInv.liveEnd (h : OvInv n bs R) (s : Bool) {v : Nat} (hv : v < n) {a : H3} (ha : a ∈ (R s v).2.1) : liv bs v = true := by
  cases hl : liv bs v with
  | true => rfl
  | false => rw [h.dead s v hv hl] at ha; cases ha
/-- what Remove asks for. -/
theorem OvInv.pre (h : OvInv n bs R) (hu : u < n) (lu : liv bs u = true) : ∀ s s', s ≠ s' → ∀ a ∈ livH (bs.set u false) (R s u).2.1, (R s' a.1.toNat).2.2 + 1 ≤ (R s' a.1.toNat).2.1.length := fun s s' hss a ha => by
  obtain ⟨h1, h2⟩ := livH_mem.1 ha
  obtain ⟨n0, n1⟩ := h.ok.node s u hu a h1
  obtain ⟨m, hm⟩ : ∃ m : Nat, a.1 = (m : Int) := ⟨a.1.toNat, by omega⟩
  have hmn : m < n := by omega
  have h3 : liv (bs.set u false) m = true := by rw [hm, Int.toNat_natCast] at h2; exact h2
  rw [liv_set] at h3
  split at h3
  · cases h3
  · have he : s' = !s := by cases s <;> cases s' <;> simp_all
    have h4 := h.sym s u m a.2.1 a.2.2 hu hmn lu h3 (by rw [← hm]; exact h1)
    rw [hm, Int.toNat_natCast, he]
    have h5 := h.gone (!s) m hmn
    have h6 : ((u : Int), a.2.1, a.2.2) ∈ livH bs (R (!s) m).2.1 := livH_mem.2 ⟨h4, by simpa [liv] using lu⟩
    have h7 := List.length_pos_of_mem h6
    omega
/-- the rows behind a Remove. -/
theorem lost_rows (L1 : LostR n (bs.set u false) true (R false u).2.1 R R1) (L2 : LostR n (bs.set u false) false (R true u).2.1 R1 R2) : ∀ s v, v < n → ((updS (updS R2 false u nilR) true u nilR) s v).2 = if v = u then ([], 0) else if hasH (livH (bs.set u false) (R (!s) u).2.1) (v : Int) then loseH (bs.set u false) (R s v).2.1 (R s v).2.2 else (R s v).2 := fun s v hv => by
  by_cases e : v = u
  · subst e
    rw [if_pos rfl]
    cases s with
    | false => rw [updS_far _ true false _ _ (by simp), updS_at]; rfl
    | true => rw [updS_at]; rfl
  · rw [if_neg e]
    cases s with
    | false =>
      rw [updS_far _ true false _ _ (by simp), updS_other _ _ _ _ _ _ (by simp [e])]
      have e1 : R1 false v = R false v := (L1 false v hv).2 (fun h => by cases h.1)
      split
      · rename_i hh
        rw [(L2 false v hv).1 ⟨rfl, hh⟩, e1]
      · rename_i hh
        rw [(L2 false v hv).2 (fun h => hh h.2), e1]
    | true =>
      rw [updS_other _ _ _ _ _ _ (by simp [e]), updS_far _ false true _ _ (by simp)]
      rw [(L2 true v hv).2 (fun h => by cases h.1)]
      split
      · rename_i hh
        rw [(L1 true v hv).1 ⟨rfl, hh⟩]
      · rename_i hh
        rw [(L1 true v hv).2 (fun h => hh h.2)]
theorem OvInv.remove (h : OvInv n bs R) (hu : u < n) (lu : liv bs u = true) (hk : RowsOk n R2) (L1 : LostR n (bs.set u false) true (R false u).2.1 R R1) (L2 : LostR n (bs.set u false) false (R true u).2.1 R1 R2) : OvInv n (bs.set u false) (updS (updS R2 false u nilR) true u nilR) := by
  have hrows := lost_rows L1 L2
  have hsub : ∀ s v, v < n → ∀ a ∈ ((updS (updS R2 false u nilR) true u nilR) s v).2.1, a ∈ (R s v).2.1 ∧ v ≠ u := fun s v hv a ha => by
    rw [hrows s v hv] at ha
    split at ha
    · cases ha
    · rename_i e
      refine ⟨?_, e⟩
      split at ha
      · unfold loseH at ha
        split at ha
        · exact (livH_mem.1 ha).1
        · exact ha
      · exact ha
  have hsup : ∀ s v, v < n → v ≠ u → ∀ a ∈ (R s v).2.1, (bs.set u false)[a.1.toNat]?.getD false = true → a ∈ ((updS (updS R2 false u nilR) true u nilR) s v).2.1 := fun s v hv e a ha hl => by
    rw [hrows s v hv, if_neg e]
    split
    · unfold loseH
      split
      · exact livH_mem.2 ⟨ha, hl⟩
      · exact ha
    · exact ha
  have hok : RowsOk n (updS (updS R2 false u nilR) true u nilR) := by
    refine ⟨fun s v hv => ?_, fun s v hv a ha => h.ok.node s v hv a (hsub s v hv a ha).1, fun s v hv => ?_⟩
    · by_cases e : v = u
      · rw [hrows s v hv, if_pos e]
        exact List.Pairwise.nil
      · cases s with
        | false => rw [updS_far _ true false _ _ (by simp), updS_other _ _ _ _ _ _ (by simp [e])]; exact hk.rise false v hv
        | true => rw [updS_other _ _ _ _ _ _ (by simp [e]), updS_far _ false true _ _ (by simp)]; exact hk.rise true v hv
    · by_cases e : v = u
      · rw [hrows s v hv, if_pos e]
        exact Nat.le_refl _
      · cases s with
        | false => rw [updS_far _ true false _ _ (by simp), updS_other _ _ _ _ _ _ (by simp [e])]; exact hk.gone false v hv
        | true => rw [updS_other _ _ _ _ _ _ (by simp [e]), updS_far _ false true _ _ (by simp)]; exact hk.gone true v hv
  refine ⟨hok, fun s v hv hd => ?_, fun s v hv => ?_, fun s v hv a ha => h.self s v hv a (hsub s v hv a ha).1, fun s v x wt via hv hx lv lx hm => ?_⟩
  · rw [hrows s v hv]
    split
    · rfl
    · rename_i e
      rw [liv_set, if_neg e] at hd
      have hz := h.dead s v hv hd
      rw [if_neg]
      · exact hz
      · intro hh
        obtain ⟨a, ha, hav⟩ := hasH_mem.1 hh
        have h2 := (livH_mem.1 ha).2
        rw [hav, Int.toNat_natCast] at h2
        have h3 : liv (bs.set u false) v = true := h2
        rw [liv_set, if_neg e, hd] at h3
        cases h3
  · rw [hrows s v hv]
    split
    · rfl
    · rename_i e
      have hg := h.gone s v hv
      have hd := livH_drop1 (bs := bs) lu (h.ok.rise s v hv) (fun a ha => (h.ok.node s v hv a ha).1)
      split
      · rename_i hh
        unfold loseH
        split
        · simp only [livH_twice]
          omega
        · obtain ⟨a, ha, hav⟩ := hasH_mem.1 hh
          have h1 := (livH_mem.1 ha).1
          have h2 := (livH_mem.1 ha).2
          rw [hav, Int.toNat_natCast] at h2
          have h3 : liv (bs.set u false) v = true := h2
          rw [liv_set, if_neg e] at h3
          have h4 := h.sym (!s) u v a.2.1 a.2.2 hu hv lu h3 (by rw [← hav]; exact h1)
          rw [Bool.not_not] at h4
          have h5 : hasH (R s v).2.1 (u : Int) = true := hasH_mem.2 ⟨_, h4, rfl⟩
          rw [h5, if_pos rfl] at hd
          simp only
          omega
      · rename_i hh
        have h5 : hasH (R s v).2.1 (u : Int) = false := by
          cases h6 : hasH (R s v).2.1 (u : Int) with
          | false => rfl
          | true =>
            exfalso
            obtain ⟨a, ha, hau⟩ := hasH_mem.1 h6
            have lv := h.liveEnd s hv ha
            have h4 := h.sym s v u a.2.1 a.2.2 hv hu lv lu (by rw [← hau]; exact ha)
            apply hh
            refine hasH_mem.2 ⟨_, livH_mem.2 ⟨h4, ?_⟩, rfl⟩
            have h7 : liv (bs.set u false) v = true := by rw [liv_set, if_neg e]; exact lv
            simpa [liv] using h7
        rw [h5] at hd
        simp at hd
        omega
  · obtain ⟨h1, h2⟩ := hsub s v hv _ hm
    have hxu : x ≠ u := fun e => by rw [liv_set, if_pos e] at lx; cases lx
    have lv' := lv
    rw [liv_set, if_neg h2] at lv'
    rw [liv_set, if_neg hxu] at lx
    exact hsup (!s) x hx hxu _ (h.sym s v x wt via hv hx lv' lx h1) (by simpa [liv] using lv)
end
end Go.Proofs.YtbkclhaonbjobaaGreat

namespace Go.Proofs.YtbkclhaonbjobaaGreat
open Go.RowKit Go.Extern Go.Sort

end Go.Proofs.YtbkclhaonbjobaaGreat

namespace Go.Proofs.YtbkclhaonbjobaaGreat
open Go.RowKit Go.Extern Go.Sort

/-- an overlay, all of it above a base. -/
def IsOv (PX : Nat → Option Obj) (B0 : Nat) (w : World) (pb n : Nat) (bs : List Bool) (R : Bool → Nat → Rw) (nodes arcs : Int) : Prop := ∃ B ab sb, B0 ≤ B ∧ OvMem PX w B pb ab sb n bs R nodes arcs ∧ OvInv n bs R
section
variable {PX : Nat → Option Obj} {w w' : World} {B0 pb n : Nat} {bs : List Bool} {R : Bool → Nat → Rw} {nodes arcs : Int}
theorem IsOv.keep (h : IsOv PX B0 w pb n bs R nodes arcs) (hb : Below w.heap.size w w') : IsOv PX B0 w' pb n bs R nodes arcs := by
  obtain ⟨B, ab, sb, h0, h1, h2⟩ := h
  exact ⟨B, ab, sb, h0, h1.keep hb, h2⟩
theorem IsOv.size (h : IsOv PX B0 w pb n bs R nodes arcs) : B0 ≤ w.heap.size := by
  obtain ⟨B, ab, sb, h0, h1, h2⟩ := h
  exact Nat.le_trans h0 h1.size
theorem IsOv.inv (h : IsOv PX B0 w pb n bs R nodes arcs) : OvInv n bs R := by
  obtain ⟨B, ab, sb, h0, h1, h2⟩ := h
  exact h2
theorem IsOv.bl (h : IsOv PX B0 w pb n bs R nodes arcs) : bs.length = n ∧ n ≤ 65536 := by
  obtain ⟨B, ab, sb, h0, h1, h2⟩ := h
  exact ⟨h1.bl, h1.big⟩
theorem aliveB_iff {x : Int} : aliveB n bs x = true ↔ ∃ u : Nat, x = (u : Int) ∧ u < n ∧ liv bs u = true := by
  unfold aliveB isN liv
  constructor
  · intro h
    simp at h
    exact ⟨x.toNat, by omega, by omega, by simpa using h.2⟩
  · rintro ⟨u, rfl, h1, h2⟩
    simp [h1]
    exact by simpa using h2
theorem ov_new (ao : Option Addr) (k0 cap : Nat) (xs : List (Int × Int × Int)) (w : World) (hl : HasArcs w (.slice ao k0 cap) xs) (hg : graphErr (n : Int) xs = (0, [])) :
    Calls Tryz.prog 7 #[.agg #[.int .i64 n, .slice ao k0 cap]] w fun e w' => ∃ pb R, e = .returned (.tuple #[.pointer (some ⟨pb, 0, none⟩), .nilIface]) ∧ IsOv noP w.heap.size w' pb n (List.replicate n true) R (n : Int) ((normA xs).length : Int) ∧ (∀ s u, u < n → (R s u).2 = (sideL s (normA xs) u, 0)) ∧ Below w.heap.size w w' := by
  obtain ⟨h1, h2⟩ := (good_iff _ _).1 (good_norm hg)
  have hfin : ∀ a ∈ normA xs, (0 ≤ a.1 ∧ a.1 < (n : Int)) ∧ (0 ≤ a.2.1 ∧ a.2.1 < (n : Int)) ∧ 0 ≤ a.2.2 ∧ a.2.2 ≤ 9223372036854775807 := fun a ha => by
    have h3 := h2 a ha
    unfold arcBad at h3
    split at h3
    · cases h3
    · split at h3
      · cases h3
      · refine ⟨⟨?_, ?_⟩, ⟨?_, ?_⟩, ?_, ?_⟩ <;> omega
  refine (onew_good n (by omega) ao k0 cap xs w hl hg hfin (by omega)).mono ?_
  rintro e w' ⟨B, pb, ab, sb, R, rfl, hB, hM, hR, hb⟩
  exact ⟨pb, R, rfl, ⟨B, ab, sb, hB, hM, inv_new (normA_norm xs).rise (fun a ha => (norm_sub ha).2) (fun a ha => ⟨(hfin a ha).1, (hfin a ha).2.1⟩) hR⟩, hR, hb⟩
theorem IsOv.weight (h : IsOv PX B0 w pb n bs R nodes arcs) (x y : Int) : Calls Tryz.prog 53 #[.pointer (some ⟨pb, 0, none⟩), .int .i64 x, .int .i64 y] w fun e w' => e = .returned (.tuple #[.int .u64 ((weightM n bs R x y).getD 0), .bool (weightM n bs R x y).isSome]) ∧ Below w.heap.size w w' := by
  obtain ⟨B, ab, sb, h0, h1, h2⟩ := h
  exact weight_calls h1 h2.ok x y
theorem IsOv.alive (h : IsOv PX B0 w pb n bs R nodes arcs) (x : Int) : Calls Tryz.prog 9 #[.pointer (some ⟨pb, 0, none⟩), .int .i64 x] w fun e w' => e = .returned (.bool (aliveB n bs x)) ∧ w' = w := by
  obtain ⟨B, ab, sb, h0, h1, h2⟩ := h
  exact alive_calls h1 x
theorem IsOv.out (h : IsOv PX B0 w pb n bs R nodes arcs) (x : Int) : Calls Tryz.prog 11 #[.pointer (some ⟨pb, 0, none⟩), .int .i64 x] w fun e w' => ∃ v' : Value, e = .returned v' ∧ (aliveB n bs x = false → v' = .slice none 0 0) ∧ (aliveB n bs x = true → w'.ownsRow w.heap.size 49 3 v' (livH bs (R false x.toNat).2.1).length (flatH (livH bs (R false x.toNat).2.1))) ∧ Below w.heap.size w w' := by
  obtain ⟨B, ab, sb, h0, h1, h2⟩ := h
  exact out_calls h1 h2.ok x
theorem IsOv.inn (h : IsOv PX B0 w pb n bs R nodes arcs) (x : Int) : Calls Tryz.prog 39 #[.pointer (some ⟨pb, 0, none⟩), .int .i64 x] w fun e w' => ∃ v' : Value, e = .returned v' ∧ (aliveB n bs x = false → v' = .slice none 0 0) ∧ (aliveB n bs x = true → w'.ownsRow w.heap.size 49 3 v' (livH bs (R true x.toNat).2.1).length (flatH (livH bs (R true x.toNat).2.1))) ∧ Below w.heap.size w w' := by
  obtain ⟨B, ab, sb, h0, h1, h2⟩ := h
  exact in_calls h1 h2.ok x
/-- what a Put leaves, where it puts something. -/
def putRows (R : Bool → Nat → Rw) (x y : Nat) (wt via : Int) (v1 v2 : Value) : Bool → Nat → Rw := updS (updS R false x (v1, setH (R false x).2.1 ((y : Int), wt, via), (R false x).2.2)) true y (v2, setH (R true y).2.1 ((x : Int), wt, via), (R true y).2.2)
theorem IsOv.put (h : IsOv PX B0 w pb n bs R nodes arcs) (x y wt via : Int) (ha : -4611686018427387904 ≤ arcs ∧ arcs ≤ 4611686018427387904) : Calls Tryz.prog 30 #[.pointer (some ⟨pb, 0, none⟩), .int .i64 x, .int .i64 y, .int .u64 wt, .int .i64 via] w fun e w' =>
    (∃ c, c ≠ 0 ∧ putErr n bs x y wt via = c ∧ e = .returned (.tuple #[.bool false, .iface 104 (.int .i64 c)]) ∧ Below w.heap.size w w') ∨
    (∃ k, weightM n bs R x y = some k ∧ k ≤ wt ∧ e = .returned (.tuple #[.bool false, .nilIface]) ∧ Below w.heap.size w w') ∨
    (∃ (a b : Nat) (v1 v2 : Value), x = (a : Int) ∧ y = (b : Int) ∧ (∀ k, weightM n bs R x y = some k → wt < k) ∧ (a < n ∧ b < n ∧ liv bs a = true ∧ liv bs b = true) ∧ e = .returned (.tuple #[.bool true, .nilIface]) ∧ IsOv PX B0 w' pb n bs (putRows R a b wt via v1 v2) nodes (arcs + (if (weightM n bs R x y).isNone then 1 else 0)) ∧ Below B0 w w') := by
  obtain ⟨B, ab, sb, h0, h1, h2⟩ := h
  by_cases hp : putErr n bs x y wt via = 0
  · obtain ⟨a, b, rfl, rfl, han, hbn, hab, lx, ly⟩ := putErr_zero hp
    have la : liv bs a = true := by obtain ⟨u, e, _, h⟩ := aliveB_iff.1 lx; have : a = u := by omega
                                    subst this; exact h
    have lb : liv bs b = true := by obtain ⟨u, e, _, h⟩ := aliveB_iff.1 ly; have : b = u := by omega
                                    subst this; exact h
    have hne : a ≠ b := fun e => hab (by rw [e])
    cases hw : weightM n bs R (a : Int) (b : Int) with
    | none =>
      refine (oPutNew h1 h2.ok _ _ wt via hp hw ha).mono ?_
      rintro e w' ⟨rfl, v1, v2, hm, hb⟩
      simp only [Int.toNat_natCast] at hm
      exact Or.inr (Or.inr ⟨a, b, v1, v2, rfl, rfl, (fun k hk => by cases hk), ⟨han, hbn, la, lb⟩, rfl, ⟨B, ab, sb, h0, hm, h2.put han hbn hne la lb wt via v1 v2⟩, hb.mono h0⟩)
    | some k =>
      by_cases hk : k ≤ wt
      · refine (oPutKeep h1 h2.ok _ _ wt via hp k hw hk).mono ?_
        rintro e w' ⟨rfl, hb⟩
        exact Or.inr (Or.inl ⟨k, rfl, hk, rfl, hb⟩)
      · refine (oPutLess h1 h2.ok _ _ wt via hp k hw (by omega) ha).mono ?_
        rintro e w' ⟨rfl, v1, v2, hm, hb⟩
        simp only [Int.toNat_natCast] at hm
        refine Or.inr (Or.inr ⟨a, b, v1, v2, rfl, rfl, (fun k' hk' => by cases hk'; omega), ⟨han, hbn, la, lb⟩, rfl, ⟨B, ab, sb, h0, ?_, h2.put han hbn hne la lb wt via v1 v2⟩, hb.mono h0⟩)
        simpa [putRows] using hm
  · refine (oPutErr h1 x y wt via hp).mono ?_
    rintro e w' ⟨rfl, rfl⟩
    exact Or.inl ⟨_, hp, rfl, rfl, Below.refl _ _⟩
theorem IsOv.remove (h : IsOv PX B0 w pb n bs R nodes arcs) (x : Int) (ha : -4611686018427000000 ≤ arcs ∧ arcs ≤ 4611686018427000000) (hnd : -4611686018427387904 ≤ nodes ∧ nodes ≤ 4611686018427387904) : Calls Tryz.prog 29 #[.pointer (some ⟨pb, 0, none⟩), .int .i64 x] w fun e w' =>
    (aliveB n bs x = false ∧ e = .returned (.iface 104 (.int .i64 7)) ∧ w' = w) ∨
    (aliveB n bs x = true ∧ ∃ (u : Nat) (R' : Bool → Nat → Rw), x = (u : Int) ∧ u < n ∧ liv bs u = true ∧ e = .returned .nilIface ∧ IsOv PX B0 w' pb n (bs.set u false) R' (nodes - 1) (arcs - ((livH bs (R false u).2.1).length : Int) - ((livH bs (R true u).2.1).length : Int)) ∧ (∀ s v, v < n → (R' s v).2 = if v = u then ([], 0) else if hasH (livH (bs.set u false) (R (!s) u).2.1) (v : Int) then loseH (bs.set u false) (R s v).2.1 (R s v).2.2 else (R s v).2) ∧ Below B0 w w') := by
  obtain ⟨B, ab, sb, h0, h1, h2⟩ := h
  cases hx : aliveB n bs x with
  | false =>
    refine (remove_err h1 x hx).mono ?_
    rintro e w' ⟨rfl, rfl⟩
    exact Or.inl ⟨rfl, rfl, rfl⟩
  | true =>
    obtain ⟨u, rfl, hu, lu⟩ := aliveB_iff.1 hx
    refine (remove_calls h1 h2.ok u hu hx (fun s => h2.self s u hu) (h2.pre hu lu) ha hnd).mono ?_
    rintro e w' ⟨rfl, R1, R2, L1, L2, K2, hm, hb⟩
    have hq : ∀ s, (livH (bs.set u false) (R s u).2.1).length = (livH bs (R s u).2.1).length := fun s => by
      have h3 := livH_drop1 (bs := bs) lu (h2.ok.rise s u hu) (fun a ha => (h2.ok.node s u hu a ha).1)
      have h4 : hasH (R s u).2.1 (u : Int) = false := by
        cases h5 : hasH (R s u).2.1 (u : Int) with
        | false => rfl
        | true =>
          obtain ⟨a, h6, h7⟩ := hasH_mem.1 h5
          exact absurd h7 (h2.self s u hu a h6)
      rw [h4] at h3
      simpa using h3.symm
    rw [hq, hq] at hm
    exact Or.inr ⟨rfl, u, _, rfl, hu, lu, rfl, ⟨B, ab, sb, h0, hm, h2.remove hu lu K2 L1 L2⟩, lost_rows L1 L2, hb.mono h0⟩
end
end Go.Proofs.YtbkclhaonbjobaaGreat
