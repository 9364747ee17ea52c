/- what holds between an overlay's rows: mathematics. what holds between an overlay's rows: behind New, Put, Remove. what holds between an overlay's rows: behind Remove. the law's compare of halves; the overlay that it wakes with. an overlay as a whole: what its calls answer and leave. the overlay law's awake. OverlayKeeps: what its walk leans on. how many arcs there are: mathematics. an overlay whose numbers tell what is there. -/
import Derived.Test.YtnclegldhafaeaaGreatDoorOwA
import Derived.BigQuiet
namespace Go.Proofs.YtnclegldhafaeaaGreatDoor
open Go.RowKit Go.Extern Go.Sort

/-- is a node alive? -/
def liv (bs : List Bool) (u : Nat) : Bool := bs[u]?.getD false
theorem liv_set (bs : List Bool) (u v : Nat) : liv (bs.set u false) v = if v = u then false else liv bs v := by
  unfold liv
  rw [List.getElem?_set]
  by_cases h : u = v
  · subst h
    simp
    split <;> rfl
  · rw [if_neg h, if_neg (fun e => h e.symm)]
theorem setH_iff {l : List H3} (hr : RiseH l) {a b : H3} : b ∈ setH l a ↔ b = a ∨ (b ∈ l ∧ b.1 ≠ a.1) := by
  unfold setH
  split
  · rename_i h
    obtain ⟨h1, h2⟩ := hasH_low hr h
    constructor
    · intro hb
      obtain ⟨i, hi⟩ := List.getElem?_of_mem hb
      rw [List.getElem?_set] at hi
      split at hi
      · simp at hi
        exact Or.inl hi.symm
      · rename_i hne
        refine Or.inr ⟨List.mem_of_getElem? hi, ?_⟩
        have hl : l[lowH l a.1]? = some l[lowH l a.1] := List.getElem?_eq_getElem h1
        have e := h2 _ hl
        rcases Nat.lt_trichotomy (lowH l a.1) i with hlt | hlt | hlt
        · have := hr.lt hl hi hlt
          omega
        · exact absurd hlt hne
        · have := hr.lt hi hl hlt
          omega
    · rintro (rfl | ⟨hb, hne⟩)
      · exact List.mem_of_getElem? (i := lowH l b.1) (by rw [List.getElem?_set]; simp [h1])
      · obtain ⟨i, hi⟩ := List.getElem?_of_mem hb
        refine List.mem_of_getElem? (i := i) ?_
        rw [List.getElem?_set, if_neg]
        · exact hi
        · intro e
          subst e
          exact hne (h2 _ hi)
  · rename_i h
    unfold insH
    rw [List.mem_append, List.mem_cons]
    constructor
    · rintro (hb | hb | hb)
      · exact Or.inr ⟨List.mem_of_mem_take hb, fun e => h (List.any_eq_true.2 ⟨b, List.mem_of_mem_take hb, by simp [e]⟩)⟩
      · exact Or.inl hb
      · exact Or.inr ⟨List.mem_of_mem_drop hb, fun e => h (List.any_eq_true.2 ⟨b, List.mem_of_mem_drop hb, by simp [e]⟩)⟩
    · rintro (hb | ⟨hb, _⟩)
      · exact Or.inr (Or.inl hb)
      · rw [← List.take_append_drop (lowH l a.1) l, List.mem_append] at hb
        rcases hb with hb | hb
        · exact Or.inl hb
        · exact Or.inr (Or.inr hb)
theorem livH_count (bs : List Bool) (l : List H3) : (livH bs l).length = (l.map (·.1)).countP (fun x => bs[x.toNat]?.getD false) := by
  unfold livH
  rw [← List.countP_eq_length_filter, List.countP_map]
  rfl
theorem set_fst {l : List H3} (hr : RiseH l) {a : H3} (h : hasH l a.1 = true) : (l.set (lowH l a.1) a).map (·.1) = l.map (·.1) := by
  obtain ⟨h1, h2⟩ := hasH_low hr h
  rw [List.map_set]
  apply List.ext_getElem?
  intro i
  rw [List.getElem?_set]
  split
  · subst_vars
    rw [List.length_map, if_pos h1, List.getElem?_map, List.getElem?_eq_getElem h1]
    simp [h2 _ (List.getElem?_eq_getElem h1)]
  · rfl
theorem livH_setH {bs : List Bool} {l : List H3} (hr : RiseH l) {a : H3} (ha : bs[a.1.toNat]?.getD false = true) : (livH bs (setH l a)).length + l.length = (livH bs l).length + (setH l a).length := by
  unfold setH
  split
  · rename_i h
    rw [livH_count, livH_count, set_fst hr h, List.length_set]
  · rw [insH_len (lowH_le _ _)]
    have e : (livH bs (insH l (lowH l a.1) a)).length = (livH bs l).length + 1 := by
      have hl : livH bs l = livH bs (l.take (lowH l a.1)) ++ livH bs (l.drop (lowH l a.1)) := by unfold livH; rw [← List.filter_append, List.take_append_drop]
      have hi : livH bs (insH l (lowH l a.1) a) = livH bs (l.take (lowH l a.1)) ++ a :: livH bs (l.drop (lowH l a.1)) := by
        unfold livH insH
        rw [List.filter_append, List.filter_cons_of_pos (p := fun b : H3 => bs[b.1.toNat]?.getD false) ha]
      rw [hl, hi]
      simp
      omega
    omega
theorem livH_twice (bs : List Bool) (l : List H3) : livH bs (livH bs l) = livH bs l := by unfold livH; rw [List.filter_filter]; simp
theorem livH_drop1 {bs : List Bool} {u : Nat} (hu : liv bs u = true) : ∀ {l : List H3}, RiseH l → (∀ a ∈ l, 0 ≤ a.1) → (livH bs l).length = (livH (bs.set u false) l).length + (if hasH l (u : Int) then 1 else 0)
  | [], _, _ => rfl
  | a :: r, hr, h0 => by
    obtain ⟨h1, h2⟩ := List.pairwise_cons.1 hr
    have ih := livH_drop1 hu h2 (fun b hb => h0 b (by simp [hb]))
    have ha0 := h0 a (by simp)
    have hs := liv_set bs u a.1.toNat
    unfold liv at hs hu
    by_cases e : a.1 = (u : Int)
    · have hno : hasH r (u : Int) = false := by
        unfold hasH
        rw [List.any_eq_false]
        intro b hb
        have := h1 b hb
        simp
        omega
      have hhas : hasH (a :: r) (u : Int) = true := by unfold hasH; simp [e]
      have et : a.1.toNat = u := by omega
      rw [et] at hs
      rw [if_pos rfl] at hs
      have c1 : livH bs (a :: r) = a :: livH bs r := by unfold livH; rw [List.filter_cons_of_pos (by rw [et]; exact hu)]
      have c2 : livH (bs.set u false) (a :: r) = livH (bs.set u false) r := by unfold livH; rw [List.filter_cons_of_neg (by rw [et, hs]; simp)]
      rw [c1, c2, hhas, if_pos rfl, List.length_cons, ih, hno]
      simp
    · have hhas : hasH (a :: r) (u : Int) = hasH r (u : Int) := by unfold hasH; simp [e]
      rw [if_neg (show ¬ a.1.toNat = u by omega)] at hs
      rw [hhas]
      cases hb : bs[a.1.toNat]?.getD false with
      | true =>
        have c1 : livH bs (a :: r) = a :: livH bs r := by unfold livH; rw [List.filter_cons_of_pos (p := fun b : H3 => bs[b.1.toNat]?.getD false) hb]
        have c2 : livH (bs.set u false) (a :: r) = a :: livH (bs.set u false) r := by unfold livH; rw [List.filter_cons_of_pos (by rw [hs]; exact hb)]
        rw [c1, c2, List.length_cons, List.length_cons, ih]
        omega
      | false =>
        have c1 : livH bs (a :: r) = livH bs r := by unfold livH; rw [List.filter_cons_of_neg (by rw [hb]; simp)]
        have c2 : livH (bs.set u false) (a :: r) = livH (bs.set u false) r := by unfold livH; rw [List.filter_cons_of_neg (by rw [hs, hb]; simp)]
        rw [c1, c2, ih]
/-- what holds between an overlay's rows. -/
structure OvInv (n : Nat) (bs : List Bool) (R : Bool → Nat → Rw) : Prop where
  ok : RowsOk n R
  dead : ∀ s u, u < n → liv bs u = false → (R s u).2 = ([], 0)
  gone : ∀ s u, u < n → (R s u).2.2 + (livH bs (R s u).2.1).length = (R s u).2.1.length
  self : ∀ s u, u < n → ∀ a ∈ (R s u).2.1, a.1 ≠ (u : Int)
  sym : ∀ s u v wt via, u < n → v < n → liv bs u = true → liv bs v = true → ((v : Int), wt, via) ∈ (R s u).2.1 → ((u : Int), wt, via) ∈ (R (!s) v).2.1
end Go.Proofs.YtnclegldhafaeaaGreatDoor

namespace Go.Proofs.YtnclegldhafaeaaGreatDoor
open Go.RowKit Go.Extern Go.Sort

theorem sideL_mem_false {zs : List (Int × Int × Int)} {u : Nat} {b : H3} : b ∈ sideL false zs u ↔ ((u : Int), b.1, b.2.1) ∈ zs ∧ b.2.2 = -1 := by
  unfold sideL
  simp only [Bool.false_eq_true, if_false, List.mem_map, List.mem_filter, decide_eq_true_eq]
  constructor
  · rintro ⟨a, ⟨h1, h2⟩, rfl⟩
    exact ⟨by rw [← h2]; exact h1, rfl⟩
  · rintro ⟨h1, h2⟩
    exact ⟨_, ⟨h1, rfl⟩, by rw [← h2]⟩
theorem sideL_mem_true {zs : List (Int × Int × Int)} {u : Nat} {b : H3} : b ∈ sideL true zs u ↔ (b.1, (u : Int), b.2.1) ∈ zs ∧ b.2.2 = -1 := by
  unfold sideL
  simp only [if_true, List.mem_map, List.mem_filter, decide_eq_true_eq]
  constructor
  · rintro ⟨a, ⟨h1, h2⟩, rfl⟩
    exact ⟨by rw [← h2]; exact h1, rfl⟩
  · rintro ⟨h1, h2⟩
    exact ⟨_, ⟨h1, rfl⟩, by rw [← h2]⟩
theorem sideL_rise {zs : List (Int × Int × Int)} (hr : RiseA zs) (s : Bool) (u : Nat) : RiseH (sideL s zs u) := by
  unfold sideL RiseH
  have hz : zs.Pairwise lessA := hr
  cases s with
  | false =>
    simp only [Bool.false_eq_true, if_false]
    rw [List.pairwise_map, List.pairwise_filter]
    refine hz.imp ?_
    intro a b hab ha hb
    unfold lessA at hab
    simp at ha hb ⊢
    omega
  | true =>
    simp only [if_true]
    rw [List.pairwise_map, List.pairwise_filter]
    refine hz.imp ?_
    intro a b hab ha hb
    unfold lessA at hab
    simp at ha hb ⊢
    omega
theorem inv_new {n : Nat} {zs : List (Int × Int × Int)} {R : Bool → Nat → Rw} (hr : RiseA zs) (hs : ∀ a ∈ zs, a.1 ≠ a.2.1) (hn : ∀ a ∈ zs, (0 ≤ a.1 ∧ a.1 < (n : Int)) ∧ (0 ≤ a.2.1 ∧ a.2.1 < (n : Int))) (hR : ∀ s u, u < n → (R s u).2 = (sideL s zs u, 0)) : OvInv n (List.replicate n true) R := by
  have hl : ∀ u, u < n → liv (List.replicate n true) u = true := fun u hu => by simp [liv, hu]
  have hnode : ∀ s u, u < n → ∀ a ∈ (R s u).2.1, 0 ≤ a.1 ∧ a.1 < (n : Int) := fun s u hu a ha => by
    rw [hR s u hu] at ha
    cases s with
    | false => exact (hn _ (sideL_mem_false.1 ha).1).2
    | true => exact (hn _ (sideL_mem_true.1 ha).1).1
  refine ⟨⟨fun s u hu => by rw [hR s u hu]; exact sideL_rise hr s u, hnode, fun s u hu => by rw [hR s u hu]; exact Nat.zero_le _⟩, fun s u hu h => (by rw [hl u hu] at h; cases h), fun s u hu => ?_, fun s u hu a ha => ?_, fun s u v wt via hu hv _ _ h => ?_⟩
  · have e : livH (List.replicate n true) (R s u).2.1 = (R s u).2.1 := by
      unfold livH
      rw [List.filter_eq_self]
      intro a ha
      obtain ⟨h0, h1⟩ := hnode s u hu a ha
      exact hl a.1.toNat (by omega)
    rw [e, hR s u hu]
    simp
  · rw [hR s u hu] at ha
    cases s with
    | false => exact fun e => hs _ (sideL_mem_false.1 ha).1 e.symm
    | true => exact hs _ (sideL_mem_true.1 ha).1
  · rw [hR s u hu] at h
    rw [hR (!s) v hv]
    cases s with
    | false => exact sideL_mem_true.2 (sideL_mem_false.1 h)
    | true => exact sideL_mem_false.2 (sideL_mem_true.1 h)

theorem OvInv.put {n : Nat} {bs : List Bool} {R : Bool → Nat → Rw} (h : OvInv n bs R) {x y : Nat} (hx : x < n) (hy : y < n) (hxy : x ≠ y) (lx : liv bs x = true) (ly : liv bs y = true) (wt via : Int) (v1 v2 : Value) :
    OvInv n bs (updS (updS R false x (v1, setH (R false x).2.1 ((y : Int), wt, via), (R false x).2.2)) true y (v2, setH (R true y).2.1 ((x : Int), wt, via), (R true y).2.2)) := by
  obtain ⟨R', hR'⟩ : ∃ R', R' = updS (updS R false x (v1, setH (R false x).2.1 ((y : Int), wt, via), (R false x).2.2)) true y (v2, setH (R true y).2.1 ((x : Int), wt, via), (R true y).2.2) := ⟨_, rfl⟩
  have rf : ∀ u, (R' false u).2 = if u = x then (setH (R false x).2.1 ((y : Int), wt, via), (R false x).2.2) else (R false u).2 := fun u => by
    rw [hR', updS_far _ true false _ _ (by simp)]
    by_cases e : u = x
    · subst e
      rw [updS_at, if_pos rfl]
    · rw [updS_other _ _ _ _ _ _ (by simp [e]), if_neg e]
  have rt : ∀ u, (R' true u).2 = if u = y then (setH (R true y).2.1 ((x : Int), wt, via), (R true y).2.2) else (R true u).2 := fun u => by
    rw [hR']
    by_cases e : u = y
    · subst e
      rw [updS_at, if_pos rfl]
    · rw [updS_other _ _ _ _ _ _ (by simp [e]), if_neg e, updS_far _ false true _ _ (by simp)]
  have hok : RowsOk n R' := by
    rw [hR']
    have h1 := h.ok.set false (u := x) v1 (a := ((y : Int), wt, via)) (by simp) (by simp; omega)
    have h2 := h1.set true (u := y) v2 (a := ((x : Int), wt, via)) (by simp) (by simp; omega)
    rw [updS_far R false true x _ (by simp)] at h2
    exact h2
  rw [← hR']
  refine ⟨hok, fun s u hu hd => ?_, fun s u hu => ?_, fun s u hu a ha => ?_, fun s u v wt' via' hu hv lu lv hm => ?_⟩
  · cases s with
    | false =>
      rw [rf, if_neg (fun e => by rw [e, lx] at hd; cases hd)]
      exact h.dead false u hu hd
    | true =>
      rw [rt, if_neg (fun e => by rw [e, ly] at hd; cases hd)]
      exact h.dead true u hu hd
  · cases s with
    | false =>
      rw [rf]
      split
      · have h1 := h.gone false x hx
        have h2 := livH_setH (bs := bs) (h.ok.rise false x hx) (a := ((y : Int), wt, via)) (by simpa [liv] using ly)
        have h3 := setH_len (R false x).2.1 ((y : Int), wt, via)
        simp only
        omega
      · exact h.gone false u hu
    | true =>
      rw [rt]
      split
      · have h1 := h.gone true y hy
        have h2 := livH_setH (bs := bs) (h.ok.rise true y hy) (a := ((x : Int), wt, via)) (by simpa [liv] using lx)
        have h3 := setH_len (R true y).2.1 ((x : Int), wt, via)
        simp only
        omega
      · exact h.gone true u hu
  · cases s with
    | false =>
      rw [rf] at ha
      split at ha
      · rename_i e
        subst e
        rcases setH_mem ha with rfl | ha
        · simp
          omega
        · exact h.self false u hx a ha
      · exact h.self false u hu a ha
    | true =>
      rw [rt] at ha
      split at ha
      · rename_i e
        subst e
        rcases setH_mem ha with rfl | ha
        · simp
          omega
        · exact h.self true u hy a ha
      · exact h.self true u hu a ha
  · cases s with
    | false =>
      rw [rf] at hm
      show _ ∈ (R' true v).2.1
      rw [rt]
      by_cases eu : u = x
      · subst eu
        rw [if_pos rfl] at hm
        rcases (setH_iff (h.ok.rise false u hu)).1 hm with e | ⟨hm, hne⟩
        · have e1 : v = y := by have := congrArg (·.1) e; simp only at this; omega
          have e2 : wt' = wt := congrArg (·.2.1) e
          have e3 : via' = via := congrArg (·.2.2) e
          subst e1 e2 e3
          rw [if_pos rfl]
          exact (setH_iff (h.ok.rise true v hv)).2 (Or.inl rfl)
        · rw [if_neg (fun e => hne (by rw [e]))]
          exact h.sym false u v wt' via' hu hv lu lv hm
      · rw [if_neg eu] at hm
        have h1 := h.sym false u v wt' via' hu hv lu lv hm
        split
        · rename_i ev
          subst ev
          exact (setH_iff (h.ok.rise true v hv)).2 (Or.inr ⟨h1, by simp; omega⟩)
        · exact h1
    | true =>
      rw [rt] at hm
      show _ ∈ (R' false v).2.1
      rw [rf]
      by_cases eu : u = y
      · subst eu
        rw [if_pos rfl] at hm
        rcases (setH_iff (h.ok.rise true u hu)).1 hm with e | ⟨hm, hne⟩
        · have e1 : v = x := by have := congrArg (·.1) e; simp only at this; omega
          have e2 : wt' = wt := congrArg (·.2.1) e
          have e3 : via' = via := congrArg (·.2.2) e
          subst e1 e2 e3
          rw [if_pos rfl]
          exact (setH_iff (h.ok.rise false v hv)).2 (Or.inl rfl)
        · rw [if_neg (fun e => hne (by rw [e]))]
          exact h.sym true u v wt' via' hu hv lu lv hm
      · rw [if_neg eu] at hm
        have h1 := h.sym true u v wt' via' hu hv lu lv hm
        split
        · rename_i ev
          subst ev
          exact (setH_iff (h.ok.rise false v hv)).2 (Or.inr ⟨h1, by simp; omega⟩)
        · exact h1
end Go.Proofs.YtnclegldhafaeaaGreatDoor

namespace Go.Proofs.YtnclegldhafaeaaGreatDoor
open Go.RowKit Go.Extern Go.Sort

theorem hasH_mem {l : List H3} {x : Int} : hasH l x = true ↔ ∃ a ∈ l, a.1 = x := by
  unfold hasH
  rw [List.any_eq_true]
  simp
section
variable {n u : Nat} {bs : List Bool} {R R1 R2 : Bool → Nat → Rw}
/-- where a node stands, its end is alive too. -/
theorem OvInv.liveEnd (h : OvInv n bs R) (s : Bool) {v : Nat} (hv : v < n) {a : H3} (ha : a ∈ (R s v).2.1) : liv bs v = true := by
  cases hl : liv bs v with
  | true => rfl
  | false => rw [h.dead s v hv hl] at ha; cases ha
/-- what Remove asks for. -/
theorem OvInv.pre (h : OvInv n bs R) (hu : u < n) (lu : liv bs u = true) : ∀ s s', s ≠ s' → ∀ a ∈ livH (bs.set u false) (R s u).2.1, (R s' a.1.toNat).2.2 + 1 ≤ (R s' a.1.toNat).2.1.length := fun s s' hss a ha => by
  obtain ⟨h1, h2⟩ := livH_mem.1 ha
  obtain ⟨n0, n1⟩ := h.ok.node s u hu a h1
  obtain ⟨m, hm⟩ : ∃ m : Nat, a.1 = (m : Int) := ⟨a.1.toNat, by omega⟩
  have hmn : m < n := by omega
  have h3 : liv (bs.set u false) m = true := by rw [hm, Int.toNat_natCast] at h2; exact h2
  rw [liv_set] at h3
  split at h3
  · cases h3
  · have he : s' = !s := by cases s <;> cases s' <;> simp_all
    have h4 := h.sym s u m a.2.1 a.2.2 hu hmn lu h3 (by rw [← hm]; exact h1)
    rw [hm, Int.toNat_natCast, he]
    have h5 := h.gone (!s) m hmn
    have h6 : ((u : Int), a.2.1, a.2.2) ∈ livH bs (R (!s) m).2.1 := livH_mem.2 ⟨h4, by simpa [liv] using lu⟩
    have h7 := List.length_pos_of_mem h6
    omega
/-- the rows behind a Remove. -/
theorem lost_rows (L1 : LostR n (bs.set u false) true (R false u).2.1 R R1) (L2 : LostR n (bs.set u false) false (R true u).2.1 R1 R2) : ∀ s v, v < n → ((updS (updS R2 false u nilR) true u nilR) s v).2 = if v = u then ([], 0) else if hasH (livH (bs.set u false) (R (!s) u).2.1) (v : Int) then loseH (bs.set u false) (R s v).2.1 (R s v).2.2 else (R s v).2 := fun s v hv => by
  by_cases e : v = u
  · subst e
    rw [if_pos rfl]
    cases s with
    | false => rw [updS_far _ true false _ _ (by simp), updS_at]; rfl
    | true => rw [updS_at]; rfl
  · rw [if_neg e]
    cases s with
    | false =>
      rw [updS_far _ true false _ _ (by simp), updS_other _ _ _ _ _ _ (by simp [e])]
      have e1 : R1 false v = R false v := (L1 false v hv).2 (fun h => by cases h.1)
      split
      · rename_i hh
        rw [(L2 false v hv).1 ⟨rfl, hh⟩, e1]
      · rename_i hh
        rw [(L2 false v hv).2 (fun h => hh h.2), e1]
    | true =>
      rw [updS_other _ _ _ _ _ _ (by simp [e]), updS_far _ false true _ _ (by simp)]
      rw [(L2 true v hv).2 (fun h => by cases h.1)]
      split
      · rename_i hh
        rw [(L1 true v hv).1 ⟨rfl, hh⟩]
      · rename_i hh
        rw [(L1 true v hv).2 (fun h => hh h.2)]
theorem OvInv.remove (h : OvInv n bs R) (hu : u < n) (lu : liv bs u = true) (hk : RowsOk n R2) (L1 : LostR n (bs.set u false) true (R false u).2.1 R R1) (L2 : LostR n (bs.set u false) false (R true u).2.1 R1 R2) : OvInv n (bs.set u false) (updS (updS R2 false u nilR) true u nilR) := by
  have hrows := lost_rows L1 L2
  have hsub : ∀ s v, v < n → ∀ a ∈ ((updS (updS R2 false u nilR) true u nilR) s v).2.1, a ∈ (R s v).2.1 ∧ v ≠ u := fun s v hv a ha => by
    rw [hrows s v hv] at ha
    split at ha
    · cases ha
    · rename_i e
      refine ⟨?_, e⟩
      split at ha
      · unfold loseH at ha
        split at ha
        · exact (livH_mem.1 ha).1
        · exact ha
      · exact ha
  have hsup : ∀ s v, v < n → v ≠ u → ∀ a ∈ (R s v).2.1, (bs.set u false)[a.1.toNat]?.getD false = true → a ∈ ((updS (updS R2 false u nilR) true u nilR) s v).2.1 := fun s v hv e a ha hl => by
    rw [hrows s v hv, if_neg e]
    split
    · unfold loseH
      split
      · exact livH_mem.2 ⟨ha, hl⟩
      · exact ha
    · exact ha
  have hok : RowsOk n (updS (updS R2 false u nilR) true u nilR) := by
    refine ⟨fun s v hv => ?_, fun s v hv a ha => h.ok.node s v hv a (hsub s v hv a ha).1, fun s v hv => ?_⟩
    · by_cases e : v = u
      · rw [hrows s v hv, if_pos e]
        exact List.Pairwise.nil
      · cases s with
        | false => rw [updS_far _ true false _ _ (by simp), updS_other _ _ _ _ _ _ (by simp [e])]; exact hk.rise false v hv
        | true => rw [updS_other _ _ _ _ _ _ (by simp [e]), updS_far _ false true _ _ (by simp)]; exact hk.rise true v hv
    · by_cases e : v = u
      · rw [hrows s v hv, if_pos e]
        exact Nat.le_refl _
      · cases s with
        | false => rw [updS_far _ true false _ _ (by simp), updS_other _ _ _ _ _ _ (by simp [e])]; exact hk.gone false v hv
        | true => rw [updS_other _ _ _ _ _ _ (by simp [e]), updS_far _ false true _ _ (by simp)]; exact hk.gone true v hv
  refine ⟨hok, fun s v hv hd => ?_, fun s v hv => ?_, fun s v hv a ha => h.self s v hv a (hsub s v hv a ha).1, fun s v x wt via hv hx lv lx hm => ?_⟩
  · rw [hrows s v hv]
    split
    · rfl
    · rename_i e
      rw [liv_set, if_neg e] at hd
      have hz := h.dead s v hv hd
      rw [if_neg]
      · exact hz
      · intro hh
        obtain ⟨a, ha, hav⟩ := hasH_mem.1 hh
        have h2 := (livH_mem.1 ha).2
        rw [hav, Int.toNat_natCast] at h2
        have h3 : liv (bs.set u false) v = true := h2
        rw [liv_set, if_neg e, hd] at h3
        cases h3
  · rw [hrows s v hv]
    split
    · rfl
    · rename_i e
      have hg := h.gone s v hv
      have hd := livH_drop1 (bs := bs) lu (h.ok.rise s v hv) (fun a ha => (h.ok.node s v hv a ha).1)
      split
      · rename_i hh
        unfold loseH
        split
        · simp only [livH_twice]
          omega
        · obtain ⟨a, ha, hav⟩ := hasH_mem.1 hh
          have h1 := (livH_mem.1 ha).1
          have h2 := (livH_mem.1 ha).2
          rw [hav, Int.toNat_natCast] at h2
          have h3 : liv (bs.set u false) v = true := h2
          rw [liv_set, if_neg e] at h3
          have h4 := h.sym (!s) u v a.2.1 a.2.2 hu hv lu h3 (by rw [← hav]; exact h1)
          rw [Bool.not_not] at h4
          have h5 : hasH (R s v).2.1 (u : Int) = true := hasH_mem.2 ⟨_, h4, rfl⟩
          rw [h5, if_pos rfl] at hd
          simp only
          omega
      · rename_i hh
        have h5 : hasH (R s v).2.1 (u : Int) = false := by
          cases h6 : hasH (R s v).2.1 (u : Int) with
          | false => rfl
          | true =>
            exfalso
            obtain ⟨a, ha, hau⟩ := hasH_mem.1 h6
            have lv := h.liveEnd s hv ha
            have h4 := h.sym s v u a.2.1 a.2.2 hv hu lv lu (by rw [← hau]; exact ha)
            apply hh
            refine hasH_mem.2 ⟨_, livH_mem.2 ⟨h4, ?_⟩, rfl⟩
            have h7 : liv (bs.set u false) v = true := by rw [liv_set, if_neg e]; exact lv
            simpa [liv] using h7
        rw [h5] at hd
        simp at hd
        omega
  · obtain ⟨h1, h2⟩ := hsub s v hv _ hm
    have hxu : x ≠ u := fun e => by rw [liv_set, if_pos e] at lx; cases lx
    have lv' := lv
    rw [liv_set, if_neg h2] at lv'
    rw [liv_set, if_neg hxu] at lx
    exact hsup (!s) x hx hxu _ (h.sym s v x wt via hv hx lv' lx h1) (by simpa [liv] using lv)
end
end Go.Proofs.YtnclegldhafaeaaGreatDoor

namespace Go.Proofs.YtnclegldhafaeaaGreatDoor
open Go.RowKit Go.Extern Go.Sort

attribute [local go_sem] Oper.semAt_some

set_option maxRecDepth 100000 in
set_option maxHeartbeats 2000000 in
theorem same11_yes (ao bo : Option Addr) (ac bc : Nat) (l : List H3) (w : World) (ha : HasHs w (.slice ao l.length ac) l) (hb : HasHs w (.slice bo l.length bc) l) (hl : l.length ≤ 262144) :
    Calls Tryz.prog 11 #[.slice ao l.length ac, .slice bo l.length bc] w fun e w' => e = .returned (.bool true) ∧ Below w.heap.size w w' := by
  have HA : Hid (HasHs w (.slice ao l.length ac) l ∧ HasHs w (.slice bo l.length bc) l) := ⟨ha, hb⟩
  clear ha hb
  go_enter Tryz.func11, Tryz.ntmps11
  go_wp2_with fail
  go_loopw [13] (fun iv wr => ∃ k : Nat, k ≤ l.length ∧ iv = .int .i64 (k : Nat) ∧ Below w.heap.size w wr) (fun iv _ => l.length - (intOf iv).toNat)
  case atStart => exact ⟨0, Nat.zero_le _, rfl, Below.refl _ _⟩
  case round =>
    obtain ⟨k, hk, rfl, hB⟩ := hrel
    have HB : Hid (Below w.heap.size w wr) := hB
    clear hB
    by_cases hlt : k < l.length
    · obtain ⟨a, hal⟩ : ∃ a, l[k]? = some a := ⟨l[k], List.getElem?_eq_getElem hlt⟩
      obtain ⟨b1, o1, rfl, l1, c0, c1, c2⟩ := (HA.out.1.keep HB.out).at hal
      obtain ⟨b2, o2, rfl, l2, d0, d1, d2⟩ := (HA.out.2.keep HB.out).at hal
      have i1 : (k : Int) < (l.length : Int) := by omega
      have i2 : (0 : Int) ≤ (k : Int) := by omega
      clear hal
      go_wp2_with fail
      go_quiet (fail)
      go_wp2
      go_roundw
      case rel => exact ⟨k + 1, by omega, by go_num, HB.out.os, HB.out.tape, HB.out.output, HB.out.size, HB.out.block⟩
      case measure => simp [intOf]; omega
    · obtain rfl : k = l.length := by omega
      go_wp2
      go_ret
      exact ⟨rfl, HB.out⟩
end Go.Proofs.YtnclegldhafaeaaGreatDoor

namespace Go.Proofs.YtnclegldhafaeaaGreatDoor
open Go.RowKit Go.Extern Go.Sort

/-- an overlay, all of it above a base. -/
def IsOv (PX : Nat → Option Obj) (B0 : Nat) (w : World) (pb n : Nat) (bs : List Bool) (R : Bool → Nat → Rw) (nodes arcs : Int) : Prop := ∃ B ab sb, B0 ≤ B ∧ OvMem PX w B pb ab sb n bs R nodes arcs ∧ OvInv n bs R
section
variable {PX : Nat → Option Obj} {w w' : World} {B0 pb n : Nat} {bs : List Bool} {R : Bool → Nat → Rw} {nodes arcs : Int}
theorem IsOv.keep (h : IsOv PX B0 w pb n bs R nodes arcs) (hb : Below w.heap.size w w') : IsOv PX B0 w' pb n bs R nodes arcs := by
  obtain ⟨B, ab, sb, h0, h1, h2⟩ := h
  exact ⟨B, ab, sb, h0, h1.keep hb, h2⟩
theorem IsOv.size (h : IsOv PX B0 w pb n bs R nodes arcs) : B0 ≤ w.heap.size := by
  obtain ⟨B, ab, sb, h0, h1, h2⟩ := h
  exact Nat.le_trans h0 h1.size
theorem IsOv.inv (h : IsOv PX B0 w pb n bs R nodes arcs) : OvInv n bs R := by
  obtain ⟨B, ab, sb, h0, h1, h2⟩ := h
  exact h2
theorem IsOv.bl (h : IsOv PX B0 w pb n bs R nodes arcs) : bs.length = n ∧ n ≤ 65536 := by
  obtain ⟨B, ab, sb, h0, h1, h2⟩ := h
  exact ⟨h1.bl, h1.big⟩
theorem IsOv.rowLen (h : IsOv PX B0 w pb n bs R nodes arcs) (s : Bool) {u : Nat} (hu : u < n) : (R s u).2.1.length ≤ 65536 := by
  obtain ⟨B, ab, sb, h0, h1, h2⟩ := h
  exact h1.len h2.ok s hu
theorem aliveB_iff {x : Int} : aliveB n bs x = true ↔ ∃ u : Nat, x = (u : Int) ∧ u < n ∧ liv bs u = true := by
  unfold aliveB isN liv
  constructor
  · intro h
    simp at h
    exact ⟨x.toNat, by omega, by omega, by simpa using h.2⟩
  · rintro ⟨u, rfl, h1, h2⟩
    simp [h1]
    exact by simpa using h2
theorem ov_new (ao : Option Addr) (k0 cap : Nat) (xs : List (Int × Int × Int)) (w : World) (hl : HasArcs w (.slice ao k0 cap) xs) (hg : graphErr (n : Int) xs = (0, [])) :
    Calls Tryz.prog 5 #[.agg #[.int .i64 n, .slice ao k0 cap]] w fun e w' => ∃ pb R, e = .returned (.tuple #[.pointer (some ⟨pb, 0, none⟩), .nilIface]) ∧ IsOv noP w.heap.size w' pb n (List.replicate n true) R (n : Int) ((normA xs).length : Int) ∧ (∀ s u, u < n → (R s u).2 = (sideL s (normA xs) u, 0)) ∧ Below w.heap.size w w' := by
  obtain ⟨h1, h2⟩ := (good_iff _ _).1 (good_norm hg)
  have hfin : ∀ a ∈ normA xs, (0 ≤ a.1 ∧ a.1 < (n : Int)) ∧ (0 ≤ a.2.1 ∧ a.2.1 < (n : Int)) ∧ 0 ≤ a.2.2 ∧ a.2.2 ≤ 9223372036854775807 := fun a ha => by
    have h3 := h2 a ha
    unfold arcBad at h3
    split at h3
    · cases h3
    · split at h3
      · cases h3
      · refine ⟨⟨?_, ?_⟩, ⟨?_, ?_⟩, ?_, ?_⟩ <;> omega
  refine (onew_good n (by omega) ao k0 cap xs w hl hg hfin (by omega)).mono ?_
  rintro e w' ⟨B, pb, ab, sb, R, rfl, hB, hM, hR, hb⟩
  exact ⟨pb, R, rfl, ⟨B, ab, sb, hB, hM, inv_new (normA_norm xs).rise (fun a ha => (norm_sub ha).2) (fun a ha => ⟨(hfin a ha).1, (hfin a ha).2.1⟩) hR⟩, hR, hb⟩
theorem IsOv.weight (h : IsOv PX B0 w pb n bs R nodes arcs) (x y : Int) : Calls Tryz.prog 33 #[.pointer (some ⟨pb, 0, none⟩), .int .i64 x, .int .i64 y] w fun e w' => e = .returned (.tuple #[.int .u64 ((weightM n bs R x y).getD 0), .bool (weightM n bs R x y).isSome]) ∧ Below w.heap.size w w' := by
  obtain ⟨B, ab, sb, h0, h1, h2⟩ := h
  exact weight_calls h1 h2.ok x y
theorem IsOv.narcs (h : IsOv PX B0 w pb n bs R nodes arcs) : Calls Tryz.prog 17 #[.pointer (some ⟨pb, 0, none⟩)] w fun e w' => e = .returned (.int .i64 arcs) ∧ w' = w := by
  obtain ⟨B, ab, sb, h0, h1, h2⟩ := h
  exact oarcs_calls h1
theorem IsOv.len (h : IsOv PX B0 w pb n bs R nodes arcs) : Calls Tryz.prog 16 #[.pointer (some ⟨pb, 0, none⟩)] w fun e w' => e = .returned (.int .i64 nodes) ∧ w' = w := by
  obtain ⟨B, ab, sb, h0, h1, h2⟩ := h
  exact olen_calls h1
theorem IsOv.alive (h : IsOv PX B0 w pb n bs R nodes arcs) (x : Int) : Calls Tryz.prog 20 #[.pointer (some ⟨pb, 0, none⟩), .int .i64 x] w fun e w' => e = .returned (.bool (aliveB n bs x)) ∧ w' = w := by
  obtain ⟨B, ab, sb, h0, h1, h2⟩ := h
  exact alive_calls h1 x
theorem IsOv.out (h : IsOv PX B0 w pb n bs R nodes arcs) (x : Int) : Calls Tryz.prog 12 #[.pointer (some ⟨pb, 0, none⟩), .int .i64 x] w fun e w' => ∃ v' : Value, e = .returned v' ∧ (aliveB n bs x = false → v' = .slice none 0 0) ∧ (aliveB n bs x = true → w'.ownsRow w.heap.size 71 3 v' (livH bs (R false x.toNat).2.1).length (flatH (livH bs (R false x.toNat).2.1))) ∧ Below w.heap.size w w' := by
  obtain ⟨B, ab, sb, h0, h1, h2⟩ := h
  exact out_calls h1 h2.ok x
theorem IsOv.inn (h : IsOv PX B0 w pb n bs R nodes arcs) (x : Int) : Calls Tryz.prog 14 #[.pointer (some ⟨pb, 0, none⟩), .int .i64 x] w fun e w' => ∃ v' : Value, e = .returned v' ∧ (aliveB n bs x = false → v' = .slice none 0 0) ∧ (aliveB n bs x = true → w'.ownsRow w.heap.size 71 3 v' (livH bs (R true x.toNat).2.1).length (flatH (livH bs (R true x.toNat).2.1))) ∧ Below w.heap.size w w' := by
  obtain ⟨B, ab, sb, h0, h1, h2⟩ := h
  exact in_calls h1 h2.ok x
/-- what a Put leaves, where it puts something. -/
def putRows (R : Bool → Nat → Rw) (x y : Nat) (wt via : Int) (v1 v2 : Value) : Bool → Nat → Rw := updS (updS R false x (v1, setH (R false x).2.1 ((y : Int), wt, via), (R false x).2.2)) true y (v2, setH (R true y).2.1 ((x : Int), wt, via), (R true y).2.2)
theorem IsOv.put (h : IsOv PX B0 w pb n bs R nodes arcs) (x y wt via : Int) (ha : -4611686018427387904 ≤ arcs ∧ arcs ≤ 4611686018427387904) : Calls Tryz.prog 19 #[.pointer (some ⟨pb, 0, none⟩), .int .i64 x, .int .i64 y, .int .u64 wt, .int .i64 via] w fun e w' =>
    (∃ c, c ≠ 0 ∧ putErr n bs x y wt via = c ∧ e = .returned (.tuple #[.bool false, .iface 73 (.int .i64 c)]) ∧ Below w.heap.size w w') ∨
    (∃ k, weightM n bs R x y = some k ∧ k ≤ wt ∧ e = .returned (.tuple #[.bool false, .nilIface]) ∧ Below w.heap.size w w') ∨
    (∃ (a b : Nat) (v1 v2 : Value), x = (a : Int) ∧ y = (b : Int) ∧ (∀ k, weightM n bs R x y = some k → wt < k) ∧ (a < n ∧ b < n ∧ liv bs a = true ∧ liv bs b = true) ∧ e = .returned (.tuple #[.bool true, .nilIface]) ∧ IsOv PX B0 w' pb n bs (putRows R a b wt via v1 v2) nodes (arcs + (if (weightM n bs R x y).isNone then 1 else 0)) ∧ Below B0 w w') := by
  obtain ⟨B, ab, sb, h0, h1, h2⟩ := h
  by_cases hp : putErr n bs x y wt via = 0
  · obtain ⟨a, b, rfl, rfl, han, hbn, hab, lx, ly⟩ := putErr_zero hp
    have la : liv bs a = true := by obtain ⟨u, e, _, h⟩ := aliveB_iff.1 lx; have : a = u := by omega
                                    subst this; exact h
    have lb : liv bs b = true := by obtain ⟨u, e, _, h⟩ := aliveB_iff.1 ly; have : b = u := by omega
                                    subst this; exact h
    have hne : a ≠ b := fun e => hab (by rw [e])
    cases hw : weightM n bs R (a : Int) (b : Int) with
    | none =>
      refine (oPutNew h1 h2.ok _ _ wt via hp hw ha).mono ?_
      rintro e w' ⟨rfl, v1, v2, hm, hb⟩
      simp only [Int.toNat_natCast] at hm
      exact Or.inr (Or.inr ⟨a, b, v1, v2, rfl, rfl, (fun k hk => by cases hk), ⟨han, hbn, la, lb⟩, rfl, ⟨B, ab, sb, h0, hm, h2.put han hbn hne la lb wt via v1 v2⟩, hb.mono h0⟩)
    | some k =>
      by_cases hk : k ≤ wt
      · refine (oPutKeep h1 h2.ok _ _ wt via hp k hw hk).mono ?_
        rintro e w' ⟨rfl, hb⟩
        exact Or.inr (Or.inl ⟨k, rfl, hk, rfl, hb⟩)
      · refine (oPutLess h1 h2.ok _ _ wt via hp k hw (by omega) ha).mono ?_
        rintro e w' ⟨rfl, v1, v2, hm, hb⟩
        simp only [Int.toNat_natCast] at hm
        refine Or.inr (Or.inr ⟨a, b, v1, v2, rfl, rfl, (fun k' hk' => by cases hk'; omega), ⟨han, hbn, la, lb⟩, rfl, ⟨B, ab, sb, h0, ?_, h2.put han hbn hne la lb wt via v1 v2⟩, hb.mono h0⟩)
        simpa [putRows] using hm
  · refine (oPutErr h1 x y wt via hp).mono ?_
    rintro e w' ⟨rfl, rfl⟩
    exact Or.inl ⟨_, hp, rfl, rfl, Below.refl _ _⟩
theorem IsOv.remove (h : IsOv PX B0 w pb n bs R nodes arcs) (x : Int) (ha : -4611686018427000000 ≤ arcs ∧ arcs ≤ 4611686018427000000) (hnd : -4611686018427387904 ≤ nodes ∧ nodes ≤ 4611686018427387904) : Calls Tryz.prog 18 #[.pointer (some ⟨pb, 0, none⟩), .int .i64 x] w fun e w' =>
    (aliveB n bs x = false ∧ e = .returned (.iface 73 (.int .i64 7)) ∧ w' = w) ∨
    (aliveB n bs x = true ∧ ∃ (u : Nat) (R' : Bool → Nat → Rw), x = (u : Int) ∧ u < n ∧ liv bs u = true ∧ e = .returned .nilIface ∧ IsOv PX B0 w' pb n (bs.set u false) R' (nodes - 1) (arcs - ((livH bs (R false u).2.1).length : Int) - ((livH bs (R true u).2.1).length : Int)) ∧ (∀ s v, v < n → (R' s v).2 = if v = u then ([], 0) else if hasH (livH (bs.set u false) (R (!s) u).2.1) (v : Int) then loseH (bs.set u false) (R s v).2.1 (R s v).2.2 else (R s v).2) ∧ Below B0 w w') := by
  obtain ⟨B, ab, sb, h0, h1, h2⟩ := h
  cases hx : aliveB n bs x with
  | false =>
    refine (remove_err h1 x hx).mono ?_
    rintro e w' ⟨rfl, rfl⟩
    exact Or.inl ⟨rfl, rfl, rfl⟩
  | true =>
    obtain ⟨u, rfl, hu, lu⟩ := aliveB_iff.1 hx
    refine (remove_calls h1 h2.ok u hu hx (fun s => h2.self s u hu) (h2.pre hu lu) ha hnd).mono ?_
    rintro e w' ⟨rfl, R1, R2, L1, L2, K2, hm, hb⟩
    have hq : ∀ s, (livH (bs.set u false) (R s u).2.1).length = (livH bs (R s u).2.1).length := fun s => by
      have h3 := livH_drop1 (bs := bs) lu (h2.ok.rise s u hu) (fun a ha => (h2.ok.node s u hu a ha).1)
      have h4 : hasH (R s u).2.1 (u : Int) = false := by
        cases h5 : hasH (R s u).2.1 (u : Int) with
        | false => rfl
        | true =>
          obtain ⟨a, h6, h7⟩ := hasH_mem.1 h5
          exact absurd h7 (h2.self s u hu a h6)
      rw [h4] at h3
      simpa using h3.symm
    rw [hq, hq] at hm
    exact Or.inr ⟨rfl, u, _, rfl, hu, lu, rfl, ⟨B, ab, sb, h0, hm, h2.remove hu lu K2 L1 L2⟩, lost_rows L1 L2, hb.mono h0⟩
end
end Go.Proofs.YtnclegldhafaeaaGreatDoor

namespace Go.Proofs.YtnclegldhafaeaaGreatDoor
open Go.RowKit Go.Extern Go.Sort

attribute [local go_sem] Oper.semAt_some

def xsO : List (Int × Int × Int) := [(0, 1, 3), (1, 2, 1)]
theorem xsO_good : graphErr ((3 : Nat) : Int) xsO = (0, []) := by kernel_rfl
theorem xsO_norm : normA xsO = xsO := by kernel_rfl
/-- the flags behind the law's first Remove. -/
def bsO : List Bool := (List.replicate 3 true).set 1 false
theorem wakeRows {R R' : Bool → Nat → Rw} (hR : ∀ s u, u < 3 → (R s u).2 = (sideL s xsO u, 0)) (hL : ∀ s v, v < 3 → (R' s v).2 = if v = 1 then ([], 0) else if hasH (livH ((List.replicate 3 true).set 1 false) (R (!s) 1).2.1) (v : Int) then loseH ((List.replicate 3 true).set 1 false) (R s v).2.1 (R s v).2.2 else (R s v).2) : (R' false 0).2 = ([], 0) ∧ (R' true 2).2 = ([], 0) := by
  refine ⟨?_, ?_⟩
  · rw [hL false 0 (by decide), if_neg (by decide), Bool.not_false, hR true 1 (by decide), hR false 0 (by decide)]
    rfl
  · rw [hL true 2 (by decide), if_neg (by decide), Bool.not_true, hR false 1 (by decide), hR true 2 (by decide)]
    rfl
theorem wakeErr : putErr 3 bsO 0 2 4 1 = 0 := by kernel_rfl
theorem wakeW {R' : Bool → Nat → Rw} (h : (R' false 0).2 = ([], 0)) : weightM 3 bsO R' 0 2 = none := by
  unfold weightM
  rw [show (0 : Int).toNat = 0 from rfl, h]
  rfl
theorem wakeOut {R' : Bool → Nat → Rw} {v1 v2 : Value} (h : (R' false 0).2 = ([], 0)) : livH bsO (putRows R' 0 2 4 1 v1 v2 false 0).2.1 = [(2, 4, 1)] := by
  unfold putRows
  rw [updS_far _ true false _ _ (by simp), updS_at, h]
  rfl
theorem wakeIn {R' : Bool → Nat → Rw} {v1 v2 : Value} (h : (R' true 2).2 = ([], 0)) : livH bsO (putRows R' 0 2 4 1 v1 v2 true 2).2.1 = [(0, 4, 1)] := by
  unfold putRows
  rw [updS_at, h]
  rfl
theorem arcs_two (w : World) : HasArcs (w.alloc (.cells #[.int .i64 0, .int .i64 1, .int .i64 3, .int .i64 1, .int .i64 2, .int .i64 1] 55)) (.slice (some ⟨w.heap.size, 0, none⟩) 2 2) xsO := by
  have k0 := heap_new w (.cells #[.int .i64 0, .int .i64 1, .int .i64 3, .int .i64 1, .int .i64 2, .int .i64 1] 55)
  generalize w.alloc (.cells #[.int .i64 0, .int .i64 1, .int .i64 3, .int .i64 1, .int .i64 2, .int .i64 1] 55) = W0 at *
  refine ⟨_, 2, rfl, fun j a hj => ⟨w.heap.size, 0, rfl, lt_of_get k0, ?_⟩⟩
  rcases j with _ | _ | j <;> simp [xsO] at hj <;> subst hj <;> simp [World.cell?, k0]

set_option maxRecDepth 100000 in
set_option maxHeartbeats 4000000 in
theorem awake11_calls (w : World) : Calls Tryz.prog 4 #[] w fun e w' => e = .returned (.bool true) ∧ Below w.heap.size w w' := by
  obtain ⟨W0, hW0⟩ : ∃ W0, w.alloc (.cells #[.int .i64 0, .int .i64 1, .int .i64 3, .int .i64 1, .int .i64 2, .int .i64 1] 55) = W0 := ⟨_, rfl⟩
  have hB0 : Below w.heap.size w W0 := by rw [← hW0]; exact (Below.refl _ w).alloc (Nat.le_refl _) _
  have hA := arcs_two w
  rw [hW0] at hA
  have hnw := ov_new (n := 3) (some ⟨w.heap.size, 0, none⟩) 2 2 xsO W0 hA xsO_good
  rw [xsO_norm] at hnw
  have HNW : Hid (type_of% hnw) := hnw
  have HW0 : Hid (w.alloc (.cells #[.int .i64 0, .int .i64 1, .int .i64 3, .int .i64 1, .int .i64 2, .int .i64 1] 55) = W0) := hW0
  have HB0 : Hid (Below w.heap.size w W0) := hB0
  clear hB0 hA hW0 hnw
  go_enter Tryz.func4, Tryz.ntmps4
  go_wp2_with fail
  rw [HW0.out]
  refine HNW.out.mono ?_
  rintro e w1 ⟨pb, R, rfl, hO1, hR1, hb1⟩
  have HO1 : Hid (IsOv noP w.heap.size w1 pb 3 (List.replicate 3 true) R 3 2) := by
    obtain ⟨B, ab, sb, h0, h1, h2⟩ := hO1
    exact ⟨B, ab, sb, Nat.le_trans HB0.out.size h0, h1, h2⟩
  have HR1 : Hid (type_of% hR1) := hR1
  have HB1 : Hid (Below w.heap.size w w1) := HB0.out.trans (hb1.mono HB0.out.size)
  clear hO1 hR1 hb1
  go_wp2_with fail
  refine HO1.out.len.mono ?_
  rintro e w1' ⟨rfl, hw⟩
  subst hw
  go_wp2_with fail
  refine HO1.out.narcs.mono ?_
  rintro e w1'' ⟨rfl, hw⟩
  subst hw
  go_wp2_with fail
  refine (HO1.out.remove 1 (by omega) (by omega)).mono ?_
  rintro e w2 (⟨h1, _, _⟩ | ⟨_, u, R', hu, _, _, rfl, hO2, hL, hb2⟩)
  · exact absurd h1 (by decide)
  obtain rfl : u = 1 := by omega
  have hq := wakeRows HR1.out hL
  have HO2 : Hid (∃ ar, IsOv noP w.heap.size w2 pb 3 bsO R' 2 ar ∧ (-4611686018427387904 ≤ ar ∧ ar ≤ 4611686018427387904)) := ⟨_, hO2, by have h1 := HO1.out.rowLen false (u := 1) (by omega); have h2 := HO1.out.rowLen true (u := 1) (by omega); have h3 := livH_len (List.replicate 3 true) (R false 1).2.1; have h4 := livH_len (List.replicate 3 true) (R true 1).2.1; omega⟩
  have HQ : Hid (type_of% hq) := hq
  have HB2 : Hid (Below w.heap.size w w2) := HB1.out.trans hb2
  clear hO2 hL hb2 hq hu
  obtain ⟨ar, ho2, har⟩ := HO2.out
  have hpt := ho2.put 0 2 4 1 har
  have HPT : Hid (type_of% hpt) := hpt
  clear ho2 har hpt
  go_wp2_with fail
  refine HPT.out.mono ?_
  rintro e w3 (⟨c, hc, hp, _⟩ | ⟨k, hk, _⟩ | ⟨a, b, v1, v2, ha, hb, _, _, rfl, hO3, hb3⟩)
  · exact absurd (hp.symm.trans wakeErr) hc
  · rw [wakeW HQ.out.1] at hk
    cases hk
  obtain rfl : a = 0 := by omega
  obtain rfl : b = 2 := by omega
  have HO3 : Hid (type_of% hO3) := hO3
  have HB3 : Hid (Below w.heap.size w w3) := HB2.out.trans hb3
  clear hO3 hb3 ha hb
  go_wp2_with fail
  refine (HO3.out.out 0).mono ?_
  rintro e w4 ⟨vo, rfl, _, ho4, hb4⟩
  have ho4 := ho4 (by kernel_rfl)
  rw [show (0 : Int).toNat = 0 from rfl, wakeOut HQ.out.1] at ho4
  obtain ⟨so, sc, hv⟩ := rowH_slice ho4
  subst hv
  have HO4 : Hid (IsOv noP w.heap.size w4 pb 3 bsO (putRows R' 0 2 4 1 v1 v2) 2 _) := HO3.out.keep hb4
  have HS4 : Hid (HasHs w4 (.slice so 1 sc) [(2, 4, 1)]) := hs_of_rowH ho4
  have HB4 : Hid (Below w.heap.size w w4) := HB3.out.trans (hb4.mono HB3.out.size)
  clear ho4 hb4
  have HSA : Hid (Calls Tryz.prog 11 #[.slice so 1 sc, .slice (some ⟨w4.heap.size, 0, none⟩) 1 1] (w4.alloc (.cells #[.int .i64 2, .int .u64 4, .int .i64 1] 61)) fun e w' => e = .returned (.bool true) ∧ Below w4.heap.size w4 w') := by
    have hbA : Below w4.heap.size w4 (w4.alloc (.cells #[.int .i64 2, .int .u64 4, .int .i64 1] 61)) := (Below.refl _ w4).alloc (Nat.le_refl _) _
    refine (same11_yes so (some ⟨w4.heap.size, 0, none⟩) sc 1 [(2, 4, 1)] _ (HS4.out.keep hbA) (hs_one w4 (2, 4, 1) 61) (by decide)).mono ?_
    rintro e w' ⟨rfl, hb⟩
    exact ⟨rfl, hbA.trans (hb.mono hbA.size)⟩
  go_wp2_with fail
  refine HSA.out.mono ?_
  rintro e w5 ⟨rfl, hb5⟩
  have HO5 : Hid (IsOv noP w.heap.size w5 pb 3 bsO (putRows R' 0 2 4 1 v1 v2) 2 _) := HO4.out.keep hb5
  have HB5 : Hid (Below w.heap.size w w5) := HB4.out.trans (hb5.mono HB4.out.size)
  clear hb5
  go_wp2_with fail
  refine (HO5.out.inn 2).mono ?_
  rintro e w6 ⟨vi, rfl, _, ho6, hb6⟩
  have ho6 := ho6 (by kernel_rfl)
  rw [show (2 : Int).toNat = 2 from rfl, wakeIn HQ.out.2] at ho6
  obtain ⟨to', tc, hv⟩ := rowH_slice ho6
  subst hv
  have HO6 : Hid (IsOv noP w.heap.size w6 pb 3 bsO (putRows R' 0 2 4 1 v1 v2) 2 _) := HO5.out.keep hb6
  have HS6 : Hid (HasHs w6 (.slice to' 1 tc) [(0, 4, 1)]) := hs_of_rowH ho6
  have HB6 : Hid (Below w.heap.size w w6) := HB5.out.trans (hb6.mono HB5.out.size)
  clear ho6 hb6
  have HSB : Hid (Calls Tryz.prog 11 #[.slice to' 1 tc, .slice (some ⟨w6.heap.size, 0, none⟩) 1 1] (w6.alloc (.cells #[.int .i64 0, .int .u64 4, .int .i64 1] 61)) fun e w' => e = .returned (.bool true) ∧ Below w6.heap.size w6 w') := by
    have hbA : Below w6.heap.size w6 (w6.alloc (.cells #[.int .i64 0, .int .u64 4, .int .i64 1] 61)) := (Below.refl _ w6).alloc (Nat.le_refl _) _
    refine (same11_yes to' (some ⟨w6.heap.size, 0, none⟩) tc 1 [(0, 4, 1)] _ (HS6.out.keep hbA) (hs_one w6 (0, 4, 1) 61) (by decide)).mono ?_
    rintro e w' ⟨rfl, hb⟩
    exact ⟨rfl, hbA.trans (hb.mono hbA.size)⟩
  go_wp2_with fail
  refine HSB.out.mono ?_
  rintro e w7 ⟨rfl, hb7⟩
  have HO7 : Hid (IsOv noP w.heap.size w7 pb 3 bsO (putRows R' 0 2 4 1 v1 v2) 2 _) := HO6.out.keep hb7
  have HB7 : Hid (Below w.heap.size w w7) := HB6.out.trans (hb7.mono HB6.out.size)
  have hal := HO7.out.alive 1
  rw [show aliveB 3 bsO 1 = false by kernel_rfl] at hal
  have HAL : Hid (type_of% hal) := hal
  clear hb7 hal
  go_wp2_with fail
  refine HAL.out.mono ?_
  rintro e w8 ⟨rfl, hw⟩
  subst hw
  go_wp2
  go_ret
  exact ⟨rfl, HB7.out⟩
end Go.Proofs.YtnclegldhafaeaaGreatDoor

namespace Go.Proofs.YtnclegldhafaeaaGreatDoor
open Go.RowKit Go.Extern Go.Sort

/-- one block is guarded. -/
def P1 (X : Nat) (o : Obj) : Nat → Option Obj := fun Y => if Y = X then some o else none
section
variable {PX : Nat → Option Obj} {w w' : World} {B0 pb n : Nat} {bs : List Bool} {R : Bool → Nat → Rw} {nodes arcs : Int}
theorem IsOv.guard (h : IsOv PX B0 w pb n bs R nodes arcs) (o : Obj) : IsOv (P1 w.heap.size o) B0 (w.alloc o) pb n bs R nodes arcs := by
  obtain ⟨B, ab, sb, h0, h1, h2⟩ := h
  have hk := h1.keep ((Below.refl _ w).alloc (Nat.le_refl _) o)
  refine ⟨B, ab, sb, h0, ⟨hk.box, hk.al, hk.row, hk.bl, hk.big, hk.own, hk.low, hk.two, fun X ox hX => ?_, hk.apart⟩, h2⟩
  unfold P1 at hX
  split at hX
  · rename_i e
    cases hX
    subst e
    refine ⟨heap_new w o, fun e => ?_, fun e => ?_, fun s e => ?_, fun s u hu e => ?_⟩
    · have := lt_of_get h1.box; omega
    · have := lt_of_get h1.al; omega
    · have := lt_of_get (h1.row s); omega
    · have := ((h1.own s u hu).lt _ e).2; omega
  · cases hX
theorem IsOv.drop (h : IsOv PX B0 w pb n bs R nodes arcs) : IsOv noP B0 w pb n bs R nodes arcs := by
  obtain ⟨B, ab, sb, h0, hk, h2⟩ := h
  exact ⟨B, ab, sb, h0, ⟨hk.box, hk.al, hk.row, hk.bl, hk.big, hk.own, hk.low, hk.two, fun X o hX => (by cases hX), hk.apart⟩, h2⟩
theorem IsOv.seen {X : Nat} {o : Obj} (h : IsOv (P1 X o) B0 w pb n bs R nodes arcs) : w.heap[X]? = some o := by
  obtain ⟨B, ab, sb, h0, hk, h2⟩ := h
  exact (hk.prot X o (by simp [P1])).1
end
/-- a call of the law's list. -/
abbrev Op5 := Int × Int × Int × Int × Int
def HasOp5 (w : World) (lv : Value) (xs : List Op5) : Prop :=
  ∃ ao cap, lv = .slice ao xs.length cap ∧ ∀ j a, xs[j]? = some a → ∃ b off, ao = some ⟨b, off, none⟩ ∧ b < w.heap.size ∧ w.cell? ⟨b, off + j * 5, none⟩ = some (.int .u8 a.1) ∧ w.cell? ⟨b, off + j * 5 + 1, none⟩ = some (.int .i64 a.2.1) ∧ w.cell? ⟨b, off + j * 5 + 2, none⟩ = some (.int .i64 a.2.2.1) ∧ w.cell? ⟨b, off + j * 5 + 3, none⟩ = some (.int .u64 a.2.2.2.1) ∧ w.cell? ⟨b, off + j * 5 + 4, none⟩ = some (.int .i64 a.2.2.2.2)
theorem HasOp5.keep {w w' : World} {lv : Value} {xs : List Op5} (h : HasOp5 w lv xs) (hb : Below w.heap.size w w') : HasOp5 w' lv xs := by
  obtain ⟨ao, cap, e, hc⟩ := h
  refine ⟨ao, cap, e, fun j a hj => ?_⟩
  obtain ⟨b, off, e1, hl, h0, h1, h2, h3, h4⟩ := hc j a hj
  exact ⟨b, off, e1, Nat.lt_of_lt_of_le hl hb.size, (hb.cell (p := ⟨b, _, none⟩) hl).trans h0, (hb.cell (p := ⟨b, _, none⟩) hl).trans h1, (hb.cell (p := ⟨b, _, none⟩) hl).trans h2, (hb.cell (p := ⟨b, _, none⟩) hl).trans h3, (hb.cell (p := ⟨b, _, none⟩) hl).trans h4⟩
theorem HasOp5.at {w : World} {ao : Option Addr} {n cap : Nat} {xs : List Op5} (h : HasOp5 w (.slice ao n cap) xs) {k : Nat} {a : Op5} (hp : xs[k]? = some a) :
    ∃ b off, ao = some ⟨b, off, none⟩ ∧ b < w.heap.size ∧ w.cell? ⟨b, off + k * 5, none⟩ = some (.int .u8 a.1) ∧ w.cell? ⟨b, off + k * 5 + 1, none⟩ = some (.int .i64 a.2.1) ∧ w.cell? ⟨b, off + k * 5 + 2, none⟩ = some (.int .i64 a.2.2.1) ∧ w.cell? ⟨b, off + k * 5 + 3, none⟩ = some (.int .u64 a.2.2.2.1) ∧ w.cell? ⟨b, off + k * 5 + 4, none⟩ = some (.int .i64 a.2.2.2.2) := by
  obtain ⟨ao', cap', e, hc⟩ := h
  injection e with e1 e2 e3
  subst e1
  exact hc k a hp
theorem low_mem {l : List H3} (hr : RiseH l) {a : H3} (ha : a ∈ l) : hasH l a.1 = true ∧ l[lowH l a.1]? = some a := by
  obtain ⟨i, hi⟩ := List.getElem?_of_mem ha
  have hil := (List.getElem?_eq_some_iff.1 hi).1
  have e : lowH l a.1 = i := countP_at _ l i (by omega) (fun t b ht hb => decide_eq_true (by have := hr.lt hb hi ht; omega)) (fun t b ht hb => decide_eq_false (by
    rcases Nat.lt_or_ge i t with h | h
    · have := hr.lt hi hb h
      omega
    · obtain rfl : t = i := by omega
      rw [hi] at hb
      cases hb
      omega))
  rw [e]
  exact ⟨hasH_mem.2 ⟨a, ha, rfl⟩, hi⟩
/-- what is put in is there. -/
theorem weight_put {n : Nat} {bs : List Bool} {R : Bool → Nat → Rw} (h : OvInv n bs R) {a b : Nat} (han : a < n) (hbn : b < n) (la : liv bs a = true) (lb : liv bs b = true) (wt via : Int) (v1 v2 : Value) : weightM n bs (putRows R a b wt via v1 v2) (a : Int) (b : Int) = some wt := by
  unfold weightM
  rw [aliveB_iff.2 ⟨a, rfl, han, la⟩, aliveB_iff.2 ⟨b, rfl, hbn, lb⟩, Int.toNat_natCast]
  have e : (putRows R a b wt via v1 v2 false a).2.1 = setH (R false a).2.1 ((b : Int), wt, via) := by
    unfold putRows
    rw [updS_far _ true false _ _ (by simp), updS_at]
  rw [e]
  have hm := low_mem (setH_rise (a := ((b : Int), wt, via)) (h.ok.rise false a han)) ((setH_iff (h.ok.rise false a han)).2 (Or.inl rfl))
  simp only at hm
  rw [hm.1, hm.2]
  rfl
end Go.Proofs.YtnclegldhafaeaaGreatDoor

namespace Go.Proofs.YtnclegldhafaeaaGreatDoor
open Go.RowKit Go.Extern Go.Sort

/-- a sum over the nodes. -/
def sumN : Nat → (Nat → Nat) → Nat
  | 0, _ => 0
  | n + 1, f => sumN n f + f n
theorem sumN_congr {n : Nat} {f g : Nat → Nat} (h : ∀ i, i < n → f i = g i) : sumN n f = sumN n g := by
  induction n with
  | zero => rfl
  | succ n ih => simp only [sumN]; rw [ih (fun i hi => h i (by omega)), h n (by omega)]
theorem sumN_add (n : Nat) (f g : Nat → Nat) : sumN n (fun i => f i + g i) = sumN n f + sumN n g := by
  induction n with
  | zero => rfl
  | succ n ih => simp only [sumN]; rw [ih]; omega
theorem sumN_zero (n : Nat) : sumN n (fun _ => 0) = 0 := by
  induction n with
  | zero => rfl
  | succ n ih => simp only [sumN]; rw [ih]
theorem sumN_upd {n u : Nat} (hu : u < n) (f : Nat → Nat) (c : Nat) : sumN n (fun i => if i = u then c else f i) + f u = sumN n f + c := by
  induction n with
  | zero => omega
  | succ n ih =>
    simp only [sumN]
    by_cases e : n = u
    · subst e
      rw [if_pos rfl, sumN_congr (g := f) (fun i hi => if_neg (by omega))]
      omega
    · rw [if_neg e]
      have := ih (by omega)
      omega
theorem sumN_has {n : Nat} : ∀ {L : List H3}, RiseH L → (∀ a ∈ L, 0 ≤ a.1 ∧ a.1 < (n : Int)) → sumN n (fun v => if hasH L (v : Int) then 1 else 0) = L.length
  | [], _, _ => sumN_zero n
  | a :: r, hr, h0 => by
    obtain ⟨h1, h2⟩ := List.pairwise_cons.1 hr
    have ih := sumN_has (n := n) h2 (fun b hb => h0 b (by simp [hb]))
    obtain ⟨m, hm⟩ : ∃ m : Nat, a.1 = (m : Int) := ⟨a.1.toNat, by have := (h0 a (by simp)).1; omega⟩
    have hmn : m < n := by have := (h0 a (by simp)).2; omega
    have hno : hasH r (m : Int) = false := by
      unfold hasH
      rw [List.any_eq_false]
      intro b hb
      have := h1 b hb
      simp
      omega
    have e : sumN n (fun v => if hasH (a :: r) (v : Int) then 1 else 0) = sumN n (fun v => if v = m then 1 else (if hasH r (v : Int) then 1 else 0)) := sumN_congr (fun v _ => by
      by_cases ev : v = m
      · subst ev
        rw [if_pos rfl, if_pos (by unfold hasH; simp [hm])]
      · rw [if_neg ev]
        have : hasH (a :: r) (v : Int) = hasH r (v : Int) := by unfold hasH; simp [hm]; intro h; omega
        rw [this])
    have h3 := sumN_upd hmn (fun v => if hasH r (v : Int) then 1 else 0) 1
    simp only [hno] at h3
    rw [e, List.length_cons, ← ih]
    simpa using h3
/-- how many arcs a graph of rows has. -/
def arcSum (n : Nat) (bs : List Bool) (R : Bool → Nat → Rw) : Nat := sumN n (fun u => (livH bs (R false u).2.1).length)
theorem side_sum {n : Nat} : ∀ {zs : List (Int × Int × Int)}, (∀ a ∈ zs, 0 ≤ a.1 ∧ a.1 < (n : Int)) → sumN n (fun u => (sideL false zs u).length) = zs.length
  | [], _ => sumN_zero n
  | a :: r, h0 => by
    have ih := side_sum (n := n) (zs := r) (fun b hb => h0 b (by simp [hb]))
    obtain ⟨m, hm⟩ : ∃ m : Nat, a.1 = (m : Int) := ⟨a.1.toNat, by have := (h0 a (by simp)).1; omega⟩
    have hmn : m < n := by have := (h0 a (by simp)).2; omega
    have e : sumN n (fun u => (sideL false (a :: r) u).length) = sumN n (fun u => if u = m then (sideL false r m).length + 1 else (sideL false r u).length) := sumN_congr (fun u _ => by
      unfold sideL
      simp only [Bool.false_eq_true, if_false, List.length_map]
      by_cases eu : u = m
      · subst eu
        rw [if_pos rfl, List.filter_cons_of_pos (by simpa using hm), List.length_cons]
      · rw [if_neg eu, List.filter_cons_of_neg (by simp [hm]; omega)])
    have h3 := sumN_upd hmn (fun u => (sideL false r u).length) ((sideL false r m).length + 1)
    rw [e, List.length_cons]
    omega
theorem arcSum_put {n : Nat} {bs : List Bool} {R : Bool → Nat → Rw} (h : OvInv n bs R) {a b : Nat} (han : a < n) (hbn : b < n) (la : liv bs a = true) (lb : liv bs b = true) (wt via : Int) (v1 v2 : Value) : arcSum n bs (putRows R a b wt via v1 v2) = arcSum n bs R + (if (weightM n bs R (a : Int) (b : Int)).isNone then 1 else 0) := by
  have ew : (weightM n bs R (a : Int) (b : Int)).isNone = !hasH (R false a).2.1 (b : Int) := by
    unfold weightM
    rw [aliveB_iff.2 ⟨a, rfl, han, la⟩, aliveB_iff.2 ⟨b, rfl, hbn, lb⟩, Int.toNat_natCast]
    cases hasH (R false a).2.1 (b : Int) <;> rfl
  have e : arcSum n bs (putRows R a b wt via v1 v2) = sumN n (fun u => if u = a then (livH bs (setH (R false a).2.1 ((b : Int), wt, via))).length else (livH bs (R false u).2.1).length) := sumN_congr (fun u _ => by
    unfold putRows
    rw [updS_far _ true false _ _ (by simp)]
    by_cases eu : u = a
    · subst eu
      rw [updS_at, if_pos rfl]
    · rw [updS_other _ _ _ _ _ _ (by simp [eu]), if_neg eu])
  have h3 := sumN_upd han (fun u => (livH bs (R false u).2.1).length) (livH bs (setH (R false a).2.1 ((b : Int), wt, via))).length
  have h4 := livH_setH (bs := bs) (h.ok.rise false a han) (a := ((b : Int), wt, via)) (by simpa [liv] using lb)
  have h5 : (setH (R false a).2.1 ((b : Int), wt, via)).length = (R false a).2.1.length + (if hasH (R false a).2.1 (b : Int) then 0 else 1) := by
    unfold setH
    simp only
    split
    · simp
    · rw [insH_len (lowH_le _ _)]
  rw [e, ew]
  unfold arcSum
  cases hh : hasH (R false a).2.1 (b : Int)
  · rw [hh] at h5
    simp at h5 ⊢
    omega
  · rw [hh] at h5
    simp at h5 ⊢
    omega
theorem arcSum_remove {n : Nat} {bs : List Bool} {R R' : Bool → Nat → Rw} (h : OvInv n bs R) {u : Nat} (hu : u < n) (lu : liv bs u = true) (hR : ∀ s v, v < n → (R' s v).2 = if v = u then ([], 0) else if hasH (livH (bs.set u false) (R (!s) u).2.1) (v : Int) then loseH (bs.set u false) (R s v).2.1 (R s v).2.2 else (R s v).2) :
    arcSum n (bs.set u false) R' + (livH bs (R false u).2.1).length + (livH bs (R true u).2.1).length = arcSum n bs R := by
  have e1 : ∀ v, v < n → v ≠ u → livH (bs.set u false) (R' false v).2.1 = livH (bs.set u false) (R false v).2.1 := fun v hv e => by
    rw [hR false v hv, if_neg e]
    split
    · unfold loseH
      split
      · exact livH_twice _ _
      · rfl
    · rfl
  have e2 : ∀ v, v < n → v ≠ u → (livH bs (R false v).2.1).length = (livH (bs.set u false) (R' false v).2.1).length + (if hasH (livH bs (R true u).2.1) (v : Int) then 1 else 0) := fun v hv e => by
    rw [e1 v hv e, livH_drop1 lu (h.ok.rise false v hv) (fun a ha => (h.ok.node false v hv a ha).1)]
    have e3 : hasH (R false v).2.1 (u : Int) = hasH (livH bs (R true u).2.1) (v : Int) := by
      rw [Bool.eq_iff_iff]
      constructor
      · intro hh
        obtain ⟨a, ha, hau⟩ := hasH_mem.1 hh
        have lv := h.liveEnd false hv ha
        have h4 := h.sym false v u a.2.1 a.2.2 hv hu lv lu (by rw [← hau]; exact ha)
        exact hasH_mem.2 ⟨_, livH_mem.2 ⟨h4, by simpa [liv] using lv⟩, rfl⟩
      · intro hh
        obtain ⟨a, ha, hav⟩ := hasH_mem.1 hh
        have h5 := livH_mem.1 ha
        have lv : liv bs v = true := by have h6 := h5.2; rw [hav, Int.toNat_natCast] at h6; exact h6
        have h4 := h.sym true u v a.2.1 a.2.2 hu hv lu lv (by rw [← hav]; exact h5.1)
        exact hasH_mem.2 ⟨_, h4, rfl⟩
    rw [e3]
  have e4 : hasH (livH bs (R true u).2.1) (u : Int) = false := by
    cases h6 : hasH (livH bs (R true u).2.1) (u : Int) with
    | false => rfl
    | true =>
      obtain ⟨a, ha, hau⟩ := hasH_mem.1 h6
      exact absurd hau (h.self true u hu a (livH_mem.1 ha).1)
  have e5 : (livH (bs.set u false) (R' false u).2.1).length = 0 := by
    rw [hR false u hu, if_pos rfl]
    rfl
  have h7 := sumN_has (n := n) (livH_rise (bs := bs) (h.ok.rise true u hu)) (fun a ha => h.ok.node true u hu a (livH_mem.1 ha).1)
  have h8 : sumN n (fun v => if v = u then (livH bs (R false u).2.1).length else (livH bs (R false v).2.1).length) = sumN n (fun v => if v = u then (livH bs (R false u).2.1).length else ((livH (bs.set u false) (R' false v).2.1).length + (if hasH (livH bs (R true u).2.1) (v : Int) then 1 else 0))) := sumN_congr (fun v hv => by
    by_cases e : v = u
    · rw [if_pos e, if_pos e]
    · rw [if_neg e, if_neg e, e2 v hv e])
  have h9 := sumN_upd hu (fun v => (livH bs (R false v).2.1).length) (livH bs (R false u).2.1).length
  have h10 := sumN_upd hu (fun v => (livH (bs.set u false) (R' false v).2.1).length + (if hasH (livH bs (R true u).2.1) (v : Int) then 1 else 0)) (livH bs (R false u).2.1).length
  rw [sumN_add, h7] at h10
  rw [h8] at h9
  simp only [e4, e5] at h10
  unfold arcSum
  simp at h9 h10
  omega
end Go.Proofs.YtnclegldhafaeaaGreatDoor

namespace Go.Proofs.YtnclegldhafaeaaGreatDoor
open Go.RowKit Go.Extern Go.Sort

/-- how many nodes are alive. -/
def aliveN (n : Nat) (bs : List Bool) : Nat := sumN n (fun u => if liv bs u then 1 else 0)
theorem sumN_le (n : Nat) (f : Nat → Nat) (c : Nat) (h : ∀ i, i < n → f i ≤ c) : sumN n f ≤ n * c := by
  induction n with
  | zero => simp [sumN]
  | succ n ih =>
    have h1 := ih (fun i hi => h i (by omega))
    have h2 := h n (by omega)
    simp only [sumN]
    rw [Nat.add_mul, Nat.one_mul]
    omega
theorem sumN_const (n c : Nat) : sumN n (fun _ => c) = n * c := by
  induction n with
  | zero => simp [sumN]
  | succ n ih =>
    simp only [sumN]
    rw [ih, Nat.add_mul, Nat.one_mul]
theorem aliveN_all (n : Nat) : aliveN n (List.replicate n true) = n := by
  unfold aliveN
  rw [sumN_congr (g := fun _ => 1) (fun i hi => by simp [liv, hi]), sumN_const, Nat.mul_one]
theorem aliveN_remove {n u : Nat} {bs : List Bool} (hu : u < n) (lu : liv bs u = true) : aliveN n (bs.set u false) + 1 = aliveN n bs := by
  have e : aliveN n (bs.set u false) = sumN n (fun v => if v = u then 0 else (if liv bs v then 1 else 0)) := sumN_congr (fun v _ => by
    rw [liv_set]
    by_cases e : v = u
    · rw [if_pos e, if_pos e]; rfl
    · rw [if_neg e, if_neg e])
  have h := sumN_upd hu (fun v => if liv bs v then 1 else 0) 0
  simp only [lu, if_true] at h
  rw [e]
  unfold aliveN
  omega
/-- an overlay whose numbers tell what is there. -/
def OvN (PX : Nat → Option Obj) (B0 : Nat) (w : World) (pb n : Nat) (bs : List Bool) (R : Bool → Nat → Rw) : Prop := IsOv PX B0 w pb n bs R (aliveN n bs : Nat) (arcSum n bs R : Nat)
section
variable {PX : Nat → Option Obj} {w w' : World} {B0 pb n : Nat} {bs : List Bool} {R : Bool → Nat → Rw}
theorem ovn_new (ao : Option Addr) (k0 cap : Nat) (xs : List (Int × Int × Int)) (w : World) (hl : HasArcs w (.slice ao k0 cap) xs) (hg : graphErr (n : Int) xs = (0, [])) :
    Calls Tryz.prog 5 #[.agg #[.int .i64 n, .slice ao k0 cap]] w fun e w' => ∃ pb R, e = .returned (.tuple #[.pointer (some ⟨pb, 0, none⟩), .nilIface]) ∧ OvN noP w.heap.size w' pb n (List.replicate n true) R ∧ (∀ s u, u < n → (R s u).2 = (sideL s (normA xs) u, 0)) ∧ Below w.heap.size w w' := by
  refine (ov_new (n := n) ao k0 cap xs w hl hg).mono ?_
  rintro e w' ⟨pb, R, rfl, h1, h2, h3⟩
  refine ⟨pb, R, rfl, ?_, h2, h3⟩
  have ha : arcSum n (List.replicate n true) R = (normA xs).length := by
    have hn : ∀ a ∈ normA xs, 0 ≤ a.1 ∧ a.1 < (n : Int) := fun a ha => by
      have h4 := ((good_iff _ _).1 (good_norm hg)).2 a ha
      unfold arcBad at h4
      split at h4
      · cases h4
      · constructor <;> omega
    rw [← side_sum (n := n) hn]
    refine sumN_congr (fun u hu => ?_)
    have h5 := h1.inv.gone false u hu
    rw [h2 false u hu] at h5 ⊢
    simpa using h5
  unfold OvN
  rw [aliveN_all, ha]
  exact h1
theorem OvN.bounds (h : OvN PX B0 w pb n bs R) : (aliveN n bs : Int) ≤ 65536 ∧ (arcSum n bs R : Int) ≤ 4294967296 := by
  have hn := (IsOv.bl h).2
  have h1 : aliveN n bs ≤ n * 1 := sumN_le n _ 1 (fun i _ => by split <;> omega)
  have h2 : arcSum n bs R ≤ n * 65536 := sumN_le n _ 65536 (fun u hu => Nat.le_trans (livH_len _ _) (IsOv.rowLen h false hu))
  have h3 : n * 65536 ≤ 65536 * 65536 := Nat.mul_le_mul_right _ hn
  omega
/-- whatever is put in, or refused: an overlay is left. -/
theorem OvN.put (h : OvN PX B0 w pb n bs R) (x y wt via : Int) : Calls Tryz.prog 19 #[.pointer (some ⟨pb, 0, none⟩), .int .i64 x, .int .i64 y, .int .u64 wt, .int .i64 via] w fun e w' => ∃ b v R', e = .returned (.tuple #[.bool b, v]) ∧ OvN PX B0 w' pb n bs R' ∧ Below B0 w w' := by
  have hb := h.bounds
  refine (IsOv.put h x y wt via (by omega)).mono ?_
  rintro e w' (⟨c, hc, hp, rfl, hbc⟩ | ⟨k', hk', hle, rfl, hbc⟩ | ⟨a, b, v1, v2, rfl, rfl, hlt, ⟨h1, h2, h3, h4⟩, rfl, hO, hbc⟩)
  · exact ⟨_, _, R, rfl, IsOv.keep h hbc, hbc.mono (IsOv.size h)⟩
  · exact ⟨_, _, R, rfl, IsOv.keep h hbc, hbc.mono (IsOv.size h)⟩
  · refine ⟨_, _, putRows R a b wt via v1 v2, rfl, ?_, hbc⟩
    unfold OvN
    rw [arcSum_put (IsOv.inv h) h1 h2 h3 h4 wt via v1 v2]
    have e : ((arcSum n bs R + (if (weightM n bs R (a : Int) (b : Int)).isNone then 1 else 0) : Nat) : Int) = (arcSum n bs R : Int) + (if (weightM n bs R (a : Int) (b : Int)).isNone then 1 else 0) := by
      split <;> simp
    rw [e]
    exact hO
/-- whatever goes, or doesn't: an overlay is left. -/
theorem OvN.remove (h : OvN PX B0 w pb n bs R) (x : Int) : Calls Tryz.prog 18 #[.pointer (some ⟨pb, 0, none⟩), .int .i64 x] w fun e w' => ∃ v bs' R', e = .returned v ∧ OvN PX B0 w' pb n bs' R' ∧ Below B0 w w' := by
  have hb := h.bounds
  refine (IsOv.remove h x (by omega) (by omega)).mono ?_
  rintro e w' (⟨_, rfl, rfl⟩ | ⟨_, u, R', rfl, hu, lu, rfl, hO, hR, hbc⟩)
  · exact ⟨_, bs, R, rfl, h, Below.refl _ _⟩
  · refine ⟨_, bs.set u false, R', rfl, ?_, hbc⟩
    have h1 := aliveN_remove hu lu
    have h2 := arcSum_remove (IsOv.inv h) hu lu hR
    unfold OvN
    rw [show ((aliveN n (bs.set u false) : Nat) : Int) = (aliveN n bs : Int) - 1 by omega, show ((arcSum n (bs.set u false) R' : Nat) : Int) = (arcSum n bs R : Int) - ((livH bs (R false u).2.1).length : Int) - ((livH bs (R true u).2.1).length : Int) by omega]
    exact hO
end
end Go.Proofs.YtnclegldhafaeaaGreatDoor
