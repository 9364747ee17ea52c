/- how many arcs there are: mathematics. -/
import Derived.Test.YtpaamcapopnhoaaOwH
namespace Go.Proofs.Ytpaamcapopnhoaa
open Go.RowKit Go.Extern Go.Sort

/-- a sum over the nodes. -/
def sumN : Nat → (Nat → Nat) → Nat
  | 0, _ => 0
  | n + 1, f => sumN n f + f n
theorem sumN_congr {n : Nat} {f g : Nat → Nat} (h : ∀ i, i < n → f i = g i) : sumN n f = sumN n g := by
  induction n with
  | zero => rfl
  | succ n ih => simp only [sumN]; rw [ih (fun i hi => h i (by omega)), h n (by omega)]
theorem sumN_add (n : Nat) (f g : Nat → Nat) : sumN n (fun i => f i + g i) = sumN n f + sumN n g := by
  induction n with
  | zero => rfl
  | succ n ih => simp only [sumN]; rw [ih]; omega
theorem sumN_zero (n : Nat) : sumN n (fun _ => 0) = 0 := by
  induction n with
  | zero => rfl
  | succ n ih => simp only [sumN]; rw [ih]
theorem sumN_upd {n u : Nat} (hu : u < n) (f : Nat → Nat) (c : Nat) : sumN n (fun i => if i = u then c else f i) + f u = sumN n f + c := by
  induction n with
  | zero => omega
  | succ n ih =>
    simp only [sumN]
    by_cases e : n = u
    · subst e
      rw [if_pos rfl, sumN_congr (g := f) (fun i hi => if_neg (by omega))]
      omega
    · rw [if_neg e]
      have := ih (by omega)
      omega
theorem sumN_has {n : Nat} : ∀ {L : List H3}, RiseH L → (∀ a ∈ L, 0 ≤ a.1 ∧ a.1 < (n : Int)) → sumN n (fun v => if hasH L (v : Int) then 1 else 0) = L.length
  | [], _, _ => sumN_zero n
  | a :: r, hr, h0 => by
    obtain ⟨h1, h2⟩ := List.pairwise_cons.1 hr
    have ih := sumN_has (n := n) h2 (fun b hb => h0 b (by simp [hb]))
    obtain ⟨m, hm⟩ : ∃ m : Nat, a.1 = (m : Int) := ⟨a.1.toNat, by have := (h0 a (by simp)).1; omega⟩
    have hmn : m < n := by have := (h0 a (by simp)).2; omega
    have hno : hasH r (m : Int) = false := by
      unfold hasH
      rw [List.any_eq_false]
      intro b hb
      have := h1 b hb
      simp
      omega
    have e : sumN n (fun v => if hasH (a :: r) (v : Int) then 1 else 0) = sumN n (fun v => if v = m then 1 else (if hasH r (v : Int) then 1 else 0)) := sumN_congr (fun v _ => by
      by_cases ev : v = m
      · subst ev
        rw [if_pos rfl, if_pos (by unfold hasH; simp [hm])]
      · rw [if_neg ev]
        have : hasH (a :: r) (v : Int) = hasH r (v : Int) := by unfold hasH; simp [hm]; intro h; omega
        rw [this])
    have h3 := sumN_upd hmn (fun v => if hasH r (v : Int) then 1 else 0) 1
    simp only [hno] at h3
    rw [e, List.length_cons, ← ih]
    simpa using h3
/-- how many arcs a graph of rows has. -/
def arcSum (n : Nat) (bs : List Bool) (R : Bool → Nat → Rw) : Nat := sumN n (fun u => (livH bs (R false u).2.1).length)
theorem side_sum {n : Nat} : ∀ {zs : List (Int × Int × Int)}, (∀ a ∈ zs, 0 ≤ a.1 ∧ a.1 < (n : Int)) → sumN n (fun u => (sideL false zs u).length) = zs.length
  | [], _ => sumN_zero n
  | a :: r, h0 => by
    have ih := side_sum (n := n) (zs := r) (fun b hb => h0 b (by simp [hb]))
    obtain ⟨m, hm⟩ : ∃ m : Nat, a.1 = (m : Int) := ⟨a.1.toNat, by have := (h0 a (by simp)).1; omega⟩
    have hmn : m < n := by have := (h0 a (by simp)).2; omega
    have e : sumN n (fun u => (sideL false (a :: r) u).length) = sumN n (fun u => if u = m then (sideL false r m).length + 1 else (sideL false r u).length) := sumN_congr (fun u _ => by
      unfold sideL
      simp only [Bool.false_eq_true, if_false, List.length_map]
      by_cases eu : u = m
      · subst eu
        rw [if_pos rfl, List.filter_cons_of_pos (by simpa using hm), List.length_cons]
      · rw [if_neg eu, List.filter_cons_of_neg (by simp [hm]; omega)])
    have h3 := sumN_upd hmn (fun u => (sideL false r u).length) ((sideL false r m).length + 1)
    rw [e, List.length_cons]
    omega
theorem arcSum_put {n : Nat} {bs : List Bool} {R : Bool → Nat → Rw} (h : OvInv n bs R) {a b : Nat} (han : a < n) (hbn : b < n) (la : liv bs a = true) (lb : liv bs b = true) (wt via : Int) (v1 v2 : Value) : arcSum n bs (putRows R a b wt via v1 v2) = arcSum n bs R + (if (weightM n bs R (a : Int) (b : Int)).isNone then 1 else 0) := by
  have ew : (weightM n bs R (a : Int) (b : Int)).isNone = !hasH (R false a).2.1 (b : Int) := by
    unfold weightM
    rw [aliveB_iff.2 ⟨a, rfl, han, la⟩, aliveB_iff.2 ⟨b, rfl, hbn, lb⟩, Int.toNat_natCast]
    cases hasH (R false a).2.1 (b : Int) <;> rfl
  have e : arcSum n bs (putRows R a b wt via v1 v2) = sumN n (fun u => if u = a then (livH bs (setH (R false a).2.1 ((b : Int), wt, via))).length else (livH bs (R false u).2.1).length) := sumN_congr (fun u _ => by
    unfold putRows
    rw [updS_far _ true false _ _ (by simp)]
    by_cases eu : u = a
    · subst eu
      rw [updS_at, if_pos rfl]
    · rw [updS_other _ _ _ _ _ _ (by simp [eu]), if_neg eu])
  have h3 := sumN_upd han (fun u => (livH bs (R false u).2.1).length) (livH bs (setH (R false a).2.1 ((b : Int), wt, via))).length
  have h4 := livH_setH (bs := bs) (h.ok.rise false a han) (a := ((b : Int), wt, via)) (by simpa [liv] using lb)
  have h5 : (setH (R false a).2.1 ((b : Int), wt, via)).length = (R false a).2.1.length + (if hasH (R false a).2.1 (b : Int) then 0 else 1) := by
    unfold setH
    simp only
    split
    · simp
    · rw [insH_len (lowH_le _ _)]
  rw [e, ew]
  unfold arcSum
  cases hh : hasH (R false a).2.1 (b : Int)
  · rw [hh] at h5
    simp at h5 ⊢
    omega
  · rw [hh] at h5
    simp at h5 ⊢
    omega
theorem arcSum_remove {n : Nat} {bs : List Bool} {R R' : Bool → Nat → Rw} (h : OvInv n bs R) {u : Nat} (hu : u < n) (lu : liv bs u = true) (hR : ∀ s v, v < n → (R' s v).2 = if v = u then ([], 0) else if hasH (livH (bs.set u false) (R (!s) u).2.1) (v : Int) then loseH (bs.set u false) (R s v).2.1 (R s v).2.2 else (R s v).2) :
    arcSum n (bs.set u false) R' + (livH bs (R false u).2.1).length + (livH bs (R true u).2.1).length = arcSum n bs R := by
  have e1 : ∀ v, v < n → v ≠ u → livH (bs.set u false) (R' false v).2.1 = livH (bs.set u false) (R false v).2.1 := fun v hv e => by
    rw [hR false v hv, if_neg e]
    split
    · unfold loseH
      split
      · exact livH_twice _ _
      · rfl
    · rfl
  have e2 : ∀ v, v < n → v ≠ u → (livH bs (R false v).2.1).length = (livH (bs.set u false) (R' false v).2.1).length + (if hasH (livH bs (R true u).2.1) (v : Int) then 1 else 0) := fun v hv e => by
    rw [e1 v hv e, livH_drop1 lu (h.ok.rise false v hv) (fun a ha => (h.ok.node false v hv a ha).1)]
    have e3 : hasH (R false v).2.1 (u : Int) = hasH (livH bs (R true u).2.1) (v : Int) := by
      rw [Bool.eq_iff_iff]
      constructor
      · intro hh
        obtain ⟨a, ha, hau⟩ := hasH_mem.1 hh
        have lv := h.liveEnd false hv ha
        have h4 := h.sym false v u a.2.1 a.2.2 hv hu lv lu (by rw [← hau]; exact ha)
        exact hasH_mem.2 ⟨_, livH_mem.2 ⟨h4, by simpa [liv] using lv⟩, rfl⟩
      · intro hh
        obtain ⟨a, ha, hav⟩ := hasH_mem.1 hh
        have h5 := livH_mem.1 ha
        have lv : liv bs v = true := by have h6 := h5.2; rw [hav, Int.toNat_natCast] at h6; exact h6
        have h4 := h.sym true u v a.2.1 a.2.2 hu hv lu lv (by rw [← hav]; exact h5.1)
        exact hasH_mem.2 ⟨_, h4, rfl⟩
    rw [e3]
  have e4 : hasH (livH bs (R true u).2.1) (u : Int) = false := by
    cases h6 : hasH (livH bs (R true u).2.1) (u : Int) with
    | false => rfl
    | true =>
      obtain ⟨a, ha, hau⟩ := hasH_mem.1 h6
      exact absurd hau (h.self true u hu a (livH_mem.1 ha).1)
  have e5 : (livH (bs.set u false) (R' false u).2.1).length = 0 := by
    rw [hR false u hu, if_pos rfl]
    rfl
  have h7 := sumN_has (n := n) (livH_rise (bs := bs) (h.ok.rise true u hu)) (fun a ha => h.ok.node true u hu a (livH_mem.1 ha).1)
  have h8 : sumN n (fun v => if v = u then (livH bs (R false u).2.1).length else (livH bs (R false v).2.1).length) = sumN n (fun v => if v = u then (livH bs (R false u).2.1).length else ((livH (bs.set u false) (R' false v).2.1).length + (if hasH (livH bs (R true u).2.1) (v : Int) then 1 else 0))) := sumN_congr (fun v hv => by
    by_cases e : v = u
    · rw [if_pos e, if_pos e]
    · rw [if_neg e, if_neg e, e2 v hv e])
  have h9 := sumN_upd hu (fun v => (livH bs (R false v).2.1).length) (livH bs (R false u).2.1).length
  have h10 := sumN_upd hu (fun v => (livH (bs.set u false) (R' false v).2.1).length + (if hasH (livH bs (R true u).2.1) (v : Int) then 1 else 0)) (livH bs (R false u).2.1).length
  rw [sumN_add, h7] at h10
  rw [h8] at h9
  simp only [e4, e5] at h10
  unfold arcSum
  simp at h9 h10
  omega
end Go.Proofs.Ytpaamcapopnhoaa
