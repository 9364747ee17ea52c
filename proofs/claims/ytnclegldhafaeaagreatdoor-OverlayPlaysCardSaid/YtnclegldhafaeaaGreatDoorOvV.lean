/- an overlay's loseArcs. -/
import Derived.Test.YtnclegldhafaeaaGreatDoorOvU
namespace Go.Proofs.YtnclegldhafaeaaGreatDoor
open Go.RowKit Go.Extern Go.Sort

attribute [local go_sem] Oper.semAt_some

/-- what becomes of the rows of a side where the halves of a list are lost. -/
def LostR (n : Nat) (bs : List Bool) (s' : Bool) (l : List H3) (R R' : Bool → Nat → Rw) : Prop :=
  ∀ s u, u < n → (s = s' ∧ hasH (livH bs l) (u : Int) = true → (R' s u).2 = loseH bs (R s u).2.1 (R s u).2.2) ∧ (¬ (s = s' ∧ hasH (livH bs l) (u : Int) = true) → R' s u = R s u)
theorem livH_mem {bs : List Bool} {l : List H3} {a : H3} : a ∈ livH bs l ↔ a ∈ l ∧ bs[a.1.toNat]?.getD false = true := by simp [livH]
theorem livH_rise {bs : List Bool} {l : List H3} (h : RiseH l) : RiseH (livH bs l) := List.Pairwise.filter _ h
theorem RowsOk.lose {n : Nat} {R : Bool → Nat → Rw} (hk : RowsOk n R) (bs : List Bool) (s : Bool) {u : Nat} (v' : Value) : RowsOk n (updS R s u (v', loseH bs (R s u).2.1 (R s u).2.2)) := by
  refine ⟨fun s' u' hu' => ?_, fun s' u' hu' => ?_, fun s' u' hu' => ?_⟩
  · by_cases e : (s', u') = (s, u)
    · cases e
      rw [updS_at]
      unfold loseH
      split
      · exact livH_rise (hk.rise s u hu')
      · exact hk.rise s u hu'
    · rw [updS_other _ _ _ _ _ _ e]
      exact hk.rise s' u' hu'
  · by_cases e : (s', u') = (s, u)
    · cases e
      rw [updS_at]
      unfold loseH
      split
      · exact fun a ha => hk.node s u hu' a (livH_mem.1 ha).1
      · exact hk.node s u hu'
    · rw [updS_other _ _ _ _ _ _ e]
      exact hk.node s' u' hu'
  · by_cases e : (s', u') = (s, u)
    · cases e
      rw [updS_at]
      unfold loseH
      split
      · simp
      · simp only
        omega
    · rw [updS_other _ _ _ _ _ _ e]
      exact hk.gone s' u' hu'
theorem hasH_take_last {l : List H3} (hr : RiseH l) {k : Nat} {a : H3} (h : l[k]? = some a) (bs : List Bool) : hasH (livH bs (l.take k)) a.1 = false := by
  unfold hasH
  rw [List.any_eq_false]
  intro b hb
  have hb1 := (livH_mem.1 hb).1
  obtain ⟨i, hi⟩ := List.getElem?_of_mem hb1
  rw [List.getElem?_take] at hi
  split at hi
  · have := hr.lt hi h (by omega)
    simp
    omega
  · cases hi
theorem hasH_append (l r : List H3) (x : Int) : hasH (l ++ r) x = (hasH l x || hasH r x) := by simp [hasH]
theorem LostR.start (n : Nat) (bs : List Bool) (s' : Bool) (R : Bool → Nat → Rw) (l : List H3) : LostR n bs s' (l.take 0) R R := fun s u _ => ⟨fun h => by simp [livH, hasH] at h, fun _ => rfl⟩
theorem LostR.skip {n : Nat} {bs : List Bool} {s' : Bool} {l : List H3} {R R' : Bool → Nat → Rw} {k : Nat} {a : H3} (h : LostR n bs s' (l.take k) R R') (ha : l[k]? = some a) (hd : bs[a.1.toNat]?.getD false = false) : LostR n bs s' (l.take (k + 1)) R R' := by
  unfold LostR at *
  rw [livH_take_succ ha, hd]
  simpa using h
theorem LostR.step {n : Nat} {bs : List Bool} {s' : Bool} {l : List H3} {R R' : Bool → Nat → Rw} {k m : Nat} {a : H3} {v' : Value} (hr : RiseH l) (h : LostR n bs s' (l.take k) R R') (ha : l[k]? = some a) (hm : a.1 = (m : Int)) (hmn : m < n) (hd : bs[a.1.toNat]?.getD false = true) :
    LostR n bs s' (l.take (k + 1)) R (updS R' s' m (v', loseH bs (R' s' m).2.1 (R' s' m).2.2)) ∧ R' s' m = R s' m := by
  have hno := hasH_take_last hr ha bs
  have e0 : R' s' m = R s' m := (h s' m hmn).2 (fun e => by rw [← hm, hno] at e; exact absurd e.2 (by simp))
  refine ⟨fun s u hu => ?_, e0⟩
  rw [livH_take_succ ha, hd, if_pos rfl, hasH_append]
  by_cases e : (s, u) = (s', m)
  · cases e
    rw [updS_at, e0]
    refine ⟨fun _ => rfl, fun hn => absurd ⟨rfl, ?_⟩ hn⟩
    simp [hasH, hm]
  · rw [updS_other _ _ _ _ _ _ e]
    have hne : s = s' → hasH [a] (u : Int) = false := fun es => by
      simp [hasH, hm]
      intro eu
      exact e (by rw [es, show u = m by omega])
    refine ⟨fun hc => (h s u hu).1 ⟨hc.1, ?_⟩, fun hc => (h s u hu).2 (fun hd => hc ⟨hd.1, by rw [hd.2]; rfl⟩)⟩
    have h2 := hc.2
    rw [hne hc.1, Bool.or_false] at h2
    exact h2
section
variable {w w' : World} {PX : Nat → Option Obj} {B pb ab n : Nat} {sb : Bool → Nat} {bs : List Bool} {R : Bool → Nat → Rw} {nodes arcs : Int}
theorem OvMem.lose (h : OvMem PX w B pb ab sb n bs R nodes arcs) (hk : RowsOk n R) (s : Bool) {u : Nat} (hu : u < n) (hg : (R s u).2.2 + 1 ≤ (R s u).2.1.length) :
    Calls Tryz.prog 59 #[.pointer (some ⟨sb s, u * 2, none⟩), .slice (some ⟨ab, 0, none⟩) n n] w fun e w' => e = .returned (.tuple #[]) ∧ ∃ v', OvMem PX w' B pb ab sb n bs (updS R s u (v', loseH bs (R s u).2.1 (R s u).2.2)) nodes arcs ∧ Below B w w' := by
  have hc := lose_calls B (sb s) (u * 2) ab _ _ _ (R s u).1 (R s u).2.2 (R s u).2.1 bs w (h.row s) (h.rc s hu).1 (h.rc s hu).2 (h.own s u hu) ((h.far s hu).2.2 s) h.size h.al (h.ne s).1 hg (by have := h.len hk s hu; omega) (by rw [h.bl]; exact hk.node s u hu)
  rw [h.bl] at hc
  refine hc.mono ?_
  rintro e w' ⟨rfl, v', o, m⟩
  exact ⟨rfl, v', h.moved hu m o⟩
end
end Go.Proofs.YtnclegldhafaeaaGreatDoor
