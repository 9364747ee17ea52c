/- an overlay's Put. -/
import Derived.Test.YtnclegldhafaeaaGreatDoorOvS
namespace Go.Proofs.YtnclegldhafaeaaGreatDoor
open Go.RowKit Go.Extern Go.Sort

attribute [local go_sem] Oper.semAt_some

/-- rows of both sides with one of them changed. -/
def updS (R : Bool → Nat → Rw) (s : Bool) (u : Nat) (r : Rw) : Bool → Nat → Rw := fun s' => if s' = s then updR (R s) u r else R s'
theorem updS_at (R : Bool → Nat → Rw) (s : Bool) (u : Nat) (r : Rw) : updS R s u r s u = r := by simp [updS, updR]
theorem updS_other (R : Bool → Nat → Rw) (s s' : Bool) (u u' : Nat) (r : Rw) (h : (s', u') ≠ (s, u)) : updS R s u r s' u' = R s' u' := by
  unfold updS updR
  split
  · subst_vars
    show (if u' = u then r else _) = _
    rw [if_neg (fun e => h (by rw [e]))]
  · rfl
theorem updS_side (R : Bool → Nat → Rw) (s : Bool) (u : Nat) (r : Rw) : updS R s u r s = updR (R s) u r := by simp [updS]
theorem updS_far (R : Bool → Nat → Rw) (s s' : Bool) (u : Nat) (r : Rw) (h : s' ≠ s) : updS R s u r s' = R s' := by simp [updS, h]
section
variable {w w' : World} {PX : Nat → Option Obj} {B pb ab n : Nat} {sb : Bool → Nat} {bs : List Bool} {R : Bool → Nat → Rw} {nodes arcs : Int}
theorem OvMem.far (h : OvMem PX w B pb ab sb n bs R nodes arcs) (s : Bool) {u : Nat} (hu : u < n) : (R s u).1.ownBlock ≠ some pb ∧ (R s u).1.ownBlock ≠ some ab ∧ ∀ s', (R s u).1.ownBlock ≠ some (sb s') := by
  have ho := h.own s u hu
  rcases ho.2 with ⟨e, _⟩ | ⟨g, cap, cur, e, _, hg, _⟩
  · rw [e]
    exact ⟨fun h => (by cases h), fun h => (by cases h), fun _ h => (by cases h)⟩
  · rw [e]
    refine ⟨fun e => ?_, fun e => ?_, fun s' e => ?_⟩
    · obtain rfl : g = pb := Option.some.inj e
      have h1 := h.box; rw [hg] at h1; simp at h1
    · obtain rfl : g = ab := Option.some.inj e
      have h1 := h.al; rw [hg] at h1; simp at h1
    · obtain rfl : g = sb s' := Option.some.inj e
      have h1 := h.row s'; rw [hg] at h1; simp at h1
theorem OvMem.size (h : OvMem PX w B pb ab sb n bs R nodes arcs) : B ≤ w.heap.size := Nat.le_trans h.low.1 (Nat.le_of_lt (lt_of_get h.box))
theorem OvMem.moved (h : OvMem PX w B pb ab sb n bs R nodes arcs) {s : Bool} {u : Nat} (hu : u < n) {v' : Value} {gn' : Nat} {l' : List H3} (hm : Moved w w' (sb s) (u * 2) (rC n (R s)) 69 (R s u).1 v' gn') (ho : w'.ownsRow B 71 3 v' l'.length (flatH l')) :
    OvMem PX w' B pb ab sb n bs (updS R s u (v', l', gn')) nodes arcs ∧ Below B w w' := by
  obtain ⟨f1, f2, f3⟩ := h.far s hu
  obtain ⟨n1, n2, n3⟩ := h.ne s
  have keepR : ∀ s' u', u' < n → (s', u') ≠ (s, u) → w'.ownsRow B 71 3 (R s' u').1 (R s' u').2.1.length (flatH (R s' u').2.1) := fun s' u' hu' hne => by
    obtain ⟨h1, h2⟩ := h.own s' u' hu'
    refine ⟨h1, ?_⟩
    rcases h2 with h2 | ⟨g, cap, cur, e, hb, hg, r⟩
    · exact Or.inl h2
    · refine Or.inr ⟨g, cap, cur, e, hb, (hm.block g (lt_of_get hg) (fun e' => ?_) (fun e' => ?_)).trans hg, r⟩
      · exact (h.far s' hu').2.2 s (by rw [e, e']; rfl)
      · exact h.apart s u g hu e' s' u' hu' hne (by rw [e]; rfl)
  refine ⟨⟨(hm.block pb (lt_of_get h.box) n2 f1).trans h.box, (hm.block ab (lt_of_get h.al) n1 f2).trans h.al, fun s' => ?_, h.bl, h.big, fun s' u' hu' => ?_, h.low, h.two, ?_, ?_⟩, ?_⟩
  · by_cases e : s' = s
    · subst e
      rw [updS_side, hm.row]
      have := rC_set n (R s') u (v', l', gn')
      rw [← this]
    · rw [updS_far _ _ _ _ _ e]
      refine (hm.block (sb s') (lt_of_get (h.row s')) (fun e' => ?_) (f3 s')).trans (h.row s')
      cases s <;> cases s' <;> simp_all [h.two]
      · exact h.two e'.symm
  · by_cases e : (s', u') = (s, u)
    · cases e
      rw [updS_at]
      exact ho
    · rw [updS_other _ _ _ _ _ _ e]
      exact keepR s' u' hu' e
  · intro X o hX
    obtain ⟨p1, p2, p3, p4, p5⟩ := h.prot X o hX
    have pl := lt_of_get p1
    refine ⟨(hm.block X pl (p4 s) (p5 s u hu)).trans p1, p2, p3, p4, fun s1 u1 hu1 => ?_⟩
    by_cases e : (s1, u1) = (s, u)
    · cases e
      rw [updS_at]
      intro h2
      rcases hm.own X h2 with h3 | h3
      · exact p5 s u hu h3
      · omega
    · rw [updS_other _ _ _ _ _ _ e]
      exact p5 s1 u1 hu1
  · intro s1 u1 k hu1 hk s2 u2 hu2 hne
    have nw : ∀ s' u' j, u' < n → (R s' u').1.ownBlock = some j → j < w.heap.size := fun s' u' j hu' hj => ((h.own s' u' hu').lt j hj).2
    by_cases e1 : (s1, u1) = (s, u)
    · cases e1
      rw [updS_at] at hk
      rw [updS_other _ _ _ _ _ _ hne]
      intro h2
      rcases hm.own k hk with h3 | h3
      · exact h.apart s u k hu h3 s2 u2 hu2 hne h2
      · have := nw s2 u2 k hu2 h2
        omega
    · rw [updS_other _ _ _ _ _ _ e1] at hk
      by_cases e2 : (s2, u2) = (s, u)
      · cases e2
        rw [updS_at]
        intro h2
        rcases hm.own k h2 with h3 | h3
        · exact h.apart s1 u1 k hu1 hk s u hu (fun e => e1 e.symm) h3
        · have := nw s1 u1 k hu1 hk
          omega
      · rw [updS_other _ _ _ _ _ _ e2]
        exact h.apart s1 u1 k hu1 hk s2 u2 hu2 hne
  · refine ⟨hm.os, hm.tape, hm.output, hm.size, fun k hk => hm.block k (Nat.lt_of_lt_of_le hk h.size) (fun e => ?_) (fun e => ?_)⟩
    · have := h.low.2.2 s
      omega
    · have := ((h.own s u hu).lt k e).1
      omega
theorem OvMem.setArcs (h : OvMem PX w B pb ab sb n bs R nodes arcs) (a : Int) : OvMem PX (w.setCell ⟨pb, 4, none⟩ (.int .i64 a)) B pb ab sb n bs R nodes a ∧ Below B w (w.setCell ⟨pb, 4, none⟩ (.int .i64 a)) := by
  refine ⟨⟨?_, (heap_setCell_other _ _ _ _ (Ne.symm (h.ne false).2.2)).trans h.al, fun s => (heap_setCell_other _ _ _ _ (Ne.symm (h.ne s).2.1)).trans (h.row s), h.bl, h.big, fun s u hu => own_set (h.own s u hu) (h.far s hu).1 _, h.low, h.two, fun X o hX => ⟨(heap_setCell_other _ _ _ _ (h.prot X o hX).2.1).trans (h.prot X o hX).1, (h.prot X o hX).2⟩, h.apart⟩, ?_⟩
  · rw [hsc_same _ h.box]
    rfl
  · exact (Below.refl B w).setCell (p := ⟨pb, 4, none⟩) h.low.1 _
theorem OvMem.set (h : OvMem PX w B pb ab sb n bs R nodes arcs) (hk : RowsOk n R) (s : Bool) {u : Nat} (hu : u < n) (a : H3) :
    Calls Tryz.prog 40 #[.pointer (some ⟨sb s, u * 2, none⟩), hV a] w fun e w' => e = .returned (.tuple #[]) ∧ ∃ v', OvMem PX w' B pb ab sb n bs (updS R s u (v', setH (R s u).2.1 a, (R s u).2.2)) nodes arcs ∧ Below B w w' := by
  refine (set_calls B (sb s) (u * 2) _ _ (R s u).1 (R s u).2.2 (R s u).2.1 a w (h.row s) (h.rc s hu).1 (h.rc s hu).2 (h.own s u hu) ((h.far s hu).2.2 s) h.size (hk.rise s u hu) (by have := h.len hk s hu; omega)).mono ?_
  rintro e w' ⟨rfl, v', o, m⟩
  exact ⟨rfl, v', h.moved hu m o⟩
end
end Go.Proofs.YtnclegldhafaeaaGreatDoor
