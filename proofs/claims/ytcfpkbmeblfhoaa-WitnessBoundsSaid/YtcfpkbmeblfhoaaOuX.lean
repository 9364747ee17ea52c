/- an overlay's checkPut. an overlay's Put. an overlay's Put. an overlay's loseArcs. -/
import Derived.Test.YtcfpkbmeblfhoaaOvR
namespace Go.Proofs.Ytcfpkbmeblfhoaa
open Go.RowKit Go.Extern Go.Sort

attribute [local go_sem] Oper.semAt_some

/-- what a Put is refused for: 0 where it isn't. -/
def putErr (n : Nat) (bs : List Bool) (x y wt via : Int) : Int :=
  if aliveB n bs x = true ∧ aliveB n bs y = true then (if x = y then 1 else if 140737488355328 < wt then 8 else if via = -1 then 0 else if goneB n bs via then 0 else 1) else 7
/-- an error's value. -/
def errV (c : Int) : Value := if c = 0 then .nilIface else .iface 72 (.int .i64 c)
/-- a call that only reads and answers this. -/
def Ans (f : FuncId) (args : Array Value) (w : World) (v : Value) : Prop := Calls Try.prog f args w fun e w' => e = .returned v ∧ w' = w
section
variable {w : World} {pb : Nat}
end
section
variable {w w' : World} {PX : Nat → Option Obj} {B pb ab n : Nat} {sb : Bool → Nat} {bs : List Bool} {R : Bool → Nat → Rw} {nodes arcs : Int}
end
end Go.Proofs.Ytcfpkbmeblfhoaa

namespace Go.Proofs.Ytcfpkbmeblfhoaa
open Go.RowKit Go.Extern Go.Sort

attribute [local go_sem] Oper.semAt_some

/-- rows of both sides with one of them changed. -/
def updS (R : Bool → Nat → Rw) (s : Bool) (u : Nat) (r : Rw) : Bool → Nat → Rw := fun s' => if s' = s then updR (R s) u r else R s'
theorem updS_at (R : Bool → Nat → Rw) (s : Bool) (u : Nat) (r : Rw) : updS R s u r s u = r := by simp [updS, updR]
theorem updS_other (R : Bool → Nat → Rw) (s s' : Bool) (u u' : Nat) (r : Rw) (h : (s', u') ≠ (s, u)) : updS R s u r s' u' = R s' u' := by
  unfold updS updR
  split
  · subst_vars
    show (if u' = u then r else _) = _
    rw [if_neg (fun e => h (by rw [e]))]
  · rfl
theorem updS_side (R : Bool → Nat → Rw) (s : Bool) (u : Nat) (r : Rw) : updS R s u r s = updR (R s) u r := by simp [updS]
theorem updS_far (R : Bool → Nat → Rw) (s s' : Bool) (u : Nat) (r : Rw) (h : s' ≠ s) : updS R s u r s' = R s' := by simp [updS, h]
section
variable {w w' : World} {PX : Nat → Option Obj} {B pb ab n : Nat} {sb : Bool → Nat} {bs : List Bool} {R : Bool → Nat → Rw} {nodes arcs : Int}
theorem OvMem.far (h : OvMem PX w B pb ab sb n bs R nodes arcs) (s : Bool) {u : Nat} (hu : u < n) : (R s u).1.ownBlock ≠ some pb ∧ (R s u).1.ownBlock ≠ some ab ∧ ∀ s', (R s u).1.ownBlock ≠ some (sb s') := by
  have ho := h.own s u hu
  rcases ho.2 with ⟨e, _⟩ | ⟨g, cap, cur, e, _, hg, _⟩
  · rw [e]
    exact ⟨fun h => (by cases h), fun h => (by cases h), fun _ h => (by cases h)⟩
  · rw [e]
    refine ⟨fun e => ?_, fun e => ?_, fun s' e => ?_⟩
    · obtain rfl : g = pb := Option.some.inj e
      have h1 := h.box; rw [hg] at h1; simp at h1
    · obtain rfl : g = ab := Option.some.inj e
      have h1 := h.al; rw [hg] at h1; simp at h1
    · obtain rfl : g = sb s' := Option.some.inj e
      have h1 := h.row s'; rw [hg] at h1; simp at h1
theorem OvMem.size (h : OvMem PX w B pb ab sb n bs R nodes arcs) : B ≤ w.heap.size := Nat.le_trans h.low.1 (Nat.le_of_lt (lt_of_get h.box))
theorem OvMem.moved (h : OvMem PX w B pb ab sb n bs R nodes arcs) {s : Bool} {u : Nat} (hu : u < n) {v' : Value} {gn' : Nat} {l' : List H3} (hm : Moved w w' (sb s) (u * 2) (rC n (R s)) 54 (R s u).1 v' gn') (ho : w'.ownsRow B 57 3 v' l'.length (flatH l')) :
    OvMem PX w' B pb ab sb n bs (updS R s u (v', l', gn')) nodes arcs ∧ Below B w w' := by
  obtain ⟨f1, f2, f3⟩ := h.far s hu
  obtain ⟨n1, n2, n3⟩ := h.ne s
  have keepR : ∀ s' u', u' < n → (s', u') ≠ (s, u) → w'.ownsRow B 57 3 (R s' u').1 (R s' u').2.1.length (flatH (R s' u').2.1) := fun s' u' hu' hne => by
    obtain ⟨h1, h2⟩ := h.own s' u' hu'
    refine ⟨h1, ?_⟩
    rcases h2 with h2 | ⟨g, cap, cur, e, hb, hg, r⟩
    · exact Or.inl h2
    · refine Or.inr ⟨g, cap, cur, e, hb, (hm.block g (lt_of_get hg) (fun e' => ?_) (fun e' => ?_)).trans hg, r⟩
      · exact (h.far s' hu').2.2 s (by rw [e, e']; rfl)
      · exact h.apart s u g hu e' s' u' hu' hne (by rw [e]; rfl)
  refine ⟨⟨(hm.block pb (lt_of_get h.box) n2 f1).trans h.box, (hm.block ab (lt_of_get h.al) n1 f2).trans h.al, fun s' => ?_, h.bl, h.big, fun s' u' hu' => ?_, h.low, h.two, ?_, ?_⟩, ?_⟩
  · by_cases e : s' = s
    · subst e
      rw [updS_side, hm.row]
      have := rC_set n (R s') u (v', l', gn')
      rw [← this]
    · rw [updS_far _ _ _ _ _ e]
      refine (hm.block (sb s') (lt_of_get (h.row s')) (fun e' => ?_) (f3 s')).trans (h.row s')
      cases s <;> cases s' <;> simp_all [h.two]
      · exact h.two e'.symm
  · by_cases e : (s', u') = (s, u)
    · cases e
      rw [updS_at]
      exact ho
    · rw [updS_other _ _ _ _ _ _ e]
      exact keepR s' u' hu' e
  · intro X o hX
    obtain ⟨p1, p2, p3, p4, p5⟩ := h.prot X o hX
    have pl := lt_of_get p1
    refine ⟨(hm.block X pl (p4 s) (p5 s u hu)).trans p1, p2, p3, p4, fun s1 u1 hu1 => ?_⟩
    by_cases e : (s1, u1) = (s, u)
    · cases e
      rw [updS_at]
      intro h2
      rcases hm.own X h2 with h3 | h3
      · exact p5 s u hu h3
      · omega
    · rw [updS_other _ _ _ _ _ _ e]
      exact p5 s1 u1 hu1
  · intro s1 u1 k hu1 hk s2 u2 hu2 hne
    have nw : ∀ s' u' j, u' < n → (R s' u').1.ownBlock = some j → j < w.heap.size := fun s' u' j hu' hj => ((h.own s' u' hu').lt j hj).2
    by_cases e1 : (s1, u1) = (s, u)
    · cases e1
      rw [updS_at] at hk
      rw [updS_other _ _ _ _ _ _ hne]
      intro h2
      rcases hm.own k hk with h3 | h3
      · exact h.apart s u k hu h3 s2 u2 hu2 hne h2
      · have := nw s2 u2 k hu2 h2
        omega
    · rw [updS_other _ _ _ _ _ _ e1] at hk
      by_cases e2 : (s2, u2) = (s, u)
      · cases e2
        rw [updS_at]
        intro h2
        rcases hm.own k h2 with h3 | h3
        · exact h.apart s1 u1 k hu1 hk s u hu (fun e => e1 e.symm) h3
        · have := nw s1 u1 k hu1 hk
          omega
      · rw [updS_other _ _ _ _ _ _ e2]
        exact h.apart s1 u1 k hu1 hk s2 u2 hu2 hne
  · refine ⟨hm.os, hm.tape, hm.output, hm.size, fun k hk => hm.block k (Nat.lt_of_lt_of_le hk h.size) (fun e => ?_) (fun e => ?_)⟩
    · have := h.low.2.2 s
      omega
    · have := ((h.own s u hu).lt k e).1
      omega
theorem OvMem.setArcs (h : OvMem PX w B pb ab sb n bs R nodes arcs) (a : Int) : OvMem PX (w.setCell ⟨pb, 4, none⟩ (.int .i64 a)) B pb ab sb n bs R nodes a ∧ Below B w (w.setCell ⟨pb, 4, none⟩ (.int .i64 a)) := by
  refine ⟨⟨?_, (heap_setCell_other _ _ _ _ (Ne.symm (h.ne false).2.2)).trans h.al, fun s => (heap_setCell_other _ _ _ _ (Ne.symm (h.ne s).2.1)).trans (h.row s), h.bl, h.big, fun s u hu => own_set (h.own s u hu) (h.far s hu).1 _, h.low, h.two, fun X o hX => ⟨(heap_setCell_other _ _ _ _ (h.prot X o hX).2.1).trans (h.prot X o hX).1, (h.prot X o hX).2⟩, h.apart⟩, ?_⟩
  · rw [hsc_same _ h.box]
    rfl
  · exact (Below.refl B w).setCell (p := ⟨pb, 4, none⟩) h.low.1 _
end
end Go.Proofs.Ytcfpkbmeblfhoaa

namespace Go.Proofs.Ytcfpkbmeblfhoaa
open Go.RowKit Go.Extern Go.Sort

attribute [local go_sem] Oper.semAt_some

theorem insH_rise {l : List H3} {a : H3} (hr : RiseH l) (h : hasH l a.1 = false) : RiseH (insH l (lowH l a.1) a) := by
  have hl : ∀ (l : List H3), RiseH l → (∀ b ∈ l, b.1 ≠ a.1) → RiseH (insH l (lowH l a.1) a) ∧ insH l (lowH l a.1) a = l.filter (fun b => decide (b.1 < a.1)) ++ a :: l.filter (fun b => !decide (b.1 < a.1)) := by
    intro l
    induction l with
    | nil => intro _ _; exact ⟨by simp [insH, RiseH], by simp [insH]⟩
    | cons b r ih =>
      intro hr hn
      obtain ⟨h1, h2⟩ := List.pairwise_cons.1 hr
      have hb := hn b (by simp)
      obtain ⟨i1, i2⟩ := ih h2 (fun c hc => hn c (by simp [hc]))
      by_cases hlt : b.1 < a.1
      · have e : lowH (b :: r) a.1 = lowH r a.1 + 1 := by unfold lowH; rw [List.countP_cons_of_pos (by simpa using hlt)]
        have e2 : insH (b :: r) (lowH (b :: r) a.1) a = b :: insH r (lowH r a.1) a := by rw [e]; rfl
        rw [e2]
        refine ⟨List.pairwise_cons.2 ⟨fun c hc => ?_, i1⟩, ?_⟩
        · unfold insH at hc
          rw [List.mem_append, List.mem_cons] at hc
          rcases hc with hc | rfl | hc
          · exact h1 c (List.mem_of_mem_take hc)
          · exact hlt
          · exact h1 c (List.mem_of_mem_drop hc)
        · rw [i2]
          simp [hlt]
      · have hge : a.1 < b.1 := by omega
        have all : ∀ c ∈ b :: r, a.1 < c.1 := fun c hc => by
          rw [List.mem_cons] at hc
          rcases hc with rfl | hc
          · exact hge
          · have := h1 c hc
            omega
        have e : lowH (b :: r) a.1 = 0 := by
          unfold lowH
          rw [List.countP_eq_zero]
          intro c hc
          have := all c hc
          simp
          omega
        have e2 : insH (b :: r) (lowH (b :: r) a.1) a = a :: b :: r := by rw [e]; rfl
        rw [e2]
        refine ⟨List.pairwise_cons.2 ⟨all, hr⟩, ?_⟩
        rw [List.filter_eq_nil_iff.2 (fun c hc => by have := all c hc; simp; omega), List.filter_eq_self.2 (fun c hc => by have := all c hc; simp; omega)]
        rfl
  refine (hl l hr (fun b hb e => ?_)).1
  have := List.any_eq_false.1 h b hb
  simp [e] at this
theorem setH_rise {l : List H3} {a : H3} (hr : RiseH l) : RiseH (setH l a) := by
  unfold setH
  split
  · rename_i h
    obtain ⟨h1, h2⟩ := hasH_low hr h
    have e : (l.set (lowH l a.1) a).map (·.1) = l.map (·.1) := by
      rw [List.map_set]
      apply List.ext_getElem?
      intro i
      rw [List.getElem?_set]
      split
      · subst_vars
        rw [List.length_map, if_pos h1, List.getElem?_map, List.getElem?_eq_getElem h1]
        simp [h2 _ (List.getElem?_eq_getElem h1)]
      · rfl
    have h3 : (l.map (·.1)).Pairwise (· < ·) := List.pairwise_map.2 hr
    rw [← e] at h3
    exact List.pairwise_map.1 h3
  · rename_i h
    exact insH_rise hr (by simpa using h)
theorem setH_mem {l : List H3} {a b : H3} (h : b ∈ setH l a) : b = a ∨ b ∈ l := by
  unfold setH at h
  split at h
  · exact (List.mem_or_eq_of_mem_set h).symm
  · unfold insH at h
    rw [List.mem_append, List.mem_cons] at h
    rcases h with h | h | h
    · exact Or.inr (List.mem_of_mem_take h)
    · exact Or.inl h
    · exact Or.inr (List.mem_of_mem_drop h)
theorem setH_len (l : List H3) (a : H3) : l.length ≤ (setH l a).length := by
  unfold setH
  split
  · simp
  · rw [insH_len (lowH_le _ _)]
    omega
theorem RowsOk.set {n : Nat} {R : Bool → Nat → Rw} (hk : RowsOk n R) (s : Bool) {u : Nat} (v' : Value) {a : H3} (h0 : 0 ≤ a.1) (h1 : a.1 < (n : Int)) : RowsOk n (updS R s u (v', setH (R s u).2.1 a, (R s u).2.2)) := by
  refine ⟨fun s' u' hu' => ?_, fun s' u' hu' => ?_, fun s' u' hu' => ?_⟩
  all_goals
    by_cases e : (s', u') = (s, u)
    · cases e
      rw [updS_at]
      first
        | exact setH_rise (hk.rise s u hu')
        | (intro b hb
           rcases setH_mem hb with rfl | hb
           · exact ⟨h0, h1⟩
           · exact hk.node s u hu' b hb)
        | exact Nat.le_trans (hk.gone s u hu') (setH_len _ _)
    · rw [updS_other _ _ _ _ _ _ e]
      first
        | exact hk.rise s' u' hu'
        | exact hk.node s' u' hu'
        | exact hk.gone s' u' hu'
section
variable {w w' : World} {PX : Nat → Option Obj} {B pb ab n : Nat} {sb : Bool → Nat} {bs : List Bool} {R : Bool → Nat → Rw} {nodes arcs : Int}
theorem putErr_zero {n : Nat} {bs : List Bool} {x y wt via : Int} (hp : putErr n bs x y wt via = 0) : ∃ a b : Nat, x = (a : Int) ∧ y = (b : Int) ∧ a < n ∧ b < n ∧ x ≠ y ∧ aliveB n bs x = true ∧ aliveB n bs y = true := by
  unfold putErr at hp
  split at hp
  · rename_i h
    split at hp
    · cases hp
    · rename_i hne
      have h1 := h.1
      have h2 := h.2
      simp [aliveB, isN] at h1 h2
      exact ⟨x.toNat, y.toNat, by omega, by omega, by omega, by omega, hne, h.1, h.2⟩
  · cases hp
end
end Go.Proofs.Ytcfpkbmeblfhoaa

namespace Go.Proofs.Ytcfpkbmeblfhoaa
open Go.RowKit Go.Extern Go.Sort

attribute [local go_sem] Oper.semAt_some

/-- what becomes of the rows of a side where the halves of a list are lost. -/
def LostR (n : Nat) (bs : List Bool) (s' : Bool) (l : List H3) (R R' : Bool → Nat → Rw) : Prop :=
  ∀ s u, u < n → (s = s' ∧ hasH (livH bs l) (u : Int) = true → (R' s u).2 = loseH bs (R s u).2.1 (R s u).2.2) ∧ (¬ (s = s' ∧ hasH (livH bs l) (u : Int) = true) → R' s u = R s u)
theorem livH_mem {bs : List Bool} {l : List H3} {a : H3} : a ∈ livH bs l ↔ a ∈ l ∧ bs[a.1.toNat]?.getD false = true := by simp [livH]
theorem livH_rise {bs : List Bool} {l : List H3} (h : RiseH l) : RiseH (livH bs l) := List.Pairwise.filter _ h
theorem RowsOk.lose {n : Nat} {R : Bool → Nat → Rw} (hk : RowsOk n R) (bs : List Bool) (s : Bool) {u : Nat} (v' : Value) : RowsOk n (updS R s u (v', loseH bs (R s u).2.1 (R s u).2.2)) := by
  refine ⟨fun s' u' hu' => ?_, fun s' u' hu' => ?_, fun s' u' hu' => ?_⟩
  · by_cases e : (s', u') = (s, u)
    · cases e
      rw [updS_at]
      unfold loseH
      split
      · exact livH_rise (hk.rise s u hu')
      · exact hk.rise s u hu'
    · rw [updS_other _ _ _ _ _ _ e]
      exact hk.rise s' u' hu'
  · by_cases e : (s', u') = (s, u)
    · cases e
      rw [updS_at]
      unfold loseH
      split
      · exact fun a ha => hk.node s u hu' a (livH_mem.1 ha).1
      · exact hk.node s u hu'
    · rw [updS_other _ _ _ _ _ _ e]
      exact hk.node s' u' hu'
  · by_cases e : (s', u') = (s, u)
    · cases e
      rw [updS_at]
      unfold loseH
      split
      · simp
      · simp only
        omega
    · rw [updS_other _ _ _ _ _ _ e]
      exact hk.gone s' u' hu'
theorem hasH_take_last {l : List H3} (hr : RiseH l) {k : Nat} {a : H3} (h : l[k]? = some a) (bs : List Bool) : hasH (livH bs (l.take k)) a.1 = false := by
  unfold hasH
  rw [List.any_eq_false]
  intro b hb
  have hb1 := (livH_mem.1 hb).1
  obtain ⟨i, hi⟩ := List.getElem?_of_mem hb1
  rw [List.getElem?_take] at hi
  split at hi
  · have := hr.lt hi h (by omega)
    simp
    omega
  · cases hi
theorem hasH_append (l r : List H3) (x : Int) : hasH (l ++ r) x = (hasH l x || hasH r x) := by simp [hasH]
theorem LostR.start (n : Nat) (bs : List Bool) (s' : Bool) (R : Bool → Nat → Rw) (l : List H3) : LostR n bs s' (l.take 0) R R := fun s u _ => ⟨fun h => by simp [livH, hasH] at h, fun _ => rfl⟩
theorem LostR.skip {n : Nat} {bs : List Bool} {s' : Bool} {l : List H3} {R R' : Bool → Nat → Rw} {k : Nat} {a : H3} (h : LostR n bs s' (l.take k) R R') (ha : l[k]? = some a) (hd : bs[a.1.toNat]?.getD false = false) : LostR n bs s' (l.take (k + 1)) R R' := by
  unfold LostR at *
  rw [livH_take_succ ha, hd]
  simpa using h
theorem LostR.step {n : Nat} {bs : List Bool} {s' : Bool} {l : List H3} {R R' : Bool → Nat → Rw} {k m : Nat} {a : H3} {v' : Value} (hr : RiseH l) (h : LostR n bs s' (l.take k) R R') (ha : l[k]? = some a) (hm : a.1 = (m : Int)) (hmn : m < n) (hd : bs[a.1.toNat]?.getD false = true) :
    LostR n bs s' (l.take (k + 1)) R (updS R' s' m (v', loseH bs (R' s' m).2.1 (R' s' m).2.2)) ∧ R' s' m = R s' m := by
  have hno := hasH_take_last hr ha bs
  have e0 : R' s' m = R s' m := (h s' m hmn).2 (fun e => by rw [← hm, hno] at e; exact absurd e.2 (by simp))
  refine ⟨fun s u hu => ?_, e0⟩
  rw [livH_take_succ ha, hd, if_pos rfl, hasH_append]
  by_cases e : (s, u) = (s', m)
  · cases e
    rw [updS_at, e0]
    refine ⟨fun _ => rfl, fun hn => absurd ⟨rfl, ?_⟩ hn⟩
    simp [hasH, hm]
  · rw [updS_other _ _ _ _ _ _ e]
    have hne : s = s' → hasH [a] (u : Int) = false := fun es => by
      simp [hasH, hm]
      intro eu
      exact e (by rw [es, show u = m by omega])
    refine ⟨fun hc => (h s u hu).1 ⟨hc.1, ?_⟩, fun hc => (h s u hu).2 (fun hd => hc ⟨hd.1, by rw [hd.2]; rfl⟩)⟩
    have h2 := hc.2
    rw [hne hc.1, Bool.or_false] at h2
    exact h2
section
variable {w w' : World} {PX : Nat → Option Obj} {B pb ab n : Nat} {sb : Bool → Nat} {bs : List Bool} {R : Bool → Nat → Rw} {nodes arcs : Int}
end
end Go.Proofs.Ytcfpkbmeblfhoaa
