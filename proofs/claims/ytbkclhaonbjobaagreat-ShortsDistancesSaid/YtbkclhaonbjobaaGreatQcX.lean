/- an overlay's checkPut. an overlay's Put. an overlay's Put. an overlay's loseArcs. an overlay's loseArcs. an overlay's Remove. an overlay's New: what is laid at first. -/
import Derived.Test.YtbkclhaonbjobaaGreatQbX
import Derived.BigRegion
import Derived.Test.YtbkclhaonbjobaaGreatQnX
import Derived.Deep.OwnRows
namespace Go.Proofs.YtbkclhaonbjobaaGreat
open Go.RowKit Go.Extern Go.Sort

attribute [local go_sem] Oper.semAt_some

/-- what a Put is refused for: 0 where it isn't. -/
def putErr (n : Nat) (bs : List Bool) (x y wt via : Int) : Int :=
  if aliveB n bs x = true ∧ aliveB n bs y = true then (if x = y then 1 else if 140737488355328 < wt then 8 else if via = -1 then 0 else if goneB n bs via then 0 else 1) else 7
/-- an error's value. -/
def errV (c : Int) : Value := if c = 0 then .nilIface else .iface 104 (.int .i64 c)
/-- a call that only reads and answers this. -/
def Ans (f : FuncId) (args : Array Value) (w : World) (v : Value) : Prop := Calls Tryz.prog f args w fun e w' => e = .returned v ∧ w' = w
section
variable {w : World} {pb : Nat}
set_option maxRecDepth 100000 in
set_option maxHeartbeats 2000000 in
theorem cp_x (x y wt via : Int) (HX : Hid (Ans 9 #[.pointer (some ⟨pb, 0, none⟩), .int .i64 x] w (.bool false))) : Ans 52 #[.pointer (some ⟨pb, 0, none⟩), .int .i64 x, .int .i64 y, .int .u64 wt, .int .i64 via] w (.iface 104 (.int .i64 7)) := by
  unfold Ans at *
  go_enter Tryz.func52, Tryz.ntmps52
  go_wp2_with fail
  refine HX.out.mono ?_
  rintro e w1 ⟨rfl, hw1⟩
  subst hw1
  go_wp2
  go_ret
  exact ⟨rfl, rfl⟩
set_option maxRecDepth 100000 in
set_option maxHeartbeats 2000000 in
theorem cp_y (x y wt via : Int) (HX : Hid (Ans 9 #[.pointer (some ⟨pb, 0, none⟩), .int .i64 x] w (.bool true))) (HY : Hid (Ans 9 #[.pointer (some ⟨pb, 0, none⟩), .int .i64 y] w (.bool false))) : Ans 52 #[.pointer (some ⟨pb, 0, none⟩), .int .i64 x, .int .i64 y, .int .u64 wt, .int .i64 via] w (.iface 104 (.int .i64 7)) := by
  unfold Ans at *
  go_enter Tryz.func52, Tryz.ntmps52
  go_wp2_with fail
  refine HX.out.mono ?_
  rintro e w1 ⟨rfl, hw1⟩
  subst hw1
  go_wp2_with fail
  refine HY.out.mono ?_
  rintro e w2 ⟨rfl, hw2⟩
  subst hw2
  go_wp2
  go_ret
  exact ⟨rfl, rfl⟩
set_option maxRecDepth 100000 in
set_option maxHeartbeats 2000000 in
theorem cp_xy (x y wt via : Int) (HX : Hid (Ans 9 #[.pointer (some ⟨pb, 0, none⟩), .int .i64 x] w (.bool true))) (HY : Hid (Ans 9 #[.pointer (some ⟨pb, 0, none⟩), .int .i64 y] w (.bool true))) (h1 : x = y) : Ans 52 #[.pointer (some ⟨pb, 0, none⟩), .int .i64 x, .int .i64 y, .int .u64 wt, .int .i64 via] w (.iface 104 (.int .i64 1)) := by
  unfold Ans at *
  subst h1
  go_enter Tryz.func52, Tryz.ntmps52
  go_wp2_with fail
  refine HX.out.mono ?_
  rintro e w1 ⟨rfl, hw1⟩
  subst hw1
  go_wp2_with fail
  refine HY.out.mono ?_
  rintro e w2 ⟨rfl, hw2⟩
  subst hw2
  go_wp2
  go_ret
  exact ⟨rfl, rfl⟩
set_option maxRecDepth 100000 in
set_option maxHeartbeats 2000000 in
theorem cp_wt (x y wt via : Int) (HX : Hid (Ans 9 #[.pointer (some ⟨pb, 0, none⟩), .int .i64 x] w (.bool true))) (HY : Hid (Ans 9 #[.pointer (some ⟨pb, 0, none⟩), .int .i64 y] w (.bool true))) (h1 : ¬ x = y) (h2 : 140737488355328 < wt) : Ans 52 #[.pointer (some ⟨pb, 0, none⟩), .int .i64 x, .int .i64 y, .int .u64 wt, .int .i64 via] w (.iface 104 (.int .i64 8)) := by
  unfold Ans at *
  go_enter Tryz.func52, Tryz.ntmps52
  go_wp2_with fail
  refine HX.out.mono ?_
  rintro e w1 ⟨rfl, hw1⟩
  subst hw1
  go_wp2_with fail
  refine HY.out.mono ?_
  rintro e w2 ⟨rfl, hw2⟩
  subst hw2
  go_wp2
  go_ret
  exact ⟨rfl, rfl⟩
set_option maxRecDepth 100000 in
set_option maxHeartbeats 2000000 in
theorem cp_ok1 (x y wt via : Int) (HX : Hid (Ans 9 #[.pointer (some ⟨pb, 0, none⟩), .int .i64 x] w (.bool true))) (HY : Hid (Ans 9 #[.pointer (some ⟨pb, 0, none⟩), .int .i64 y] w (.bool true))) (h1 : ¬ x = y) (h2 : ¬ 140737488355328 < wt) (h3 : via = -1) : Ans 52 #[.pointer (some ⟨pb, 0, none⟩), .int .i64 x, .int .i64 y, .int .u64 wt, .int .i64 via] w .nilIface := by
  unfold Ans at *
  subst h3
  go_enter Tryz.func52, Tryz.ntmps52
  go_wp2_with fail
  refine HX.out.mono ?_
  rintro e w1 ⟨rfl, hw1⟩
  subst hw1
  go_wp2_with fail
  refine HY.out.mono ?_
  rintro e w2 ⟨rfl, hw2⟩
  subst hw2
  go_wp2
  go_ret
  exact ⟨rfl, rfl⟩
set_option maxRecDepth 100000 in
set_option maxHeartbeats 2000000 in
theorem cp_ok2 (x y wt via : Int) (HX : Hid (Ans 9 #[.pointer (some ⟨pb, 0, none⟩), .int .i64 x] w (.bool true))) (HY : Hid (Ans 9 #[.pointer (some ⟨pb, 0, none⟩), .int .i64 y] w (.bool true))) (h1 : ¬ x = y) (h2 : ¬ 140737488355328 < wt) (h3 : ¬ via = -1) (HG : Hid (Ans 65 #[.pointer (some ⟨pb, 0, none⟩), .int .i64 via] w (.bool true))) : Ans 52 #[.pointer (some ⟨pb, 0, none⟩), .int .i64 x, .int .i64 y, .int .u64 wt, .int .i64 via] w .nilIface := by
  unfold Ans at *
  go_enter Tryz.func52, Tryz.ntmps52
  go_wp2_with fail
  refine HX.out.mono ?_
  rintro e w1 ⟨rfl, hw1⟩
  subst hw1
  go_wp2_with fail
  refine HY.out.mono ?_
  rintro e w2 ⟨rfl, hw2⟩
  subst hw2
  go_wp2_with fail
  refine HG.out.mono ?_
  rintro e w3 ⟨rfl, hw3⟩
  subst hw3
  go_wp2
  go_ret
  exact ⟨rfl, rfl⟩
set_option maxRecDepth 100000 in
set_option maxHeartbeats 2000000 in
theorem cp_via (x y wt via : Int) (HX : Hid (Ans 9 #[.pointer (some ⟨pb, 0, none⟩), .int .i64 x] w (.bool true))) (HY : Hid (Ans 9 #[.pointer (some ⟨pb, 0, none⟩), .int .i64 y] w (.bool true))) (h1 : ¬ x = y) (h2 : ¬ 140737488355328 < wt) (h3 : ¬ via = -1) (HG : Hid (Ans 65 #[.pointer (some ⟨pb, 0, none⟩), .int .i64 via] w (.bool false))) : Ans 52 #[.pointer (some ⟨pb, 0, none⟩), .int .i64 x, .int .i64 y, .int .u64 wt, .int .i64 via] w (.iface 104 (.int .i64 1)) := by
  unfold Ans at *
  go_enter Tryz.func52, Tryz.ntmps52
  go_wp2_with fail
  refine HX.out.mono ?_
  rintro e w1 ⟨rfl, hw1⟩
  subst hw1
  go_wp2_with fail
  refine HY.out.mono ?_
  rintro e w2 ⟨rfl, hw2⟩
  subst hw2
  go_wp2_with fail
  refine HG.out.mono ?_
  rintro e w3 ⟨rfl, hw3⟩
  subst hw3
  go_wp2
  go_ret
  exact ⟨rfl, rfl⟩
end
section
variable {w w' : World} {PX : Nat → Option Obj} {B pb ab n : Nat} {sb : Bool → Nat} {bs : List Bool} {R : Bool → Nat → Rw} {nodes arcs : Int}
theorem checkPut_calls (h : OvMem PX w B pb ab sb n bs R nodes arcs) (x y wt via : Int) : Calls Tryz.prog 52 #[.pointer (some ⟨pb, 0, none⟩), .int .i64 x, .int .i64 y, .int .u64 wt, .int .i64 via] w fun e w' => e = .returned (errV (putErr n bs x y wt via)) ∧ w' = w := by
  have HX := alive_calls h x
  have HY := alive_calls h y
  have HG := gone_calls h via
  show Ans 52 _ w _
  unfold putErr
  cases hx : aliveB n bs x with
  | false => rw [hx] at HX; exact cp_x x y wt via HX
  | true =>
    rw [hx] at HX
    cases hy : aliveB n bs y with
    | false => rw [hy] at HY; exact cp_y x y wt via HX HY
    | true =>
      rw [hy] at HY
      rw [if_pos ⟨rfl, rfl⟩]
      by_cases h1 : x = y
      · rw [if_pos h1]; exact cp_xy x y wt via HX HY h1
      · rw [if_neg h1]
        by_cases h2 : 140737488355328 < wt
        · rw [if_pos h2]; exact cp_wt x y wt via HX HY h1 h2
        · rw [if_neg h2]
          by_cases h3 : via = -1
          · rw [if_pos h3]; exact cp_ok1 x y wt via HX HY h1 h2 h3
          · rw [if_neg h3]
            cases h4 : goneB n bs via with
            | true => rw [h4] at HG; exact cp_ok2 x y wt via HX HY h1 h2 h3 HG
            | false => rw [h4] at HG; exact cp_via x y wt via HX HY h1 h2 h3 HG
end
end Go.Proofs.YtbkclhaonbjobaaGreat

namespace Go.Proofs.YtbkclhaonbjobaaGreat
open Go.RowKit Go.Extern Go.Sort

attribute [local go_sem] Oper.semAt_some

/-- rows of both sides with one of them changed. -/
def updS (R : Bool → Nat → Rw) (s : Bool) (u : Nat) (r : Rw) : Bool → Nat → Rw := fun s' => if s' = s then updR (R s) u r else R s'
theorem updS_at (R : Bool → Nat → Rw) (s : Bool) (u : Nat) (r : Rw) : updS R s u r s u = r := by simp [updS, updR]
theorem updS_other (R : Bool → Nat → Rw) (s s' : Bool) (u u' : Nat) (r : Rw) (h : (s', u') ≠ (s, u)) : updS R s u r s' u' = R s' u' := by
  unfold updS updR
  split
  · subst_vars
    show (if u' = u then r else _) = _
    rw [if_neg (fun e => h (by rw [e]))]
  · rfl
theorem updS_side (R : Bool → Nat → Rw) (s : Bool) (u : Nat) (r : Rw) : updS R s u r s = updR (R s) u r := by simp [updS]
theorem updS_far (R : Bool → Nat → Rw) (s s' : Bool) (u : Nat) (r : Rw) (h : s' ≠ s) : updS R s u r s' = R s' := by simp [updS, h]
section
variable {w w' : World} {PX : Nat → Option Obj} {B pb ab n : Nat} {sb : Bool → Nat} {bs : List Bool} {R : Bool → Nat → Rw} {nodes arcs : Int}
theorem OvMem.far (h : OvMem PX w B pb ab sb n bs R nodes arcs) (s : Bool) {u : Nat} (hu : u < n) : (R s u).1.ownBlock ≠ some pb ∧ (R s u).1.ownBlock ≠ some ab ∧ ∀ s', (R s u).1.ownBlock ≠ some (sb s') := by
  have ho := h.own s u hu
  rcases ho.2 with ⟨e, _⟩ | ⟨g, cap, cur, e, _, hg, _⟩
  · rw [e]
    exact ⟨fun h => (by cases h), fun h => (by cases h), fun _ h => (by cases h)⟩
  · rw [e]
    refine ⟨fun e => ?_, fun e => ?_, fun s' e => ?_⟩
    · obtain rfl : g = pb := Option.some.inj e
      have h1 := h.box; rw [hg] at h1; simp at h1
    · obtain rfl : g = ab := Option.some.inj e
      have h1 := h.al; rw [hg] at h1; simp at h1
    · obtain rfl : g = sb s' := Option.some.inj e
      have h1 := h.row s'; rw [hg] at h1; simp at h1
theorem OvMem.size (h : OvMem PX w B pb ab sb n bs R nodes arcs) : B ≤ w.heap.size := Nat.le_trans h.low.1 (Nat.le_of_lt (lt_of_get h.box))
theorem OvMem.moved (h : OvMem PX w B pb ab sb n bs R nodes arcs) {s : Bool} {u : Nat} (hu : u < n) {v' : Value} {gn' : Nat} {l' : List H3} (hm : Moved w w' (sb s) (u * 2) (rC n (R s)) 86 (R s u).1 v' gn') (ho : w'.ownsRow B 49 3 v' l'.length (flatH l')) :
    OvMem PX w' B pb ab sb n bs (updS R s u (v', l', gn')) nodes arcs ∧ Below B w w' := by
  obtain ⟨f1, f2, f3⟩ := h.far s hu
  obtain ⟨n1, n2, n3⟩ := h.ne s
  have keepR : ∀ s' u', u' < n → (s', u') ≠ (s, u) → w'.ownsRow B 49 3 (R s' u').1 (R s' u').2.1.length (flatH (R s' u').2.1) := fun s' u' hu' hne => by
    obtain ⟨h1, h2⟩ := h.own s' u' hu'
    refine ⟨h1, ?_⟩
    rcases h2 with h2 | ⟨g, cap, cur, e, hb, hg, r⟩
    · exact Or.inl h2
    · refine Or.inr ⟨g, cap, cur, e, hb, (hm.block g (lt_of_get hg) (fun e' => ?_) (fun e' => ?_)).trans hg, r⟩
      · exact (h.far s' hu').2.2 s (by rw [e, e']; rfl)
      · exact h.apart s u g hu e' s' u' hu' hne (by rw [e]; rfl)
  refine ⟨⟨(hm.block pb (lt_of_get h.box) n2 f1).trans h.box, (hm.block ab (lt_of_get h.al) n1 f2).trans h.al, fun s' => ?_, h.bl, h.big, fun s' u' hu' => ?_, h.low, h.two, ?_, ?_⟩, ?_⟩
  · by_cases e : s' = s
    · subst e
      rw [updS_side, hm.row]
      have := rC_set n (R s') u (v', l', gn')
      rw [← this]
    · rw [updS_far _ _ _ _ _ e]
      refine (hm.block (sb s') (lt_of_get (h.row s')) (fun e' => ?_) (f3 s')).trans (h.row s')
      cases s <;> cases s' <;> simp_all [h.two]
      · exact h.two e'.symm
  · by_cases e : (s', u') = (s, u)
    · cases e
      rw [updS_at]
      exact ho
    · rw [updS_other _ _ _ _ _ _ e]
      exact keepR s' u' hu' e
  · intro X o hX
    obtain ⟨p1, p2, p3, p4, p5⟩ := h.prot X o hX
    have pl := lt_of_get p1
    refine ⟨(hm.block X pl (p4 s) (p5 s u hu)).trans p1, p2, p3, p4, fun s1 u1 hu1 => ?_⟩
    by_cases e : (s1, u1) = (s, u)
    · cases e
      rw [updS_at]
      intro h2
      rcases hm.own X h2 with h3 | h3
      · exact p5 s u hu h3
      · omega
    · rw [updS_other _ _ _ _ _ _ e]
      exact p5 s1 u1 hu1
  · intro s1 u1 k hu1 hk s2 u2 hu2 hne
    have nw : ∀ s' u' j, u' < n → (R s' u').1.ownBlock = some j → j < w.heap.size := fun s' u' j hu' hj => ((h.own s' u' hu').lt j hj).2
    by_cases e1 : (s1, u1) = (s, u)
    · cases e1
      rw [updS_at] at hk
      rw [updS_other _ _ _ _ _ _ hne]
      intro h2
      rcases hm.own k hk with h3 | h3
      · exact h.apart s u k hu h3 s2 u2 hu2 hne h2
      · have := nw s2 u2 k hu2 h2
        omega
    · rw [updS_other _ _ _ _ _ _ e1] at hk
      by_cases e2 : (s2, u2) = (s, u)
      · cases e2
        rw [updS_at]
        intro h2
        rcases hm.own k h2 with h3 | h3
        · exact h.apart s1 u1 k hu1 hk s u hu (fun e => e1 e.symm) h3
        · have := nw s1 u1 k hu1 hk
          omega
      · rw [updS_other _ _ _ _ _ _ e2]
        exact h.apart s1 u1 k hu1 hk s2 u2 hu2 hne
  · refine ⟨hm.os, hm.tape, hm.output, hm.size, fun k hk => hm.block k (Nat.lt_of_lt_of_le hk h.size) (fun e => ?_) (fun e => ?_)⟩
    · have := h.low.2.2 s
      omega
    · have := ((h.own s u hu).lt k e).1
      omega
theorem OvMem.setArcs (h : OvMem PX w B pb ab sb n bs R nodes arcs) (a : Int) : OvMem PX (w.setCell ⟨pb, 4, none⟩ (.int .i64 a)) B pb ab sb n bs R nodes a ∧ Below B w (w.setCell ⟨pb, 4, none⟩ (.int .i64 a)) := by
  refine ⟨⟨?_, (heap_setCell_other _ _ _ _ (Ne.symm (h.ne false).2.2)).trans h.al, fun s => (heap_setCell_other _ _ _ _ (Ne.symm (h.ne s).2.1)).trans (h.row s), h.bl, h.big, fun s u hu => own_set (h.own s u hu) (h.far s hu).1 _, h.low, h.two, fun X o hX => ⟨(heap_setCell_other _ _ _ _ (h.prot X o hX).2.1).trans (h.prot X o hX).1, (h.prot X o hX).2⟩, h.apart⟩, ?_⟩
  · rw [hsc_same _ h.box]
    rfl
  · exact (Below.refl B w).setCell (p := ⟨pb, 4, none⟩) h.low.1 _
theorem OvMem.set (h : OvMem PX w B pb ab sb n bs R nodes arcs) (hk : RowsOk n R) (s : Bool) {u : Nat} (hu : u < n) (a : H3) :
    Calls Tryz.prog 54 #[.pointer (some ⟨sb s, u * 2, none⟩), hV a] w fun e w' => e = .returned (.tuple #[]) ∧ ∃ v', OvMem PX w' B pb ab sb n bs (updS R s u (v', setH (R s u).2.1 a, (R s u).2.2)) nodes arcs ∧ Below B w w' := by
  refine (set_calls B (sb s) (u * 2) _ _ (R s u).1 (R s u).2.2 (R s u).2.1 a w (h.row s) (h.rc s hu).1 (h.rc s hu).2 (h.own s u hu) ((h.far s hu).2.2 s) h.size (hk.rise s u hu) (by have := h.len hk s hu; omega)).mono ?_
  rintro e w' ⟨rfl, v', o, m⟩
  exact ⟨rfl, v', h.moved hu m o⟩
end
end Go.Proofs.YtbkclhaonbjobaaGreat

namespace Go.Proofs.YtbkclhaonbjobaaGreat
open Go.RowKit Go.Extern Go.Sort

attribute [local go_sem] Oper.semAt_some

theorem insH_rise {l : List H3} {a : H3} (hr : RiseH l) (h : hasH l a.1 = false) : RiseH (insH l (lowH l a.1) a) := by
  have hl : ∀ (l : List H3), RiseH l → (∀ b ∈ l, b.1 ≠ a.1) → RiseH (insH l (lowH l a.1) a) ∧ insH l (lowH l a.1) a = l.filter (fun b => decide (b.1 < a.1)) ++ a :: l.filter (fun b => !decide (b.1 < a.1)) := by
    intro l
    induction l with
    | nil => intro _ _; exact ⟨by simp [insH, RiseH], by simp [insH]⟩
    | cons b r ih =>
      intro hr hn
      obtain ⟨h1, h2⟩ := List.pairwise_cons.1 hr
      have hb := hn b (by simp)
      obtain ⟨i1, i2⟩ := ih h2 (fun c hc => hn c (by simp [hc]))
      by_cases hlt : b.1 < a.1
      · have e : lowH (b :: r) a.1 = lowH r a.1 + 1 := by unfold lowH; rw [List.countP_cons_of_pos (by simpa using hlt)]
        have e2 : insH (b :: r) (lowH (b :: r) a.1) a = b :: insH r (lowH r a.1) a := by rw [e]; rfl
        rw [e2]
        refine ⟨List.pairwise_cons.2 ⟨fun c hc => ?_, i1⟩, ?_⟩
        · unfold insH at hc
          rw [List.mem_append, List.mem_cons] at hc
          rcases hc with hc | rfl | hc
          · exact h1 c (List.mem_of_mem_take hc)
          · exact hlt
          · exact h1 c (List.mem_of_mem_drop hc)
        · rw [i2]
          simp [hlt]
      · have hge : a.1 < b.1 := by omega
        have all : ∀ c ∈ b :: r, a.1 < c.1 := fun c hc => by
          rw [List.mem_cons] at hc
          rcases hc with rfl | hc
          · exact hge
          · have := h1 c hc
            omega
        have e : lowH (b :: r) a.1 = 0 := by
          unfold lowH
          rw [List.countP_eq_zero]
          intro c hc
          have := all c hc
          simp
          omega
        have e2 : insH (b :: r) (lowH (b :: r) a.1) a = a :: b :: r := by rw [e]; rfl
        rw [e2]
        refine ⟨List.pairwise_cons.2 ⟨all, hr⟩, ?_⟩
        rw [List.filter_eq_nil_iff.2 (fun c hc => by have := all c hc; simp; omega), List.filter_eq_self.2 (fun c hc => by have := all c hc; simp; omega)]
        rfl
  refine (hl l hr (fun b hb e => ?_)).1
  have := List.any_eq_false.1 h b hb
  simp [e] at this
theorem setH_rise {l : List H3} {a : H3} (hr : RiseH l) : RiseH (setH l a) := by
  unfold setH
  split
  · rename_i h
    obtain ⟨h1, h2⟩ := hasH_low hr h
    have e : (l.set (lowH l a.1) a).map (·.1) = l.map (·.1) := by
      rw [List.map_set]
      apply List.ext_getElem?
      intro i
      rw [List.getElem?_set]
      split
      · subst_vars
        rw [List.length_map, if_pos h1, List.getElem?_map, List.getElem?_eq_getElem h1]
        simp [h2 _ (List.getElem?_eq_getElem h1)]
      · rfl
    have h3 : (l.map (·.1)).Pairwise (· < ·) := List.pairwise_map.2 hr
    rw [← e] at h3
    exact List.pairwise_map.1 h3
  · rename_i h
    exact insH_rise hr (by simpa using h)
theorem setH_mem {l : List H3} {a b : H3} (h : b ∈ setH l a) : b = a ∨ b ∈ l := by
  unfold setH at h
  split at h
  · exact (List.mem_or_eq_of_mem_set h).symm
  · unfold insH at h
    rw [List.mem_append, List.mem_cons] at h
    rcases h with h | h | h
    · exact Or.inr (List.mem_of_mem_take h)
    · exact Or.inl h
    · exact Or.inr (List.mem_of_mem_drop h)
theorem setH_len (l : List H3) (a : H3) : l.length ≤ (setH l a).length := by
  unfold setH
  split
  · simp
  · rw [insH_len (lowH_le _ _)]
    omega
theorem RowsOk.set {n : Nat} {R : Bool → Nat → Rw} (hk : RowsOk n R) (s : Bool) {u : Nat} (v' : Value) {a : H3} (h0 : 0 ≤ a.1) (h1 : a.1 < (n : Int)) : RowsOk n (updS R s u (v', setH (R s u).2.1 a, (R s u).2.2)) := by
  refine ⟨fun s' u' hu' => ?_, fun s' u' hu' => ?_, fun s' u' hu' => ?_⟩
  all_goals
    by_cases e : (s', u') = (s, u)
    · cases e
      rw [updS_at]
      first
        | exact setH_rise (hk.rise s u hu')
        | (intro b hb
           rcases setH_mem hb with rfl | hb
           · exact ⟨h0, h1⟩
           · exact hk.node s u hu' b hb)
        | exact Nat.le_trans (hk.gone s u hu') (setH_len _ _)
    · rw [updS_other _ _ _ _ _ _ e]
      first
        | exact hk.rise s' u' hu'
        | exact hk.node s' u' hu'
        | exact hk.gone s' u' hu'
section
variable {w w' : World} {PX : Nat → Option Obj} {B pb ab n : Nat} {sb : Bool → Nat} {bs : List Bool} {R : Bool → Nat → Rw} {nodes arcs : Int}
set_option maxRecDepth 100000 in
set_option maxHeartbeats 2000000 in
theorem oPutErr (h : OvMem PX w B pb ab sb n bs R nodes arcs) (x y wt via : Int) (hp : putErr n bs x y wt via ≠ 0) : Calls Tryz.prog 30 #[.pointer (some ⟨pb, 0, none⟩), .int .i64 x, .int .i64 y, .int .u64 wt, .int .i64 via] w fun e w' => e = .returned (.tuple #[.bool false, .iface 104 (.int .i64 (putErr n bs x y wt via))]) ∧ w' = w := by
  have hc := checkPut_calls h x y wt via
  have e0 : errV (putErr n bs x y wt via) = .iface 104 (.int .i64 (putErr n bs x y wt via)) := by unfold errV; rw [if_neg hp]
  rw [e0] at hc
  have HC : Hid (type_of% hc) := hc
  generalize putErr n bs x y wt via = c at *
  clear h hc e0
  go_enter Tryz.func30, Tryz.ntmps30
  go_wp2_with fail
  refine HC.out.mono ?_
  rintro e w1 ⟨rfl, hw1⟩
  subst hw1
  go_wp2
  go_ret2
  exact ⟨rfl, rfl⟩
set_option maxRecDepth 100000 in
set_option maxHeartbeats 2000000 in
theorem oPutKeep (h : OvMem PX w B pb ab sb n bs R nodes arcs) (hk : RowsOk n R) (x y wt via : Int) (hp : putErr n bs x y wt via = 0) (k : Int) (hw : weightM n bs R x y = some k) (hkw : k ≤ wt) : Calls Tryz.prog 30 #[.pointer (some ⟨pb, 0, none⟩), .int .i64 x, .int .i64 y, .int .u64 wt, .int .i64 via] w fun e w' => e = .returned (.tuple #[.bool false, .nilIface]) ∧ Below w.heap.size w w' := by
  have hc := checkPut_calls h x y wt via
  rw [hp, show errV 0 = .nilIface from rfl] at hc
  have HC : Hid (type_of% hc) := hc
  have hw' := weight_calls h hk x y
  rw [hw] at hw'
  simp only [Option.getD_some, Option.isSome_some] at hw'
  have HW : Hid (type_of% hw') := hw'
  clear h hc hw' hw hp
  go_enter Tryz.func30, Tryz.ntmps30
  go_wp2_with fail
  refine HC.out.mono ?_
  rintro e w1 ⟨rfl, hw1⟩
  subst hw1
  go_wp2_with fail
  refine HW.out.mono ?_
  rintro e w2 ⟨rfl, hb⟩
  have HB : Hid (type_of% hb) := hb
  clear hb
  go_wp2
  go_ret2
  exact ⟨rfl, HB.out⟩
theorem putErr_zero {n : Nat} {bs : List Bool} {x y wt via : Int} (hp : putErr n bs x y wt via = 0) : ∃ a b : Nat, x = (a : Int) ∧ y = (b : Int) ∧ a < n ∧ b < n ∧ x ≠ y ∧ aliveB n bs x = true ∧ aliveB n bs y = true := by
  unfold putErr at hp
  split at hp
  · rename_i h
    split at hp
    · cases hp
    · rename_i hne
      have h1 := h.1
      have h2 := h.2
      simp [aliveB, isN] at h1 h2
      exact ⟨x.toNat, y.toNat, by omega, by omega, by omega, by omega, hne, h.1, h.2⟩
  · cases hp
set_option maxRecDepth 100000 in
set_option maxHeartbeats 2000000 in
theorem oPutNew (h : OvMem PX w B pb ab sb n bs R nodes arcs) (hk : RowsOk n R) (x y wt via : Int) (hp : putErr n bs x y wt via = 0) (hw : weightM n bs R x y = none) (ha : -4611686018427387904 ≤ arcs ∧ arcs ≤ 4611686018427387904) : Calls Tryz.prog 30 #[.pointer (some ⟨pb, 0, none⟩), .int .i64 x, .int .i64 y, .int .u64 wt, .int .i64 via] w fun e w' => e = .returned (.tuple #[.bool true, .nilIface]) ∧ ∃ v1 v2, OvMem PX w' B pb ab sb n bs (updS (updS R false x.toNat (v1, setH (R false x.toNat).2.1 (y, wt, via), (R false x.toNat).2.2)) true y.toNat (v2, setH (R true y.toNat).2.1 (x, wt, via), (R true y.toNat).2.2)) nodes (arcs + 1) ∧ Below B w w' := by
  have hc := checkPut_calls h x y wt via
  rw [hp, show errV 0 = .nilIface from rfl] at hc
  have HC : Hid (type_of% hc) := hc
  have hw' := weight_calls h hk x y
  rw [hw] at hw'
  obtain ⟨a, b, rfl, rfl, han, hbn, hab, _, _⟩ := putErr_zero hp
  simp only [Int.toNat_natCast]
  simp only [Option.getD_none, Option.isSome_none] at hw'
  have HW : Hid (type_of% hw') := hw'
  have HM : Hid (OvMem PX w B pb ab sb n bs R nodes arcs) := h
  have HS1 : Hid (∀ wx ar, OvMem PX wx B pb ab sb n bs R nodes ar → Calls Tryz.prog 54 #[.pointer (some ⟨sb false, a * 2, none⟩), .agg #[.int .i64 (b : Int), .int .u64 wt, .int .i64 via]] wx fun e w' => e = .returned (.tuple #[]) ∧ ∃ v', OvMem PX w' B pb ab sb n bs (updS R false a (v', setH (R false a).2.1 ((b : Int), wt, via), (R false a).2.2)) nodes ar ∧ Below B wx w') := fun wx ar hx => hx.set hk false han ((b : Int), wt, via)
  have HS2 : Hid (∀ wx ar v1, OvMem PX wx B pb ab sb n bs (updS R false a (v1, setH (R false a).2.1 ((b : Int), wt, via), (R false a).2.2)) nodes ar → Calls Tryz.prog 54 #[.pointer (some ⟨sb true, b * 2, none⟩), .agg #[.int .i64 (a : Int), .int .u64 wt, .int .i64 via]] wx fun e w' => e = .returned (.tuple #[]) ∧ ∃ v', OvMem PX w' B pb ab sb n bs (updS (updS R false a (v1, setH (R false a).2.1 ((b : Int), wt, via), (R false a).2.2)) true b (v', setH (R true b).2.1 ((a : Int), wt, via), (R true b).2.2)) nodes ar ∧ Below B wx w') := fun wx ar v1 hx => by
    have h1 := hx.set (hk.set false v1 (a := ((b : Int), wt, via)) (by simp) (by simp; omega)) true hbn ((a : Int), wt, via)
    rw [updS_far R false true a _ (by simp)] at h1
    exact h1
  have i1 : (a : Int) < (n : Int) := by omega
  have i2 : (0 : Int) ≤ (a : Int) := by omega
  have i3 : (b : Int) < (n : Int) := by omega
  have i4 : (0 : Int) ≤ (b : Int) := by omega
  have i5 : IntKind.i64.wrap (arcs + 1) = arcs + 1 := by rw [IntKind.wrap_i64] <;> omega
  have hBz := h.size
  clear h hc hw' hw hp hk han hbn ha hab
  go_enter Tryz.func30, Tryz.ntmps30
  go_wp2_with fail
  refine HC.out.mono ?_
  rintro e w1 ⟨rfl, hw1⟩
  subst hw1
  go_wp2_with fail
  refine HW.out.mono ?_
  rintro e w2 ⟨rfl, hb⟩
  have M2 := HM.out.keep hb
  have HM2 : Hid (type_of% M2) := M2
  have HB : Hid (Below B w1 w2) := hb.mono hBz
  obtain ⟨c0, c1, c2, c3, c4, cs⟩ := M2.cells
  have cf : w2.frozen? ⟨pb, 4, none⟩ = false := by simp [World.frozen?, M2.box]
  have M3 := M2.setArcs (arcs + 1)
  obtain ⟨W3, hW3⟩ : ∃ W3, w2.setCell ⟨pb, 4, none⟩ (.int .i64 (arcs + 1)) = W3 := ⟨_, rfl⟩
  rw [hW3] at M3
  have HM3 : Hid (type_of% M3) := M3
  have H3 : Hid (w2.setCell ⟨pb, 4, none⟩ (.int .i64 (arcs + 1)) = W3) := hW3
  obtain ⟨d0, d1, d2, d3, d4, ds⟩ := M3.1.cells
  clear M2 M3 hb hW3
  go_wp2_with fail
  refine (HS1.out _ (arcs + 1) (by rw [H3.out]; exact HM3.out.1)).mono ?_
  rw [H3.out]
  rintro e w4 ⟨rfl, v1, M4, b4⟩
  have HM4 : Hid (type_of% M4) := M4
  have H4 : Hid (Below B w1 w4) := (HB.out.trans (HM3.out.2.trans b4))
  obtain ⟨x0, x1, x2, x3, x4, xs⟩ := M4.cells
  clear M4 b4
  go_wp2_with fail
  refine (HS2.out _ _ v1 HM4.out).mono ?_
  rintro e w5 ⟨rfl, v2, M5, b5⟩
  have HM5 : Hid (type_of% M5) := M5
  have H5 : Hid (Below B w1 w5) := H4.out.trans b5
  clear M5 b5
  go_wp2
  go_ret2
  exact ⟨rfl, v1, v2, HM5.out, H5.out⟩
set_option maxRecDepth 100000 in
set_option maxHeartbeats 2000000 in
theorem oPutLess (h : OvMem PX w B pb ab sb n bs R nodes arcs) (hk : RowsOk n R) (x y wt via : Int) (hp : putErr n bs x y wt via = 0) (k : Int) (hw : weightM n bs R x y = some k) (hkw : wt < k) (ha : -4611686018427387904 ≤ arcs ∧ arcs ≤ 4611686018427387904) : Calls Tryz.prog 30 #[.pointer (some ⟨pb, 0, none⟩), .int .i64 x, .int .i64 y, .int .u64 wt, .int .i64 via] w fun e w' => e = .returned (.tuple #[.bool true, .nilIface]) ∧ ∃ v1 v2, OvMem PX w' B pb ab sb n bs (updS (updS R false x.toNat (v1, setH (R false x.toNat).2.1 (y, wt, via), (R false x.toNat).2.2)) true y.toNat (v2, setH (R true y.toNat).2.1 (x, wt, via), (R true y.toNat).2.2)) nodes (arcs) ∧ Below B w w' := by
  have hc := checkPut_calls h x y wt via
  rw [hp, show errV 0 = .nilIface from rfl] at hc
  have HC : Hid (type_of% hc) := hc
  have hw' := weight_calls h hk x y
  rw [hw] at hw'
  obtain ⟨a, b, rfl, rfl, han, hbn, hab, _, _⟩ := putErr_zero hp
  simp only [Int.toNat_natCast]
  simp only [Option.getD_some, Option.isSome_some] at hw'
  have HW : Hid (type_of% hw') := hw'
  have HM : Hid (OvMem PX w B pb ab sb n bs R nodes arcs) := h
  have HS1 : Hid (∀ wx ar, OvMem PX wx B pb ab sb n bs R nodes ar → Calls Tryz.prog 54 #[.pointer (some ⟨sb false, a * 2, none⟩), .agg #[.int .i64 (b : Int), .int .u64 wt, .int .i64 via]] wx fun e w' => e = .returned (.tuple #[]) ∧ ∃ v', OvMem PX w' B pb ab sb n bs (updS R false a (v', setH (R false a).2.1 ((b : Int), wt, via), (R false a).2.2)) nodes ar ∧ Below B wx w') := fun wx ar hx => hx.set hk false han ((b : Int), wt, via)
  have HS2 : Hid (∀ wx ar v1, OvMem PX wx B pb ab sb n bs (updS R false a (v1, setH (R false a).2.1 ((b : Int), wt, via), (R false a).2.2)) nodes ar → Calls Tryz.prog 54 #[.pointer (some ⟨sb true, b * 2, none⟩), .agg #[.int .i64 (a : Int), .int .u64 wt, .int .i64 via]] wx fun e w' => e = .returned (.tuple #[]) ∧ ∃ v', OvMem PX w' B pb ab sb n bs (updS (updS R false a (v1, setH (R false a).2.1 ((b : Int), wt, via), (R false a).2.2)) true b (v', setH (R true b).2.1 ((a : Int), wt, via), (R true b).2.2)) nodes ar ∧ Below B wx w') := fun wx ar v1 hx => by
    have h1 := hx.set (hk.set false v1 (a := ((b : Int), wt, via)) (by simp) (by simp; omega)) true hbn ((a : Int), wt, via)
    rw [updS_far R false true a _ (by simp)] at h1
    exact h1
  have i1 : (a : Int) < (n : Int) := by omega
  have i2 : (0 : Int) ≤ (a : Int) := by omega
  have i3 : (b : Int) < (n : Int) := by omega
  have i4 : (0 : Int) ≤ (b : Int) := by omega
  have i5 : IntKind.i64.wrap (arcs + 1) = arcs + 1 := by rw [IntKind.wrap_i64] <;> omega
  have hBz := h.size
  clear h hc hw' hw hp hk han hbn ha hab
  go_enter Tryz.func30, Tryz.ntmps30
  go_wp2_with fail
  refine HC.out.mono ?_
  rintro e w1 ⟨rfl, hw1⟩
  subst hw1
  go_wp2_with fail
  refine HW.out.mono ?_
  rintro e w2 ⟨rfl, hb⟩
  have M2 := HM.out.keep hb
  have HM2 : Hid (type_of% M2) := M2
  have HB : Hid (Below B w1 w2) := hb.mono hBz
  obtain ⟨c0, c1, c2, c3, c4, cs⟩ := M2.cells
  have cf : w2.frozen? ⟨pb, 4, none⟩ = false := by simp [World.frozen?, M2.box]
  clear M2 hb
  go_wp2_with fail
  refine (HS1.out _ arcs HM2.out).mono ?_
  rintro e w4 ⟨rfl, v1, M4, b4⟩
  have HM4 : Hid (type_of% M4) := M4
  have H4 : Hid (Below B w1 w4) := (HB.out.trans b4)
  obtain ⟨x0, x1, x2, x3, x4, xs⟩ := M4.cells
  clear M4 b4
  go_wp2_with fail
  refine (HS2.out _ _ v1 HM4.out).mono ?_
  rintro e w5 ⟨rfl, v2, M5, b5⟩
  have HM5 : Hid (type_of% M5) := M5
  have H5 : Hid (Below B w1 w5) := H4.out.trans b5
  clear M5 b5
  go_wp2
  go_ret2
  exact ⟨rfl, v1, v2, HM5.out, H5.out⟩
end
end Go.Proofs.YtbkclhaonbjobaaGreat

namespace Go.Proofs.YtbkclhaonbjobaaGreat
open Go.RowKit Go.Extern Go.Sort

attribute [local go_sem] Oper.semAt_some

/-- what becomes of the rows of a side where the halves of a list are lost. -/
def LostR (n : Nat) (bs : List Bool) (s' : Bool) (l : List H3) (R R' : Bool → Nat → Rw) : Prop :=
  ∀ s u, u < n → (s = s' ∧ hasH (livH bs l) (u : Int) = true → (R' s u).2 = loseH bs (R s u).2.1 (R s u).2.2) ∧ (¬ (s = s' ∧ hasH (livH bs l) (u : Int) = true) → R' s u = R s u)
theorem livH_mem {bs : List Bool} {l : List H3} {a : H3} : a ∈ livH bs l ↔ a ∈ l ∧ bs[a.1.toNat]?.getD false = true := by simp [livH]
theorem livH_rise {bs : List Bool} {l : List H3} (h : RiseH l) : RiseH (livH bs l) := List.Pairwise.filter _ h
theorem RowsOk.lose {n : Nat} {R : Bool → Nat → Rw} (hk : RowsOk n R) (bs : List Bool) (s : Bool) {u : Nat} (v' : Value) : RowsOk n (updS R s u (v', loseH bs (R s u).2.1 (R s u).2.2)) := by
  refine ⟨fun s' u' hu' => ?_, fun s' u' hu' => ?_, fun s' u' hu' => ?_⟩
  · by_cases e : (s', u') = (s, u)
    · cases e
      rw [updS_at]
      unfold loseH
      split
      · exact livH_rise (hk.rise s u hu')
      · exact hk.rise s u hu'
    · rw [updS_other _ _ _ _ _ _ e]
      exact hk.rise s' u' hu'
  · by_cases e : (s', u') = (s, u)
    · cases e
      rw [updS_at]
      unfold loseH
      split
      · exact fun a ha => hk.node s u hu' a (livH_mem.1 ha).1
      · exact hk.node s u hu'
    · rw [updS_other _ _ _ _ _ _ e]
      exact hk.node s' u' hu'
  · by_cases e : (s', u') = (s, u)
    · cases e
      rw [updS_at]
      unfold loseH
      split
      · simp
      · simp only
        omega
    · rw [updS_other _ _ _ _ _ _ e]
      exact hk.gone s' u' hu'
theorem hasH_take_last {l : List H3} (hr : RiseH l) {k : Nat} {a : H3} (h : l[k]? = some a) (bs : List Bool) : hasH (livH bs (l.take k)) a.1 = false := by
  unfold hasH
  rw [List.any_eq_false]
  intro b hb
  have hb1 := (livH_mem.1 hb).1
  obtain ⟨i, hi⟩ := List.getElem?_of_mem hb1
  rw [List.getElem?_take] at hi
  split at hi
  · have := hr.lt hi h (by omega)
    simp
    omega
  · cases hi
theorem hasH_append (l r : List H3) (x : Int) : hasH (l ++ r) x = (hasH l x || hasH r x) := by simp [hasH]
theorem LostR.start (n : Nat) (bs : List Bool) (s' : Bool) (R : Bool → Nat → Rw) (l : List H3) : LostR n bs s' (l.take 0) R R := fun s u _ => ⟨fun h => by simp [livH, hasH] at h, fun _ => rfl⟩
theorem LostR.skip {n : Nat} {bs : List Bool} {s' : Bool} {l : List H3} {R R' : Bool → Nat → Rw} {k : Nat} {a : H3} (h : LostR n bs s' (l.take k) R R') (ha : l[k]? = some a) (hd : bs[a.1.toNat]?.getD false = false) : LostR n bs s' (l.take (k + 1)) R R' := by
  unfold LostR at *
  rw [livH_take_succ ha, hd]
  simpa using h
theorem LostR.step {n : Nat} {bs : List Bool} {s' : Bool} {l : List H3} {R R' : Bool → Nat → Rw} {k m : Nat} {a : H3} {v' : Value} (hr : RiseH l) (h : LostR n bs s' (l.take k) R R') (ha : l[k]? = some a) (hm : a.1 = (m : Int)) (hmn : m < n) (hd : bs[a.1.toNat]?.getD false = true) :
    LostR n bs s' (l.take (k + 1)) R (updS R' s' m (v', loseH bs (R' s' m).2.1 (R' s' m).2.2)) ∧ R' s' m = R s' m := by
  have hno := hasH_take_last hr ha bs
  have e0 : R' s' m = R s' m := (h s' m hmn).2 (fun e => by rw [← hm, hno] at e; exact absurd e.2 (by simp))
  refine ⟨fun s u hu => ?_, e0⟩
  rw [livH_take_succ ha, hd, if_pos rfl, hasH_append]
  by_cases e : (s, u) = (s', m)
  · cases e
    rw [updS_at, e0]
    refine ⟨fun _ => rfl, fun hn => absurd ⟨rfl, ?_⟩ hn⟩
    simp [hasH, hm]
  · rw [updS_other _ _ _ _ _ _ e]
    have hne : s = s' → hasH [a] (u : Int) = false := fun es => by
      simp [hasH, hm]
      intro eu
      exact e (by rw [es, show u = m by omega])
    refine ⟨fun hc => (h s u hu).1 ⟨hc.1, ?_⟩, fun hc => (h s u hu).2 (fun hd => hc ⟨hd.1, by rw [hd.2]; rfl⟩)⟩
    have h2 := hc.2
    rw [hne hc.1, Bool.or_false] at h2
    exact h2
section
variable {w w' : World} {PX : Nat → Option Obj} {B pb ab n : Nat} {sb : Bool → Nat} {bs : List Bool} {R : Bool → Nat → Rw} {nodes arcs : Int}
theorem OvMem.lose (h : OvMem PX w B pb ab sb n bs R nodes arcs) (hk : RowsOk n R) (s : Bool) {u : Nat} (hu : u < n) (hg : (R s u).2.2 + 1 ≤ (R s u).2.1.length) :
    Calls Tryz.prog 64 #[.pointer (some ⟨sb s, u * 2, none⟩), .slice (some ⟨ab, 0, none⟩) n n] w fun e w' => e = .returned (.tuple #[]) ∧ ∃ v', OvMem PX w' B pb ab sb n bs (updS R s u (v', loseH bs (R s u).2.1 (R s u).2.2)) nodes arcs ∧ Below B w w' := by
  have hc := lose_calls B (sb s) (u * 2) ab _ _ _ (R s u).1 (R s u).2.2 (R s u).2.1 bs w (h.row s) (h.rc s hu).1 (h.rc s hu).2 (h.own s u hu) ((h.far s hu).2.2 s) h.size h.al (h.ne s).1 hg (by have := h.len hk s hu; omega) (by rw [h.bl]; exact hk.node s u hu)
  rw [h.bl] at hc
  refine hc.mono ?_
  rintro e w' ⟨rfl, v', o, m⟩
  exact ⟨rfl, v', h.moved hu m o⟩
end
end Go.Proofs.YtbkclhaonbjobaaGreat

namespace Go.Proofs.YtbkclhaonbjobaaGreat
open Go.RowKit Go.Extern Go.Sort

attribute [local go_sem] Oper.semAt_some
section
variable {w w' : World} {PX : Nat → Option Obj} {B pb ab n : Nat} {sb : Bool → Nat} {bs : List Bool} {R : Bool → Nat → Rw} {nodes arcs : Int}
set_option maxRecDepth 100000 in
set_option maxHeartbeats 4000000 in
theorem loseArcs_calls (h : OvMem PX w B pb ab sb n bs R nodes arcs) (hk : RowsOk n R) (s s' : Bool) (hss : s ≠ s') (u : Nat) (hu : u < n) (hpre : ∀ a ∈ livH bs (R s u).2.1, (R s' a.1.toNat).2.2 + 1 ≤ (R s' a.1.toNat).2.1.length) (ha : -4611686018427387904 ≤ arcs ∧ arcs ≤ 4611686018427387904) :
    Calls Tryz.prog 51 #[.pointer (some ⟨pb, 0, none⟩), .agg #[(R s u).1, .int .i64 ((R s u).2.2 : Nat)], .slice (some ⟨sb s', 0, none⟩) n n] w fun e w' => e = .returned (.tuple #[]) ∧ ∃ R', OvMem PX w' B pb ab sb n bs R' nodes (arcs - ((livH bs (R s u).2.1).length : Int)) ∧ RowsOk n R' ∧ LostR n bs s' (R s u).2.1 R R' ∧ Below B w w' := by
  have ho := h.own s u hu
  obtain ⟨l, hl⟩ : ∃ l, (R s u).2.1 = l := ⟨_, rfl⟩
  have hll := h.len hk s hu
  have hri := hk.rise s u hu
  have hno := hk.node s u hu
  obtain ⟨ao, c, hv⟩ := rowH_slice ho
  rw [hl] at hv ho hpre hll hri hno ⊢
  have HV : Hid ((R s u).1 = .slice ao l.length c ∧ (R s u).2.1 = l) := ⟨hv, hl⟩
  rw [hv]
  have HP : Hid ((∀ a ∈ livH bs l, (R s' a.1.toNat).2.2 + 1 ≤ (R s' a.1.toNat).2.1.length) ∧ RiseH l ∧ (∀ a ∈ l, 0 ≤ a.1 ∧ a.1 < (n : Int))) := ⟨hpre, hri, hno⟩
  have HU : Hid (s ≠ s' ∧ u < n) := ⟨hss, hu⟩
  have HA : Hid (-4611686018427387904 ≤ arcs ∧ arcs ≤ 4611686018427387904 ∧ (livH bs l).length ≤ 65536) := ⟨ha.1, ha.2, Nat.le_trans (livH_len _ _) hll⟩
  have HM0 : Hid (OvMem PX w B pb ab sb n bs R nodes arcs ∧ RowsOk n R) := ⟨h, hk⟩
  generalize (R s u).2.2 = gn at *
  have HBZ : Hid (B ≤ w.heap.size) := h.size
  clear h hk hv hl hpre hri hno hss hu ha ho
  go_enter Tryz.func51, Tryz.ntmps51
  go_wp2_with fail
  go_loopw [11] (fun iv wr => ∃ (k : Nat) (R' : Bool → Nat → Rw), k ≤ l.length ∧ iv = .int .i64 (k : Nat) ∧ OvMem PX wr B pb ab sb n bs R' nodes (arcs - ((livH bs (l.take k)).length : Int)) ∧ RowsOk n R' ∧ LostR n bs s' (l.take k) R R' ∧ Below B w wr) (fun iv _ => l.length - (intOf iv).toNat)
  case atStart => exact ⟨0, R, Nat.zero_le _, rfl, by have hm := HM0.out.1.keep ((Below.refl _ w).alloc (Nat.le_refl _) (.cells #[.slice ao l.length c, .int .i64 (gn : Int)] 86)); simpa [livH] using hm, HM0.out.2, LostR.start _ _ _ _ _, (Below.refl B w).alloc HBZ.out _⟩
  case round =>
    obtain ⟨k, R', hkl, rfl, hM, hK, hL, hB⟩ := hrel
    by_cases hlt : k < l.length
    · obtain ⟨a, hal⟩ : ∃ a, l[k]? = some a := ⟨l[k], List.getElem?_eq_getElem hlt⟩
      have hru : R' s u = R s u := (hL s u HU.out.2).2 (fun e => HU.out.1 e.1)
      have ho := hM.own s u HU.out.2
      rw [hru, HV.out.1, HV.out.2] at ho
      obtain ⟨b, off, rfl, bl, e0, e1, e2⟩ := (hs_of_rowH ho).at hal
      obtain ⟨n0, n1⟩ := HP.out.2.2 a (List.mem_of_getElem? hal)
      obtain ⟨a0, a1, a2⟩ := a
      simp only at e0 e1 e2 n0 n1
      obtain ⟨m, rfl⟩ : ∃ m : Nat, a0 = (m : Int) := ⟨a0.toNat, by omega⟩
      have hm : m < n := by omega
      have i1 : (k : Int) < (l.length : Int) := by omega
      have i2 : (0 : Int) ≤ (k : Int) := by omega
      have i3 : (m : Int) < (n : Int) := by omega
      have i4 : (0 : Int) ≤ (m : Int) := by omega
      obtain ⟨Wa, hWa⟩ : ∃ Wa, wr.alloc (.cells #[.int .i64 (m : Int), .int .u64 a1, .int .i64 a2] 49) = Wa := ⟨_, rfl⟩
      have bWa : Below wr.heap.size wr Wa := by rw [← hWa]; exact (Below.refl _ wr).alloc (Nat.le_refl _) _
      have hMa := hM.keep bWa
      have hha : Wa.heap[wr.heap.size]? = some (.cells #[.int .i64 (m : Int), .int .u64 a1, .int .i64 a2] 49 (0, 0)) := by rw [← hWa]; exact heap_new wr _
      have hMd := hMa.keep (Below.refl _ Wa).drew
      have HWA : Hid (wr.alloc (.cells #[.int .i64 (m : Int), .int .u64 a1, .int .i64 a2] 49) = Wa) := hWa
      have HR : Hid (OvMem PX Wa.drew B pb ab sb n bs R' nodes (arcs - ((livH bs (l.take k)).length : Int)) ∧ RowsOk n R' ∧ LostR n bs s' (l.take k) R R' ∧ Below B w Wa.drew) := ⟨hMd, hK, hL, (hB.trans (bWa.mono hM.size)).drew⟩
      have HAL : Hid (l[k]? = some ((m : Int), a1, a2)) := hal
      obtain ⟨c0, c1, c2, c3, c4, cs⟩ := hMa.cells
      have f0 := hMa.flag hm
      have g0 : Wa.cell? ⟨wr.heap.size, 0, none⟩ = some (.int .i64 (m : Int)) := by simp [World.cell?, hha]
      have l1 : wr.heap.size < Wa.heap.size := lt_of_get hha
      have l2 : ab < Wa.heap.size := lt_of_get hMa.al
      have HHA : Hid (Wa.heap[wr.heap.size]? = some (.cells #[.int .i64 (m : Int), .int .u64 a1, .int .i64 a2] 49 (0, 0)) ∧ wr.heap.size ≠ pb ∧ wr.heap.size < Wa.heap.size) := ⟨hha, fun e => by have := lt_of_get hM.box; omega, l1⟩
      clear hWa hMd hMa hha hM hK hL hB hal hru ho bWa
      have HLE : Hid ((livH bs (l.take (k + 1))).length ≤ (livH bs l).length) := ((List.take_sublist _ _).filter _).length_le
      obtain ⟨A, hA⟩ : ∃ A, arcs - ((livH bs (l.take k)).length : Int) = A := ⟨_, rfl⟩
      rw [hA] at HR c4
      cases hbm : bs[m]?.getD false with
      | true =>
        rw [hbm] at f0
        have hls := livH_take_succ (bs := bs) HAL.out
        rw [if_pos (show bs[((m : Int), a1, a2).1.toNat]?.getD false = true by simpa using hbm)] at hls
        have hle := HLE.out
        rw [hls, List.length_append, List.length_singleton] at hle
        have i5 : IntKind.i64.wrap (A - 1) = A - 1 := by have := HA.out; rw [IntKind.wrap_i64] <;> omega
        have HAF : Hid (arcs - ((livH bs (l.take (k + 1))).length : Int) = A - 1) := by show _ = _; rw [hls, List.length_append, List.length_singleton]; omega
        have hmem : ((m : Int), a1, a2) ∈ livH bs l := livH_mem.2 ⟨List.mem_of_getElem? HAL.out, by simpa using hbm⟩
        have hpm := HP.out.1 _ hmem
        simp only [Int.toNat_natCast] at hpm
        have hst := fun v' => LostR.step (v' := v') HP.out.2.1 HR.out.2.2.1 HAL.out rfl hm (by simpa using hbm)
        have hrm := (hst (.slice none 0 0)).2
        have HST : Hid (∀ v', LostR n bs s' (l.take (k + 1)) R (updS R' s' m (v', loseH bs (R' s' m).2.1 (R' s' m).2.2))) := fun v' => (hst v').1
        have hsa := HR.out.1.setArcs (A - 1)
        have HC : Hid (∀ Wc, (Wa.setCell ⟨pb, 4, none⟩ (.int .i64 (A - 1))).drew = Wc → (OvMem PX Wc.drew B pb ab sb n bs R' nodes (A - 1) ∧ Below B Wa.drew Wc.drew) ∧ Wc.cell? ⟨wr.heap.size, 0, none⟩ = some (.int .i64 (m : Int)) ∧ wr.heap.size < Wc.heap.size ∧ Calls Tryz.prog 64 #[.pointer (some ⟨sb s', m * 2, none⟩), .slice (some ⟨ab, 0, none⟩) n n] Wc.drew fun e w' => e = .returned (.tuple #[]) ∧ ∃ v', OvMem PX w' B pb ab sb n bs (updS R' s' m (v', loseH bs (R' s' m).2.1 (R' s' m).2.2)) nodes (A - 1) ∧ Below B Wc.drew w' ∧ wr.heap.size < w'.heap.size) := fun Wc e => by
          have e' : Wa.drew.setCell ⟨pb, 4, none⟩ (.int .i64 (A - 1)) = Wc := e
          clear e
          subst e'
          have hMc := hsa.1.keep (Below.refl _ _).drew
          have hl1 : wr.heap.size < (Wa.drew.setCell ⟨pb, 4, none⟩ (.int .i64 (A - 1))).heap.size := by simpa using HHA.out.2.2
          refine ⟨⟨hMc, hsa.2.drew⟩, ?_, hl1, ?_⟩
          · have hg : (Wa.drew.setCell ⟨pb, 4, none⟩ (.int .i64 (A - 1))).heap[wr.heap.size]? = some (.cells #[.int .i64 (m : Int), .int .u64 a1, .int .i64 a2] 49 (0, 0)) := (heap_setCell_other _ _ _ _ HHA.out.2.1).trans HHA.out.1
            simp [World.cell?, hg]
          · refine (hMc.lose HR.out.2.1 s' hm (by rw [hrm]; exact hpm)).mono ?_
            rintro e w' ⟨rfl, v', hm', hb'⟩
            exact ⟨rfl, v', hm', hb', Nat.lt_of_lt_of_le hl1 hb'.size⟩
        have cf : Wa.frozen? ⟨pb, 4, none⟩ = false := by
          have hb := HR.out.1.box
          have hb' : Wa.heap[pb]? = _ := hb
          simp [World.frozen?, hb']
        have cn : pb ≠ wr.heap.size := Ne.symm HHA.out.2.1
        clear hls hle hmem hpm hst hrm hsa
        go_wp2_with fail
        rw [HWA.out]
        go_region_held3 (fun w' => w'.cell? ⟨pb, 0, none⟩ = some (.slice (some ⟨ab, 0, none⟩) n n) ∧ w'.cell? ⟨wr.heap.size, 0, none⟩ = some (.int .i64 (m : Int)) ∧ w'.cell? ⟨ab, m, none⟩ = some (.bool true)) (go_keep) (first | fail)
        go_wp2_with fail
        generalize hWc : (Wa.setCell ⟨pb, 4, none⟩ (.int .i64 (A - 1))).drew = Wc
        obtain ⟨⟨hMc, hbc⟩, hgc, hlc, hcl⟩ := HC.out Wc hWc
        have HCL : Hid (type_of% hcl) := hcl
        have HBC : Hid (Below B w Wc.drew) := HR.out.2.2.2.trans hbc
        have z0 : Wc.cell? ⟨pb, 0, none⟩ = some (.slice (some ⟨ab, 0, none⟩) n n) := hMc.cells.1
        have z1 : pb < Wc.heap.size := hMc.cells.2.2.2.2.2
        have HK : Hid (RowsOk n R') := HR.out.2.1
        clear hWc HC hMc hbc hcl c0 c1 c2 c3 c4 cs f0 g0 l1 l2 cf HR HHA
        go_region_law (first | (go_simp; go_at_call 64; refine HCL.out.mono ?_; rintro e y1 ⟨rfl, v', hm', hb', hl'⟩; have Y1 : Hid (OvMem PX y1 B pb ab sb n bs (updS R' s' m (v', loseH bs (R' s' m).2.1 (R' s' m).2.2)) nodes (A - 1) ∧ Below B w y1) := ⟨hm', HBC.out.trans hb'⟩; clear hm' hb' hl'))
        all_goals
          go_wp2
          go_roundw
          case rel => exact ⟨k + 1, _, by omega, by go_num, by rw [HAF.out]; exact Y1.out.1, HK.out.lose bs s' v', HST.out v', Y1.out.2⟩
          case measure => simp [intOf]; omega
      | false =>
        rw [hbm] at f0
        have hls := livH_take_succ (bs := bs) HAL.out
        rw [if_neg (show ¬ bs[((m : Int), a1, a2).1.toNat]?.getD false = true by simp [hbm]), List.append_nil] at hls
        have HAF : Hid (arcs - ((livH bs (l.take (k + 1))).length : Int) = A) := by show _ = _; rw [hls]; exact hA
        have HST : Hid (LostR n bs s' (l.take (k + 1)) R R') := LostR.skip HR.out.2.2.1 HAL.out (by simpa using hbm)
        clear hls
        go_wp2_with fail
        rw [HWA.out]
        go_region_held3 (fun w' => w'.cell? ⟨pb, 0, none⟩ = some (.slice (some ⟨ab, 0, none⟩) n n) ∧ w'.cell? ⟨wr.heap.size, 0, none⟩ = some (.int .i64 (m : Int)) ∧ w'.cell? ⟨ab, m, none⟩ = some (.bool false)) (go_keep) (first | fail)
        go_wp2
        go_roundw
        case rel => exact ⟨k + 1, R', by omega, by go_num, by rw [HAF.out]; exact HR.out.1, HR.out.2.1, HST.out, HR.out.2.2.2⟩
        case measure => simp [intOf]; omega
    · obtain rfl : k = l.length := by omega
      rw [List.take_length] at hM hL
      have HF : Hid (type_of% (And.intro hM (And.intro hK (And.intro hL hB)))) := ⟨hM, hK, hL, hB⟩
      clear hM hK hL hB
      go_wp2
      exact bodyPost_end (v := .tuple #[]) (by simp [results, Tryz.results51]) rfl ⟨rfl, R', HF.out⟩
end
end Go.Proofs.YtbkclhaonbjobaaGreat

namespace Go.Proofs.YtbkclhaonbjobaaGreat
open Go.RowKit Go.Extern Go.Sort

attribute [local go_sem] Oper.semAt_some
section
variable {w w' : World} {PX : Nat → Option Obj} {B pb ab n : Nat} {sb : Bool → Nat} {bs : List Bool} {R : Bool → Nat → Rw} {nodes arcs : Int}
theorem bC_set (bs : List Bool) (m : Nat) (b : Bool) : (bC bs).setIfInBounds m (.bool b) = bC (bs.set m b) := by
  unfold bC
  rw [List.setIfInBounds_toArray, List.map_set]
theorem OvMem.setFlag (h : OvMem PX w B pb ab sb n bs R nodes arcs) (m : Nat) (b : Bool) : OvMem PX (w.setCell ⟨ab, m, none⟩ (.bool b)) B pb ab sb n (bs.set m b) R nodes arcs ∧ Below B w (w.setCell ⟨ab, m, none⟩ (.bool b)) := by
  refine ⟨⟨(heap_setCell_other _ _ _ _ (h.ne false).2.2).trans h.box, ?_, fun s => (heap_setCell_other _ _ _ _ (Ne.symm (h.ne s).1)).trans (h.row s), by rw [List.length_set]; exact h.bl, h.big, fun s u hu => own_set (h.own s u hu) (h.far s hu).2.1 _, h.low, h.two, fun X o hX => ⟨(heap_setCell_other _ _ _ _ (h.prot X o hX).2.2.1).trans (h.prot X o hX).1, (h.prot X o hX).2⟩, h.apart⟩, ?_⟩
  · rw [hsc_same _ h.al, bC_set]
  · exact (Below.refl B w).setCell (p := ⟨ab, m, none⟩) h.low.2.1 _
theorem OvMem.setNodes (h : OvMem PX w B pb ab sb n bs R nodes arcs) (a : Int) : OvMem PX (w.setCell ⟨pb, 3, none⟩ (.int .i64 a)) B pb ab sb n bs R a arcs ∧ Below B w (w.setCell ⟨pb, 3, none⟩ (.int .i64 a)) := by
  refine ⟨⟨?_, (heap_setCell_other _ _ _ _ (Ne.symm (h.ne false).2.2)).trans h.al, fun s => (heap_setCell_other _ _ _ _ (Ne.symm (h.ne s).2.1)).trans (h.row s), h.bl, h.big, fun s u hu => own_set (h.own s u hu) (h.far s hu).1 _, h.low, h.two, fun X o hX => ⟨(heap_setCell_other _ _ _ _ (h.prot X o hX).2.1).trans (h.prot X o hX).1, (h.prot X o hX).2⟩, h.apart⟩, ?_⟩
  · rw [hsc_same _ h.box]
    rfl
  · exact (Below.refl B w).setCell (p := ⟨pb, 3, none⟩) h.low.1 _
/-- a row that holds nothing. -/
def nilR : Rw := (.slice none 0 0, [], 0)
theorem OvMem.clear (h : OvMem PX w B pb ab sb n bs R nodes arcs) (s : Bool) {u : Nat} (hu : u < n) : OvMem PX ((w.setCell ⟨sb s, u * 2, none⟩ (.slice none 0 0)).setCell ⟨sb s, u * 2 + 1, none⟩ (.int .i64 0)) B pb ab sb n bs (updS R s u nilR) nodes arcs ∧ Below B w ((w.setCell ⟨sb s, u * 2, none⟩ (.slice none 0 0)).setCell ⟨sb s, u * 2 + 1, none⟩ (.int .i64 0)) := by
  refine h.moved (s := s) hu (v' := .slice none 0 0) (gn' := 0) (l' := []) ⟨rfl, rfl, rfl, by simp, fun k hk h1 h2 => ?_, ?_, fun k hk => by cases hk⟩ (World.ownsRow_nil _ _ _ _)
  · rw [heap_setCell_other _ _ _ _ h1, heap_setCell_other _ _ _ _ h1]
  · rw [hsc_same _ (hsc_same _ (h.row s))]
    rfl
theorem OvMem.rowCells (h : OvMem PX w B pb ab sb n bs R nodes arcs) (s : Bool) {u : Nat} (hu : u < n) : w.cell? ⟨sb s, u * 2, none⟩ = some (R s u).1 ∧ w.cell? ⟨sb s, u * 2 + 1, none⟩ = some (.int .i64 ((R s u).2.2 : Nat)) ∧ sb s < w.heap.size ∧ w.frozen? ⟨sb s, u * 2, none⟩ = false ∧ w.frozen? ⟨sb s, u * 2 + 1, none⟩ = false :=
  ⟨by simp [World.cell?, h.row s, (h.rc s hu).1], by simp [World.cell?, h.row s, (h.rc s hu).2], lt_of_get (h.row s), by simp [World.frozen?, h.row s], by simp [World.frozen?, h.row s]⟩

set_option maxHeartbeats 1000000 in
theorem remove_err (h : OvMem PX w B pb ab sb n bs R nodes arcs) (x : Int) (hx : aliveB n bs x = false) : Calls Tryz.prog 29 #[.pointer (some ⟨pb, 0, none⟩), .int .i64 x] w fun e w' => e = .returned (.iface 104 (.int .i64 7)) ∧ w' = w := by
  have ha := alive_calls h x
  rw [hx] at ha
  have HA : Hid (type_of% ha) := ha
  clear h ha
  go_enter Tryz.func29, Tryz.ntmps29
  go_wp2_with fail
  refine HA.out.mono ?_
  rintro e w1 ⟨rfl, hw1⟩
  subst hw1
  go_wp2
  go_ret
  exact ⟨rfl, rfl⟩

set_option maxRecDepth 100000 in
set_option maxHeartbeats 4000000 in
theorem remove_calls (h : OvMem PX w B pb ab sb n bs R nodes arcs) (hk : RowsOk n R) (u : Nat) (hu : u < n) (hx : aliveB n bs (u : Int) = true) (hlo : ∀ s, ∀ a ∈ (R s u).2.1, a.1 ≠ (u : Int))
    (hpre : ∀ s s', s ≠ s' → ∀ a ∈ livH (bs.set u false) (R s u).2.1, (R s' a.1.toNat).2.2 + 1 ≤ (R s' a.1.toNat).2.1.length) (ha : -4611686018427000000 ≤ arcs ∧ arcs ≤ 4611686018427000000) (hnd : -4611686018427387904 ≤ nodes ∧ nodes ≤ 4611686018427387904) :
    Calls Tryz.prog 29 #[.pointer (some ⟨pb, 0, none⟩), .int .i64 (u : Int)] w fun e w' => e = .returned .nilIface ∧ ∃ R1 R2, LostR n (bs.set u false) true (R false u).2.1 R R1 ∧ LostR n (bs.set u false) false (R true u).2.1 R1 R2 ∧ RowsOk n R2 ∧ OvMem PX w' B pb ab sb n (bs.set u false) (updS (updS R2 false u nilR) true u nilR) (nodes - 1) (arcs - ((livH (bs.set u false) (R false u).2.1).length : Int) - ((livH (bs.set u false) (R true u).2.1).length : Int)) ∧ Below B w w' := by
  have hal := alive_calls h (u : Int)
  rw [hx] at hal
  have HA : Hid (type_of% hal) := hal
  obtain ⟨c0, c1, c2, c3, c4, cs⟩ := h.cells
  have f0 := h.flag hu
  have fz : w.frozen? ⟨ab, u, none⟩ = false := by simp [World.frozen?, h.al]
  have l0 : ab < w.heap.size := lt_of_get h.al
  have i1 : (u : Int) < (n : Int) := by omega
  have i2 : (0 : Int) ≤ (u : Int) := by omega
  have i5 : IntKind.i64.wrap (nodes - 1) = nodes - 1 := by rw [IntKind.wrap_i64] <;> omega
  have n1 := (h.ne false).2.2
  have fp : w.frozen? ⟨pb, 3, none⟩ = false := by simp [World.frozen?, h.box]
  have s1 := h.setFlag u false
  have s2 := s1.1.setNodes (nodes - 1)
  have HW : Hid (∀ W, (w.setCell ⟨ab, u, none⟩ (.bool false)).setCell ⟨pb, 3, none⟩ (.int .i64 (nodes - 1)) = W → OvMem PX W B pb ab sb n (bs.set u false) R (nodes - 1) arcs ∧ Below B w W) := fun W e => by
    subst e
    exact ⟨s2.1, s1.2.trans s2.2⟩
  have n2 := (h.ne false).2.1
  have n3 := (h.ne true).2.1
  have n4 := h.two
  have n2' := Ne.symm n2
  have n3' := Ne.symm n3
  have n4' := Ne.symm n4
  have HQ : Hid (RowsOk n R ∧ u < n ∧ (∀ s, ∀ a ∈ (R s u).2.1, a.1 ≠ (u : Int)) ∧ (∀ s s', s ≠ s' → ∀ a ∈ livH (bs.set u false) (R s u).2.1, (R s' a.1.toNat).2.2 + 1 ≤ (R s' a.1.toNat).2.1.length) ∧ (-4611686018427000000 ≤ arcs ∧ arcs ≤ 4611686018427000000) ∧ (livH (bs.set u false) (R false u).2.1).length ≤ 65536) := ⟨hk, hu, hlo, hpre, ha, Nat.le_trans (livH_len _ _) (h.len hk false hu)⟩
  clear hal h s1 s2 hk hu hlo hpre ha hnd hx
  go_enter Tryz.func29, Tryz.ntmps29
  go_wp2_with fail
  refine HA.out.mono ?_
  rintro e w1 ⟨rfl, hw1⟩
  subst hw1
  go_wp2_with fail
  generalize hW0 : (w1.setCell ⟨ab, u, none⟩ (.bool false)).setCell ⟨pb, 3, none⟩ (.int .i64 (nodes - 1)) = W0
  obtain ⟨M0, b0⟩ := HW.out W0 hW0
  clear hW0 HW c0 c1 c2 c3 c4 cs f0 fz l0 fp HA i5
  have hl1 := loseArcs_calls (M0.keep (Below.refl _ W0).drew) HQ.out.1 false true (by simp) u HQ.out.2.1 (HQ.out.2.2.2.1 false true (by simp)) (by have := HQ.out.2.2.2.2.1; omega)
  have HL1 : Hid (type_of% hl1) := hl1
  have HB0 : Hid (Below B w1 W0) := b0
  obtain ⟨c0, c1, c2, c3, c4, cs⟩ := M0.cells
  obtain ⟨r0, r1, rl, _, _⟩ := M0.rowCells false HQ.out.2.1
  clear M0 b0 hl1
  go_region_held3 (fun w' => w'.cell? ⟨pb, 1, none⟩ = some (.slice (some ⟨sb false, 0, none⟩) n n) ∧ w'.cell? ⟨pb, 2, none⟩ = some (.slice (some ⟨sb true, 0, none⟩) n n) ∧ w'.cell? ⟨sb false, u * 2, none⟩ = some (R false u).1 ∧ w'.cell? ⟨sb false, u * 2 + 1, none⟩ = some (.int .i64 ((R false u).2.2 : Nat))) (go_keep) (first
    | (go_at_call 51; refine HL1.out.mono ?_; rintro e y1 ⟨rfl, R1, M1, K1, L1, b1⟩; have Y1 : Hid (OvMem PX y1 B pb ab sb n (bs.set u false) R1 (nodes - 1) (arcs - ((livH (bs.set u false) (R false u).2.1).length : Int)) ∧ RowsOk n R1 ∧ LostR n (bs.set u false) true (R false u).2.1 R R1 ∧ Below B w1 y1) := ⟨M1, K1, L1, HB0.out.trans ((Below.refl B W0).drew.trans b1)⟩; have e1 : R1 false u = R false u := (L1 false u HQ.out.2.1).2 (fun h => by cases h.1); have z1 := M1.cells.2.1; have z2 := M1.cells.2.2.1; obtain ⟨z3, z4, _, _, _⟩ := M1.rowCells false HQ.out.2.1; rw [e1] at z3 z4; clear M1 K1 L1 b1))
  have ht : R1 true u = R true u := (Y1.out.2.2.1 true u HQ.out.2.1).2 (fun h => by
    obtain ⟨a, ha1, ha2⟩ := List.any_eq_true.1 h.2
    exact HQ.out.2.2.1 false a (livH_mem.1 ha1).1 (by simpa using ha2))
  have hf : ∀ j, j < n → R1 false j = R false j := fun j hj => (Y1.out.2.2.1 false j hj).2 (fun h => by cases h.1)
  have hl2 := loseArcs_calls (Y1.out.1.keep (Below.refl _ y1).drew) Y1.out.2.1 true false (by simp) u HQ.out.2.1 (fun a ha => by
    rw [ht] at ha
    have hn := HQ.out.1.node true u HQ.out.2.1 a (livH_mem.1 ha).1
    rw [hf a.1.toNat (by omega)]
    exact HQ.out.2.2.2.1 true false (by simp) a ha) (by have h1 := HQ.out.2.2.2.2.1; have h2 := HQ.out.2.2.2.2.2; omega)
  rw [ht] at hl2
  have HL2 : Hid (type_of% hl2) := hl2
  obtain ⟨q0, q1, ql, _, _⟩ := Y1.out.1.rowCells true HQ.out.2.1
  rw [ht] at q0 q1
  have ys : pb < y1.heap.size := Y1.out.1.cells.2.2.2.2.2
  clear c0 c1 c2 c3 c4 cs r0 r1 rl HL1 HB0 z3 z4 ht hf hl2
  go_wp2_with fail
  go_region_held3 (fun w' => w'.cell? ⟨pb, 1, none⟩ = some (.slice (some ⟨sb false, 0, none⟩) n n) ∧ w'.cell? ⟨pb, 2, none⟩ = some (.slice (some ⟨sb true, 0, none⟩) n n) ∧ w'.cell? ⟨sb true, u * 2, none⟩ = some (R true u).1 ∧ w'.cell? ⟨sb true, u * 2 + 1, none⟩ = some (.int .i64 ((R true u).2.2 : Nat))) (go_keep) (first
    | (go_at_call 51; refine HL2.out.mono ?_; rintro e y2 ⟨rfl, R2, M2, K2, L2, b2⟩; have Y2 : Hid (OvMem PX y2 B pb ab sb n (bs.set u false) R2 (nodes - 1) (arcs - ((livH (bs.set u false) (R false u).2.1).length : Int) - ((livH (bs.set u false) (R true u).2.1).length : Int)) ∧ RowsOk n R2 ∧ LostR n (bs.set u false) false (R true u).2.1 R1 R2 ∧ Below B w1 y2) := ⟨M2, K2, L2, Y1.out.2.2.2.trans ((Below.refl B y1).drew.trans b2)⟩; have ht : R1 true u = R true u := (Y1.out.2.2.1 true u HQ.out.2.1).2 (fun h => by obtain ⟨a, ha1, ha2⟩ := List.any_eq_true.1 h.2; exact HQ.out.2.2.1 false a (livH_mem.1 ha1).1 (by simpa using ha2)); have e2 : R2 true u = R true u := ((L2 true u HQ.out.2.1).2 (fun h => by cases h.1)).trans ht; have v1 := M2.cells.2.1; have v2 := M2.cells.2.2.1; obtain ⟨v3, v4, _, _, _⟩ := M2.rowCells true HQ.out.2.1; rw [e2] at v3 v4; clear M2 K2 L2 b2 ht e2))
  clear z1 z2 q0 q1 ql ys HL2 v3 v4
  obtain ⟨a0, a1, a2, a3, a4⟩ := Y2.out.1.rowCells false HQ.out.2.1
  obtain ⟨b0, b1, b2, b3, b4⟩ := Y2.out.1.rowCells true HQ.out.2.1
  have ys : pb < y2.heap.size := Y2.out.1.cells.2.2.2.2.2
  have hm1 := Y2.out.1.clear false HQ.out.2.1
  have hm2 := hm1.1.clear true HQ.out.2.1
  have HF : Hid (∀ W, (((y2.setCell ⟨sb false, u * 2, none⟩ (.slice none 0 0)).setCell ⟨sb false, u * 2 + 1, none⟩ (.int .i64 0)).setCell ⟨sb true, u * 2, none⟩ (.slice none 0 0)).setCell ⟨sb true, u * 2 + 1, none⟩ (.int .i64 0) = W → OvMem PX W B pb ab sb n (bs.set u false) (updS (updS R2 false u nilR) true u nilR) (nodes - 1) (arcs - ((livH (bs.set u false) (R false u).2.1).length : Int) - ((livH (bs.set u false) (R true u).2.1).length : Int)) ∧ Below B w1 W) := fun W e => by
    subst e
    exact ⟨hm2.1, Y2.out.2.2.2.trans (hm1.2.trans hm2.2)⟩
  clear hm1 hm2
  go_wp2_with fail
  generalize (R2 false u).1 = va at *
  generalize (R2 true u).1 = vb at *
  go_region_held3 (fun w' => w'.cell? ⟨pb, 1, none⟩ = some (.slice (some ⟨sb false, 0, none⟩) n n) ∧ w'.cell? ⟨pb, 2, none⟩ = some (.slice (some ⟨sb true, 0, none⟩) n n)) (go_keep) (first | fail)
  go_wp2
  go_ret
  obtain ⟨f1, f2⟩ := HF.out _ rfl
  exact ⟨rfl, R1, R2, Y1.out.2.2.1, Y2.out.2.2.1, Y2.out.2.1, f1.keep (Below.refl _ _).drew, f2.drew⟩
end
end Go.Proofs.YtbkclhaonbjobaaGreat

namespace Go.Proofs.YtbkclhaonbjobaaGreat
open Go.RowKit Go.Extern Go.Sort

attribute [local go_sem] Oper.semAt_some

theorem infoBo : (Tryz.prog.info? 4).map (fun i => (i.zero, i.size, i.bytes)) = some (some (.bool false), 1, 1) := by kernel_rfl
theorem infoRo : (Tryz.prog.info? 86).map (fun i => (i.zero, i.size, i.bytes)) = some (some (.agg #[.slice none 0 0, .int .i64 0]), 2, 32) := by kernel_rfl
theorem made_bs (n : Nat) : madeCells #[.bool false] n = bC (List.replicate n false) := by
  apply Array.ext'
  apply List.ext_getElem?
  intro j
  simp [madeCells, bC, List.getElem?_replicate]
  split <;> simp_all [Nat.mod_one]
theorem made_rows (n : Nat) : madeCells #[.slice none 0 0, .int .i64 0] (n * 2) = rC n (fun _ => nilR) := by
  apply Array.ext_getElem?
  intro j
  rw [rC_get]
  split
  · rename_i h
    rcases (show j % 2 = 0 ∨ j % 2 = 1 by omega) with e | e
    · simp [madeCells, h, e, nilR]
    · simp [madeCells, h, e, nilR]
  · rename_i h
    rw [Array.getElem?_eq_none]
    rw [size_madeCells]
    omega
theorem make_bs (n : Nat) (hn : n ≤ 65536) (w : World) : (Instr.makeSlice 41 (.int .i64 (n : Int)) (.int .i64 (n : Int))).run Tryz.prog w = .ok (.slice (some ⟨w.heap.size, 0, none⟩) n n) (w.alloc (.cells (bC (List.replicate n false)) 4)) := by
  rw [← made_bs]
  exact run_make_row' (P := Tryz.prog) 41 4 (.bool false) 1 Tryz.underlying41 infoBo rfl .i64 .i64 n (by omega) (by omega) w
theorem make_rows (n : Nat) (hn : n ≤ 65536) (w : World) : (Instr.makeSlice 80 (.int .i64 (n : Int)) (.int .i64 (n : Int))).run Tryz.prog w = .ok (.slice (some ⟨w.heap.size, 0, none⟩) n n) (w.alloc (.cells (rC n (fun _ => nilR)) 86)) := by
  obtain ⟨i, hi, hzz⟩ := Option.map_eq_some_iff.1 infoRo
  simp only [Prod.mk.injEq] at hzz
  obtain ⟨hz, hs, hb⟩ := hzz
  have hr := run_make (P := Tryz.prog) w 80 86 i _ Tryz.underlying80 hi hz .i64 .i64 n n (by omega) (Int.le_refl _) (by rw [hb]; omega) (by omega)
  simp only [Int.toNat_natCast, hs] at hr
  rw [hr, ← made_rows]
  rfl
section
variable (w : World) (o0 o1 o2 o3 : Obj)
theorem nz3 : ((((w.alloc o0).alloc o1).alloc o2).alloc o3).drew.heap[w.heap.size + 1 + 1 + 1]? = some o3 := by
  have h := heap_new (((w.alloc o0).alloc o1).alloc o2) o3
  show ((((w.alloc o0).alloc o1).alloc o2).alloc o3).heap[w.heap.size + 1 + 1 + 1]? = some o3
  simpa using h
theorem nz2 : ((((w.alloc o0).alloc o1).alloc o2).alloc o3).drew.heap[w.heap.size + 1 + 1]? = some o2 := by
  have h := heap_new ((w.alloc o0).alloc o1) o2
  show ((((w.alloc o0).alloc o1).alloc o2).alloc o3).heap[w.heap.size + 1 + 1]? = some o2
  rw [Below.heap_alloc _ _ _ (by simp)]
  simpa using h
theorem nz1 : ((((w.alloc o0).alloc o1).alloc o2).alloc o3).drew.heap[w.heap.size + 1]? = some o1 := by
  have h := heap_new (w.alloc o0) o1
  show ((((w.alloc o0).alloc o1).alloc o2).alloc o3).heap[w.heap.size + 1]? = some o1
  rw [Below.heap_alloc _ _ _ (by simp <;> omega), Below.heap_alloc _ _ _ (by simp)]
  simpa using h
theorem nz0 : ((((w.alloc o0).alloc o1).alloc o2).alloc o3).drew.heap[w.heap.size]? = some o0 := by
  have h := heap_new w o0
  show ((((w.alloc o0).alloc o1).alloc o2).alloc o3).heap[w.heap.size]? = some o0
  rw [Below.heap_alloc _ _ _ (by simp <;> omega), Below.heap_alloc _ _ _ (by simp <;> omega), Below.heap_alloc _ _ _ (by simp)]
  exact h
theorem nzb : Below w.heap.size w ((((w.alloc o0).alloc o1).alloc o2).alloc o3).drew := (((((Below.refl _ w).alloc (Nat.le_refl _) _).alloc (by simp) _).alloc (by simp <;> omega) _).alloc (by simp <;> omega) _).drew
end
/-- rows of nothing. -/
def noRows : Bool → Nat → Rw := fun _ _ => nilR
theorem new_ex {w2 wr : World} {n m B ab ob ib pb : Nat} {cv : Value} (e : cv = .pointer (some ⟨pb, 0, none⟩)) (hn : n ≤ 65536) (c : wr.heap[pb]? = some (.cells #[.slice (some ⟨ab, 0, none⟩) n n, .slice (some ⟨ob, 0, none⟩) n n, .slice (some ⟨ib, 0, none⟩) n n, .int .i64 (n : Int), .int .i64 (m : Int)] 82))
    (f : wr.heap[ab]? = some (.cells (bC (List.replicate n false)) 4)) (t : wr.heap[ob]? = some (.cells (rC n (fun _ => nilR)) 86)) (v : wr.heap[ib]? = some (.cells (rC n (fun _ => nilR)) 86))
    (low : B ≤ ab ∧ B ≤ ob ∧ B ≤ ib ∧ B ≤ pb) (ne : ob ≠ ib) (b : Below w2.heap.size w2 wr) : ∃ pb ab sb, cv = .pointer (some ⟨pb, 0, none⟩) ∧ OvMem noP wr B pb ab sb n (List.replicate n false) noRows (n : Int) (m : Int) ∧ Below w2.heap.size w2 wr :=
  ⟨pb, ab, fun s => if s then ib else ob, e, ⟨c, f, fun s => by cases s; exact t; exact v, by simp, hn, fun s u _ => World.ownsRow_nil _ _ _ _, ⟨low.2.2.2, low.1, fun s => by cases s; exact low.2.1; exact low.2.2.1⟩, ne, fun X o hX => (by cases hX), fun s u k _ h => by cases h⟩, b⟩
end Go.Proofs.YtbkclhaonbjobaaGreat
