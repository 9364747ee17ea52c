/- The search's run, walked. -/
import Derived.Test.YtbkclhaonbjobaaGreatWtW
namespace Go.Proofs.YtbkclhaonbjobaaGreat.Wt
open Go Go.RowKit Go.Extern

attribute [local go_sem] Oper.semAt_some

/-- how many goals aren't settled. -/
def openG (S : FS) (G : List Int) : Nat := G.countP fun g => !S.fix g.toNat
theorem openG_zero {S : FS} {G : List Int} (h : openG S G = 0) : ∀ g ∈ G, S.fix g.toNat = true := fun g hg => by
  unfold openG at h
  have := List.countP_eq_zero.1 h g hg
  simpa using this
theorem relax1_fix {n v : Nat} {k h : Int} {S : FS} (h0 : LI n v k h S) {a : Int × Int × Int} (hr : 0 ≤ a.2.2) (u : Nat) : (relax1 v k h S a).fix u = S.fix u := by
  unfold relax1
  split
  · rename_i hb
    obtain ⟨x, hx⟩ : ∃ x, a.2.1.toNat = x := ⟨_, rfl⟩
    rw [hx] at hb ⊢
    rw [Bool.eq_iff_iff, FS.fix_iff, FS.fix_iff]
    show (∃ d, (S.vs.set x (some (k + a.2.2)))[u]? = some (some d)) ∧ upd S.f (x : Int) (some (k + a.2.2)) (u : Int) = none ↔ _
    rw [upd_at, List.getElem?_set]
    by_cases e : u = x
    · subst e
      rw [if_pos rfl, if_pos rfl]
      constructor
      · rintro ⟨_, h2⟩; cases h2
      · rintro ⟨⟨d, h1⟩, h2⟩
        exfalso
        have := h0.low u d h1 h2
        unfold FS.better at hb
        rw [h1] at hb
        simp at hb
        omega
    · rw [if_neg e, if_neg (fun e2 => e e2.symm)]
  · rfl
theorem fold_fix {n v : Nat} {k h : Int} : ∀ (l : List (Int × Int × Int)) (S : FS), LI n v k h S → (∀ a ∈ l, 0 ≤ a.2.2 ∧ a.2.1.toNat ≠ v) → ∀ u, (l.foldl (relax1 v k h) S).fix u = S.fix u
  | [], _, _, _, _ => rfl
  | a :: l, S, h0, hl, u => by
    obtain ⟨g1, g2⟩ := hl a (by simp)
    rw [List.foldl_cons, fold_fix l _ (h0.next g2) (fun b hb => hl b (by simp [hb])) u, relax1_fix h0 g1 u]
theorem step_fix {n : Nat} {zs : List (Int × Int × Int)} {hb : Int} {s t : Nat} {S : FS} (hz : Fine n zs) (hI : SInv n zs hb s t S) {v : Nat} {k : Int} (hL : Least n S.f v k) (u : Nat) : (S.step zs hb v k).fix u = (S.fix u || decide (u = v)) := by
  have h1 := hI.opn v k hL.1 hL.2.1
  have hp : (S.pop v).fix u = (S.fix u || decide (u = v)) := by
    rw [Bool.eq_iff_iff, Bool.or_eq_true, FS.fix_iff, FS.fix_iff, decide_eq_true_iff]
    show (∃ d, S.vs[u]? = some (some d)) ∧ upd S.f (v : Int) none (u : Int) = none ↔ _
    rw [upd_at]
    by_cases e : u = v
    · subst e
      rw [if_pos rfl]
      exact ⟨fun _ => Or.inr rfl, fun _ => ⟨⟨k, h1⟩, rfl⟩⟩
    · rw [if_neg e]
      exact ⟨fun h => Or.inl h, fun h => h.elim id (fun h => absurd h e)⟩
  rw [← hp]
  unfold FS.step
  split
  · refine fold_fix _ _ (LI.start hI hL) (fun a ha => ?_) u
    obtain ⟨m1, m2⟩ := (hz.arcRow_mem v a).1 ha
    have := hz.ends a m1
    exact ⟨this.2.2.2.2.2.1, by omega⟩
  · rfl
/-- a goal more is settled. -/
theorem openG_step {n : Nat} {zs : List (Int × Int × Int)} {hb : Int} {s t : Nat} {S : FS} (hz : Fine n zs) (hI : SInv n zs hb s t S) {v : Nat} {k : Int} (hL : Least n S.f v k) {G : List Int} (hG : G.Nodup) (hg : ∀ g ∈ G, 0 ≤ g) : ((openG (S.step zs hb v k) G : Nat) : Int) = leftA G v (openG S G) := by
  have hv : S.fix v = false := by
    cases h : S.fix v with
    | false => rfl
    | true =>
      have := (FS.fix_iff.1 h).2
      rw [hL.2.1] at this
      cases this
  have hmain : ∀ l : List Int, l.Nodup → (∀ g ∈ l, 0 ≤ g) → openG (S.step zs hb v k) l + (if l.contains (v : Int) = true then 1 else 0) = openG S l := by
    intro l
    induction l with
    | nil => intro _ _; rfl
    | cons g r ih =>
      intro hn h0
      obtain ⟨n1, n2⟩ := List.nodup_cons.1 hn
      have ih' := ih n2 (fun x hx => h0 x (by simp [hx]))
      have hg0 := h0 g (by simp)
      unfold openG at ih' ⊢
      rw [List.countP_cons, List.countP_cons, step_fix hz hI hL]
      by_cases e : g = (v : Int)
      · subst e
        have hnc : r.contains (v : Int) = false := by
          cases hc : r.contains (v : Int) with
          | false => rfl
          | true => exact absurd (List.contains_iff_mem.1 hc) n1
        have hcc : ((v : Int) :: r).contains (v : Int) = true := by simp
        rw [hnc] at ih'
        rw [hcc]
        simp only [Int.toNat_natCast, hv, decide_true, Bool.or_true, Bool.not_true, Bool.not_false, if_true] at ih' ⊢
        simp at ih' ⊢
        omega
      · have h3 : decide (g.toNat = v) = false := by simp; omega
        have h4 : (g :: r).contains (v : Int) = r.contains (v : Int) := by
          rw [List.contains_cons]
          have : ((v : Int) == g) = false := by simp; omega
          rw [this]; rfl
        rw [h3, h4, Bool.or_false]
        omega
  have := hmain G hG hg
  unfold leftA
  split
  · rename_i h; rw [if_pos h] at this; omega
  · rename_i h; rw [if_neg h] at this; omega
end Go.Proofs.YtbkclhaonbjobaaGreat.Wt
