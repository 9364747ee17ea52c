/- an overlay whose numbers tell what is there. -/
import Derived.Test.YtpaamcapopnhoaaOwK
namespace Go.Proofs.Ytpaamcapopnhoaa
open Go.RowKit Go.Extern Go.Sort

/-- how many nodes are alive. -/
def aliveN (n : Nat) (bs : List Bool) : Nat := sumN n (fun u => if liv bs u then 1 else 0)
theorem sumN_le (n : Nat) (f : Nat → Nat) (c : Nat) (h : ∀ i, i < n → f i ≤ c) : sumN n f ≤ n * c := by
  induction n with
  | zero => simp [sumN]
  | succ n ih =>
    have h1 := ih (fun i hi => h i (by omega))
    have h2 := h n (by omega)
    simp only [sumN]
    rw [Nat.add_mul, Nat.one_mul]
    omega
theorem sumN_const (n c : Nat) : sumN n (fun _ => c) = n * c := by
  induction n with
  | zero => simp [sumN]
  | succ n ih =>
    simp only [sumN]
    rw [ih, Nat.add_mul, Nat.one_mul]
theorem aliveN_all (n : Nat) : aliveN n (List.replicate n true) = n := by
  unfold aliveN
  rw [sumN_congr (g := fun _ => 1) (fun i hi => by simp [liv, hi]), sumN_const, Nat.mul_one]
theorem aliveN_remove {n u : Nat} {bs : List Bool} (hu : u < n) (lu : liv bs u = true) : aliveN n (bs.set u false) + 1 = aliveN n bs := by
  have e : aliveN n (bs.set u false) = sumN n (fun v => if v = u then 0 else (if liv bs v then 1 else 0)) := sumN_congr (fun v _ => by
    rw [liv_set]
    by_cases e : v = u
    · rw [if_pos e, if_pos e]; rfl
    · rw [if_neg e, if_neg e])
  have h := sumN_upd hu (fun v => if liv bs v then 1 else 0) 0
  simp only [lu, if_true] at h
  rw [e]
  unfold aliveN
  omega
/-- an overlay whose numbers tell what is there. -/
def OvN (PX : Nat → Option Obj) (B0 : Nat) (w : World) (pb n : Nat) (bs : List Bool) (R : Bool → Nat → Rw) : Prop := IsOv PX B0 w pb n bs R (aliveN n bs : Nat) (arcSum n bs R : Nat)
section
variable {PX : Nat → Option Obj} {w w' : World} {B0 pb n : Nat} {bs : List Bool} {R : Bool → Nat → Rw}
theorem ovn_new (ao : Option Addr) (k0 cap : Nat) (xs : List (Int × Int × Int)) (w : World) (hl : HasArcs w (.slice ao k0 cap) xs) (hg : graphErr (n : Int) xs = (0, [])) :
    Calls Try.prog 8 #[.agg #[.int .i64 n, .slice ao k0 cap]] w fun e w' => ∃ pb R, e = .returned (.tuple #[.pointer (some ⟨pb, 0, none⟩), .nilIface]) ∧ OvN noP w.heap.size w' pb n (List.replicate n true) R ∧ (∀ s u, u < n → (R s u).2 = (sideL s (normA xs) u, 0)) ∧ Below w.heap.size w w' := by
  refine (ov_new (n := n) ao k0 cap xs w hl hg).mono ?_
  rintro e w' ⟨pb, R, rfl, h1, h2, h3⟩
  refine ⟨pb, R, rfl, ?_, h2, h3⟩
  have ha : arcSum n (List.replicate n true) R = (normA xs).length := by
    have hn : ∀ a ∈ normA xs, 0 ≤ a.1 ∧ a.1 < (n : Int) := fun a ha => by
      have h4 := ((good_iff _ _).1 (good_norm hg)).2 a ha
      unfold arcBad at h4
      split at h4
      · cases h4
      · constructor <;> omega
    rw [← side_sum (n := n) hn]
    refine sumN_congr (fun u hu => ?_)
    have h5 := h1.inv.gone false u hu
    rw [h2 false u hu] at h5 ⊢
    simpa using h5
  unfold OvN
  rw [aliveN_all, ha]
  exact h1
theorem OvN.bounds (h : OvN PX B0 w pb n bs R) : (aliveN n bs : Int) ≤ 65536 ∧ (arcSum n bs R : Int) ≤ 4294967296 := by
  have hn := (IsOv.bl h).2
  have h1 : aliveN n bs ≤ n * 1 := sumN_le n _ 1 (fun i _ => by split <;> omega)
  have h2 : arcSum n bs R ≤ n * 65536 := sumN_le n _ 65536 (fun u hu => Nat.le_trans (livH_len _ _) (IsOv.rowLen h false hu))
  have h3 : n * 65536 ≤ 65536 * 65536 := Nat.mul_le_mul_right _ hn
  omega
/-- whatever is put in, or refused: an overlay is left. -/
theorem OvN.put (h : OvN PX B0 w pb n bs R) (x y wt via : Int) : Calls Try.prog 9 #[.pointer (some ⟨pb, 0, none⟩), .int .i64 x, .int .i64 y, .int .u64 wt, .int .i64 via] w fun e w' => ∃ b v R', e = .returned (.tuple #[.bool b, v]) ∧ OvN PX B0 w' pb n bs R' ∧ Below B0 w w' := by
  have hb := h.bounds
  refine (IsOv.put h x y wt via (by omega)).mono ?_
  rintro e w' (⟨c, hc, hp, rfl, hbc⟩ | ⟨k', hk', hle, rfl, hbc⟩ | ⟨a, b, v1, v2, rfl, rfl, hlt, ⟨h1, h2, h3, h4⟩, rfl, hO, hbc⟩)
  · exact ⟨_, _, R, rfl, IsOv.keep h hbc, hbc.mono (IsOv.size h)⟩
  · exact ⟨_, _, R, rfl, IsOv.keep h hbc, hbc.mono (IsOv.size h)⟩
  · refine ⟨_, _, putRows R a b wt via v1 v2, rfl, ?_, hbc⟩
    unfold OvN
    rw [arcSum_put (IsOv.inv h) h1 h2 h3 h4 wt via v1 v2]
    have e : ((arcSum n bs R + (if (weightM n bs R (a : Int) (b : Int)).isNone then 1 else 0) : Nat) : Int) = (arcSum n bs R : Int) + (if (weightM n bs R (a : Int) (b : Int)).isNone then 1 else 0) := by
      split <;> simp
    rw [e]
    exact hO
/-- whatever goes, or doesn't: an overlay is left. -/
theorem OvN.remove (h : OvN PX B0 w pb n bs R) (x : Int) : Calls Try.prog 10 #[.pointer (some ⟨pb, 0, none⟩), .int .i64 x] w fun e w' => ∃ v bs' R', e = .returned v ∧ OvN PX B0 w' pb n bs' R' ∧ Below B0 w w' := by
  have hb := h.bounds
  refine (IsOv.remove h x (by omega) (by omega)).mono ?_
  rintro e w' (⟨_, rfl, rfl⟩ | ⟨_, u, R', rfl, hu, lu, rfl, hO, hR, hbc⟩)
  · exact ⟨_, bs, R, rfl, h, Below.refl _ _⟩
  · refine ⟨_, bs.set u false, R', rfl, ?_, hbc⟩
    have h1 := aliveN_remove hu lu
    have h2 := arcSum_remove (IsOv.inv h) hu lu hR
    unfold OvN
    rw [show ((aliveN n (bs.set u false) : Nat) : Int) = (aliveN n bs : Int) - 1 by omega, show ((arcSum n (bs.set u false) R' : Nat) : Int) = (arcSum n bs R : Int) - ((livH bs (R false u).2.1).length : Int) - ((livH bs (R true u).2.1).length : Int) by omega]
    exact hO
end
end Go.Proofs.Ytpaamcapopnhoaa
