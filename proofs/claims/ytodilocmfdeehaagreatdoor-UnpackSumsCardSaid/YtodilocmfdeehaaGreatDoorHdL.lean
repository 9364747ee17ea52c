/- small things for viaductref10.link. -/
import Derived.Test.YtodilocmfdeehaaGreatDoorHdE
namespace Go.Proofs.YtodilocmfdeehaaGreatDoor.Hi
open Go.RowKit Go.Extern Go.Shelf

theorem mk_a {s : Sd} {all : List Sd} (hp : s.lk.plain = false) (g : all.length ≤ s.lk.lf ∨ all.length ≤ s.lk.rt) : making s all = 14 := by
  have e : ¬(s.lk.plain = true) := by rw [hp]; exact Bool.false_ne_true
  unfold making
  rw [if_neg e, if_pos g]
theorem mk_b {s : Sd} {all : List Sd} (hp : s.lk.plain = false) (g1 : ¬(all.length ≤ s.lk.lf ∨ all.length ≤ s.lk.rt)) (g : (sd all s.lk.lf).up = true ∨ (sd all s.lk.rt).up = false) : making s all = 14 := by
  have e : ¬(s.lk.plain = true) := by rw [hp]; exact Bool.false_ne_true
  have g' : (sd all s.lk.lf).up = true ∨ (sd all s.lk.rt).up = false ∨ (sd all s.lk.lf).rk ≠ (sd all s.lk.rt).rk ∨ (sd all s.lk.lf).tail ≠ s.tail ∨ (sd all s.lk.rt).head ≠ s.head := g.elim .inl (fun x => .inr (.inl x))
  unfold making
  rw [if_neg e, if_neg g1, if_pos g']
theorem rising_false {h : Hr} (hu : FOk h.upF h.up.length) (hd : FOk h.dnF h.dn.length) {i : Nat} (hi : i < (stds h).length) : rising (stds h) i = false ↔ i ≠ 0 ∧ i ≠ h.up.length ∧ (sd (stds h) (i - 1)).rk = (sd (stds h) i).rk ∧ (linkAt h i).hd ≤ (linkAt h (i - 1)).hd := by
  by_cases h0 : i = 0
  · subst h0; simp [rising]
  · have a := sd_up hu hd hi
    have b := sd_up hu hd (i := i - 1) (by omega)
    have c := stds_lk hu hd hi
    have d := stds_lk hu hd (i := i - 1) (by omega)
    unfold rising sameRow
    rw [a, b, ← c, ← d]
    have e : (decide (i - 1 < h.up.length) == decide (i < h.up.length)) = !decide (i = h.up.length) := by
      by_cases g : i < h.up.length
      · rw [decide_eq_true g, decide_eq_true (by omega : i - 1 < h.up.length), decide_eq_false (by omega : ¬ i = h.up.length)]; rfl
      · by_cases g' : i = h.up.length
        · rw [decide_eq_false g, decide_eq_true (by omega : i - 1 < h.up.length), decide_eq_true g']; rfl
        · rw [decide_eq_false g, decide_eq_false (by omega : ¬ i - 1 < h.up.length), decide_eq_false g']; rfl
    rw [e]
    by_cases g1 : (sd (stds h) (i - 1)).rk = (sd (stds h) i).rk <;> by_cases g2 : i = h.up.length <;> by_cases g3 : (linkAt h (i - 1)).hd < (linkAt h i).hd <;> simp [h0, g1, g2, g3] <;> omega
end Go.Proofs.YtodilocmfdeehaaGreatDoor.Hi
