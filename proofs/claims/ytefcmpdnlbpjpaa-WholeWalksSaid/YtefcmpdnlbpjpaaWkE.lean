/- Join and DocJoin, whatever the lists: one contract each. -/
import Derived.Test.YtefcmpdnlbpjpaaWkK
import Derived.Test.YtefcmpdnlbpjpaaWkT
namespace Go.Proofs.Ytefcmpdnlbpjpaa
open Go.RowKit Go.Extern Go.Sort

theorem ne_parts {xs : List Int} (h : xs ≠ []) : ∃ m l, xs.length = m + 1 ∧ xs[m]? = some l ∧ xs.getLast? = some l := by
  have hp := List.length_pos_iff.2 h
  refine ⟨xs.length - 1, xs[xs.length - 1], by omega, List.getElem?_eq_getElem (by omega), ?_⟩
  rw [List.getLast?_eq_getElem?]
  exact List.getElem?_eq_getElem (by omega)

section
variable (lo uo : Option Addr) (lc uc : Nat) (xs ys : List Int) (w : World) (hx : HasInts w (.slice lo xs.length lc) xs) (hy : HasInts w (.slice uo ys.length uc) ys) (hc : ys.length ≤ uc) (hm : (xs.length + ys.length) * 8 ≤ 140737488351232)
include hx hy hc hm
theorem join_any : Calls Try.prog 12 #[.slice lo xs.length lc, .slice uo ys.length uc] w (JA w (joinL xs ys) (joinN xs ys)) := by
  by_cases h : xs = [] ∨ ys = []
  · rw [joinL, joinN, if_pos h, if_pos h]
    exact join_no lo uo lc uc xs ys w h (by omega) (by omega)
  · rw [joinL, joinN, if_neg h, if_neg h]
    obtain ⟨h1, h2⟩ := not_or.1 h
    obtain ⟨m, l, hl, hl1, hl2⟩ := ne_parts h1
    cases ys with
    | nil => exact absurd rfl h2
    | cons y r =>
      obtain ⟨ab, af, rfl, hab, q0⟩ := hx.at hl1
      obtain ⟨bb, bf, rfl, hbb, q1⟩ := hy.at (k := 0) (a := y) rfl
      rw [hl] at hx ⊢
      simp only [List.length_cons] at hy hc hm ⊢
      rw [hl2]
      by_cases e : l = y
      · subst e
        rw [if_pos (show some l = (l :: r).head? from rfl), if_pos (show some l = (l :: r).head? from rfl)]
        exact join_meet ab af m lc bb bf uc l xs r w hl hx hl1 hy hc (by omega)
      · have hne : ¬ (some l = (y :: r).head?) := fun he => e (Option.some.inj he)
        rw [if_neg hne, if_neg hne]
        exact join_apart ab af m lc bb bf r.length uc l y w q0 q1 e (by omega) (by omega)
end
end Go.Proofs.Ytefcmpdnlbpjpaa
