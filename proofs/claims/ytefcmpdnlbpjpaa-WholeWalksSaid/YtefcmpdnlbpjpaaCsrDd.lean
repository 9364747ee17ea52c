/- viaductref05.DocCheck where the lengths are right: the firsts fall, an arc is wrong, or nothing is. -/
import Derived.Test.YtefcmpdnlbpjpaaCsrDc
import Derived.Test.YtefcmpdnlbpjpaaCsrY
import Derived.Deep.DeepCutAuto
import Derived.Deep.CutBlock
namespace Go.Proofs.Ytefcmpdnlbpjpaa
open Go.RowKit Go.Extern

theorem arc10 (n v i : Nat) (fv tz tp wt : Int) (hi : fv ≤ (i : Int)) :
    (tz < 0 ∧ arcNo n v i fv tz tp wt = 7) ∨ (¬ tz < 0 ∧ (n : Int) ≤ tz ∧ arcNo n v i fv tz tp wt = 7) ∨ (¬ tz < 0 ∧ ¬ (n : Int) ≤ tz ∧ tz = (v : Int) ∧ arcNo n v i fv tz tp wt = 14)
    ∨ (¬ tz < 0 ∧ ¬ (n : Int) ≤ tz ∧ ¬ tz = (v : Int) ∧ fv < (i : Int) ∧ tz ≤ tp ∧ arcNo n v i fv tz tp wt = 14)
    ∨ (¬ tz < 0 ∧ ¬ (n : Int) ≤ tz ∧ ¬ tz = (v : Int) ∧ fv < (i : Int) ∧ ¬ tz ≤ tp ∧ ((wt < 0 ∧ arcNo n v i fv tz tp wt = 8) ∨ (¬ wt < 0 ∧ 2147483647 < wt ∧ arcNo n v i fv tz tp wt = 8) ∨ (¬ wt < 0 ∧ ¬ 2147483647 < wt ∧ arcNo n v i fv tz tp wt = 0)))
    ∨ (¬ tz < 0 ∧ ¬ (n : Int) ≤ tz ∧ ¬ tz = (v : Int) ∧ ¬ fv < (i : Int) ∧ ((wt < 0 ∧ arcNo n v i fv tz tp wt = 8) ∨ (¬ wt < 0 ∧ 2147483647 < wt ∧ arcNo n v i fv tz tp wt = 8) ∨ (¬ wt < 0 ∧ ¬ 2147483647 < wt ∧ arcNo n v i fv tz tp wt = 0))) := by
  unfold arcNo
  by_cases h1 : tz < 0
  · exact Or.inl ⟨h1, by rw [if_pos (by omega)]⟩
  by_cases h2 : (n : Int) ≤ tz
  · exact Or.inr (Or.inl ⟨h1, h2, by rw [if_pos (by omega)]⟩)
  rw [if_neg (show ¬ ¬ (0 ≤ tz ∧ tz < (n : Int)) by omega)]
  by_cases h3 : tz = (v : Int)
  · exact Or.inr (Or.inr (Or.inl ⟨h1, h2, h3, by rw [if_pos (Or.inl h3)]⟩))
  have hw : ∀ c : Int, (if wt < 0 ∨ 2147483647 < wt then (8 : Int) else 0) = c → ((wt < 0 ∧ c = 8) ∨ (¬ wt < 0 ∧ 2147483647 < wt ∧ c = 8) ∨ (¬ wt < 0 ∧ ¬ 2147483647 < wt ∧ c = 0)) := fun c hc => by
    split at hc
    · omega
    · omega
  by_cases h4 : fv < (i : Int)
  · by_cases h5 : tz ≤ tp
    · exact Or.inr (Or.inr (Or.inr (Or.inl ⟨h1, h2, h3, h4, h5, by rw [if_pos (Or.inr ⟨by omega, h5⟩)]⟩)))
    · exact Or.inr (Or.inr (Or.inr (Or.inr (Or.inl ⟨h1, h2, h3, h4, h5, hw _ (by rw [if_neg (show ¬ (tz = (v : Int) ∨ (¬ (i : Int) = fv ∧ tz ≤ tp)) from fun h => h.elim h3 fun h => h5 h.2)])⟩))))
  · exact Or.inr (Or.inr (Or.inr (Or.inr (Or.inr ⟨h1, h2, h3, h4, hw _ (by rw [if_neg (show ¬ (tz = (v : Int) ∨ (¬ (i : Int) = fv ∧ tz ≤ tp)) from fun h => h.elim h3 fun h => h.1 (by omega))])⟩))))

end Go.Proofs.Ytefcmpdnlbpjpaa
