/- a row's lose. -/
import Derived.Test.YtcfpkbmeblfhoaaOvN
namespace Go.Proofs.Ytcfpkbmeblfhoaa
open Go.RowKit Go.Extern Go.Sort

attribute [local go_sem] Oper.semAt_some

theorem rowH_base {w : World} {B B' n : Nat} {v : Value} {xs : List Value} (h : w.ownsRow B' 57 3 v n xs) (hb : B ≤ B') : w.ownsRow B 57 3 v n xs := by
  obtain ⟨h1, h2⟩ := h
  refine ⟨h1, ?_⟩
  rcases h2 with h2 | ⟨g, cap, cur, e, hb', r⟩
  · exact Or.inl h2
  · exact Or.inr ⟨g, cap, cur, e, Nat.le_trans hb hb', r⟩
theorem set_thrice (c : Array Value) (o : Nat) (x y z : Value) : ((c.setIfInBounds (o + 1) x).setIfInBounds o y).setIfInBounds (o + 1) z = (c.setIfInBounds o y).setIfInBounds (o + 1) z := by
  apply Array.ext_getElem?
  intro i
  simp only [Array.getElem?_setIfInBounds, Array.size_setIfInBounds]
  split
  · rfl
  · rename_i h
    split
    · rfl
    · rfl
/-- what lose makes of a row. -/
def loseH (bs : List Bool) (l : List H3) (gn : Nat) : List H3 × Nat := if l.length < 2 * (gn + 1) then (livH bs l, 0) else (l, gn + 1)

end Go.Proofs.Ytcfpkbmeblfhoaa
