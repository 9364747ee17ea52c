/- ref01.AlikePlaces: are two lists of places one? It only reads. -/
import Derived.Test.YthgmhhlgjooeaaaDoorChain
import Derived.Deep.QuietTactic
import Derived.BigQuiet
namespace Go.Proofs.YthgmhhlgjooeaaaDoor.F1
open Go.RowKit Go.Extern

/-- the first k places are one. -/
def sameTo (ps qs : List (Int × Int)) (k : Nat) : Prop := ∀ j, j < k → ps[j]? = qs[j]?
theorem same_all {ps qs : List (Int × Int)} (hl : ps.length = qs.length) (h : sameTo ps qs ps.length) : ps = qs := by
  apply List.ext_getElem? 
  intro j
  by_cases hj : j < ps.length
  · exact h j hj
  · rw [List.getElem?_eq_none (by omega), List.getElem?_eq_none (by omega)]

end Go.Proofs.YthgmhhlgjooeaaaDoor.F1
