/- viaductref03.Same at any two graphs of one size: it says whether they are one. -/
import Derived.Test.YtgfmalimnbgdeaaSameNo
namespace Go.Proofs.Ytgfmalimnbgdeaa
open Go.RowKit

attribute [local go_sem] Oper.semAt_some

theorem same_dec (N : Int) (ao bo : Option Addr) (al bl ac bc : Nat) (xs ys : List (Int × Int × Int)) (w : World) (ha : HasArcs w (.slice ao al ac) xs) (hb : HasArcs w (.slice bo bl bc) ys) (hm : xs.length ≤ maxLen) :
    Calls Try.prog 12 #[.agg #[.int .i64 N, .slice ao al ac], .agg #[.int .i64 N, .slice bo bl bc]] w fun e w' => e = .returned (.bool (decide (xs = ys))) ∧ Below w.heap.size w w' := by
  by_cases h : xs = ys
  · subst h
    rw [decide_eq_true rfl]
    exact same_yes N ao bo al bl ac bc xs w ha hb hm
  · rw [decide_eq_false h]
    exact same_no N ao bo al bl ac bc xs ys w ha hb hm h
end Go.Proofs.Ytgfmalimnbgdeaa
