/- lists of whole numbers in memory; viaductref02's SameInts at lists that are one: it says so. -/
import Derived.Test.YtbkclhaonbjobaaGreatCheck
namespace Go.Proofs.YtbkclhaonbjobaaGreat
open Go.RowKit Go.Extern

attribute [local go_sem] Oper.semAt_some

def HasInts (w : World) (lv : Value) (xs : List Int) : Prop :=
  ∃ ao cap, lv = .slice ao xs.length cap ∧ ∀ j a, xs[j]? = some a → ∃ b off, ao = some ⟨b, off, none⟩ ∧ b < w.heap.size ∧ w.cell? ⟨b, off + j, none⟩ = some (.int .i64 a)
theorem HasInts.keep {w w' : World} {lv : Value} {xs : List Int} (h : HasInts w lv xs) (hb : Below w.heap.size w w') : HasInts w' lv xs := by
  obtain ⟨ao, cap, e, hc⟩ := h
  refine ⟨ao, cap, e, fun j a hj => ?_⟩
  obtain ⟨b, off, ea, hl, h0⟩ := hc j a hj
  exact ⟨b, off, ea, Nat.lt_of_lt_of_le hl hb.size, (hb.cell (p := ⟨b, _, none⟩) hl).trans h0⟩
theorem HasInts.at {w : World} {ao : Option Addr} {n cap : Nat} {xs : List Int} (h : HasInts w (.slice ao n cap) xs) {k : Nat} {a : Int} (hp : xs[k]? = some a) :
    ∃ b off, ao = some ⟨b, off, none⟩ ∧ b < w.heap.size ∧ w.cell? ⟨b, off + k, none⟩ = some (.int .i64 a) := by
  obtain ⟨ao', cap', e, hc⟩ := h
  injection e with e1 e2 e3
  subst e1
  exact hc k a hp

end Go.Proofs.YtbkclhaonbjobaaGreat
