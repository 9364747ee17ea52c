/- viaductref05.DocCheck at arrays whose lengths are wrong. -/
import Derived.Test.YtpaamcapopnhoaaCsrOps
import Derived.Test.YtpaamcapopnhoaaDocCheck
import Derived.BigQuiet
namespace Go.Proofs.Ytpaamcapopnhoaa
open Go.RowKit Go.Extern

attribute [local go_sem] Oper.semAt_some

/-- what the reference tells: a number and places. -/
def DocAns (w : World) (E : Int × List (Int × Int)) (e : Ending) (w' : World) : Prop := ∃ lo lc, e = .returned (.agg #[.int .i64 E.1, .slice lo E.2.length lc]) ∧ HasPlaces w' (.slice lo E.2.length lc) E.2 ∧ Below w.heap.size w w'
theorem places_nil (w : World) : HasPlaces w (.slice none 0 0) [] := ⟨none, 0, rfl, fun j p hj => by simp at hj⟩
theorem places_one {w : World} {g : Nat} {k a : Int} (h : w.heap[g]? = some (.cells #[.int .i64 k, .int .i64 a] 107)) : HasPlaces w (.slice (some ⟨g, 0, none⟩) 1 1) [(k, a)] := by
  refine ⟨some ⟨g, 0, none⟩, 1, rfl, fun j p hj => ?_⟩
  rcases j with _ | j
  · simp at hj
    subst hj
    exact ⟨g, 0, rfl, lt_of_get h, by simp [World.cell?, h], by simp [World.cell?, h]⟩
  · simp at hj
theorem lay_ne {w : World} {g b : Nat} {o : Obj} (h : w.heap[g]? = some o) (hne : g ≠ b) (c0 c1 : Value) : ((w.setCell ⟨b, 0, none⟩ c0).setCell ⟨b, 1, none⟩ c1).heap[g]? = some o :=
  ((heap_setCell_other _ _ _ _ hne).trans (heap_setCell_other _ _ _ _ hne)).trans h
theorem btr {w wm wy : World} (h1 : Below w.heap.size w wm) (h2 : Below wm.heap.size wm wy) : Below w.heap.size w wy := h1.trans (h2.mono h1.size)
theorem drewN_below {w wx : World} (h : Below w.heap.size w wx) (q : Nat) : Below w.heap.size w (wx.drewN q) := ⟨h.os, h.tape, h.output, h.size, h.block⟩
end Go.Proofs.Ytpaamcapopnhoaa
