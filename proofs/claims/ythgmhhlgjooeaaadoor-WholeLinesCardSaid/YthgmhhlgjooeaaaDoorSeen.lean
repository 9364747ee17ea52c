/- viaductseen.Same, where an error of the program is the one that is wanted: it says so. -/
import Derived.Test.YthgmhhlgjooeaaaDoorErrF
import Derived.Test.YthgmhhlgjooeaaaDoorErrI
import Derived.Test.YthgmhhlgjooeaaaDoorCheck
import Derived.Deep.RegionWith
import Derived.Deep.RegionHeld
namespace Go.Proofs.YthgmhhlgjooeaaaDoor
open Go.RowKit Go.Extern

attribute [local go_sem] Oper.semAt_some

/-- the listed variable of package errors. -/
def HasType (w : World) : Prop := w.cell? ⟨0, 0, none⟩ = some (.iface 112 (.agg #[.pointer (some ⟨5, 24, none⟩)]))
theorem HasType.pos {w : World} (h : HasType w) : 0 < w.heap.size := by
  rcases Nat.eq_zero_or_pos w.heap.size with h0 | h0
  · simp [HasType, World.cell?, Array.getElem?_eq_none (show w.heap.size ≤ 0 by omega)] at h
  · exact h0
theorem HasType.keep {w w' : World} {n : Nat} (h : HasType w) (hb : Below n w w') (hn : 0 < n) : HasType w' := (hb.cell (p := ⟨0, 0, none⟩) hn).trans h
/-- a slice whose places lie in memory. -/
def HasPlaces (w : World) (lv : Value) (ps : List (Int × Int)) : Prop :=
  ∃ ao cap, lv = .slice ao ps.length cap ∧ ∀ j p, ps[j]? = some p → ∃ b off, ao = some ⟨b, off, none⟩ ∧ b < w.heap.size ∧
    w.cell? ⟨b, off + j * 2, none⟩ = some (.int .i64 p.1) ∧ w.cell? ⟨b, off + j * 2 + 1, none⟩ = some (.int .i64 p.2)
theorem HasPlaces.keep {w w' : World} {lv : Value} {ps : List (Int × Int)} (h : HasPlaces w lv ps) (hb : Below w.heap.size w w') : HasPlaces w' lv ps := by
  obtain ⟨ao, cap, e, hc⟩ := h
  refine ⟨ao, cap, e, fun j p hj => ?_⟩
  obtain ⟨b, off, ea, hl, h0, h1⟩ := hc j p hj
  exact ⟨b, off, ea, Nat.lt_of_lt_of_le hl hb.size, (hb.cell (p := ⟨b, _, none⟩) hl).trans h0, (hb.cell (p := ⟨b, _, none⟩) hl).trans h1⟩

end Go.Proofs.YthgmhhlgjooeaaaDoor
