/- seen.Chain: an error made of places and a number, without errors of another kind: the chain lies in new memory. -/
import Derived.Test.YthgmhhlgjooeaaaDoorErrH
import Derived.Test.YthgmhhlgjooeaaaDoorCode
namespace Go.Proofs.YthgmhhlgjooeaaaDoor.F1
open Go.RowKit Go.Extern

/-- a slice of places in memory, at whatever address. -/
def HasPlaces (w : World) (lv : Value) (ps : List (Int × Int)) : Prop :=
  ∃ ao cap, lv = .slice ao ps.length cap ∧ ∀ j p, ps[j]? = some p → ∃ b off, ao = some ⟨b, off, none⟩ ∧ b < w.heap.size ∧
    w.cell? ⟨b, off + j * 2, none⟩ = some (.int .i64 p.1) ∧ w.cell? ⟨b, off + j * 2 + 1, none⟩ = some (.int .i64 p.2)
theorem HasPlaces.keep {w w' : World} {lv : Value} {ps : List (Int × Int)} (h : HasPlaces w lv ps) (hb : Below w.heap.size w w') : HasPlaces w' lv ps := by
  obtain ⟨ao, cap, e, hc⟩ := h
  refine ⟨ao, cap, e, fun j p hj => ?_⟩
  obtain ⟨b, off, ea, hl, h0, h1⟩ := hc j p hj
  exact ⟨b, off, ea, Nat.lt_of_lt_of_le hl hb.size, (hb.cell (p := ⟨b, _, none⟩) hl).trans h0, (hb.cell (p := ⟨b, _, none⟩) hl).trans h1⟩
theorem shape_of {w : World} {tv : Value} (htv : tv = .nilIface ∨ ∃ T x, tv = .iface T x) {ps : List (Int × Int)} {v : Value} (h : IsErr w tv ps v) : v = .nilIface ∨ ∃ T x, v = .iface T x := by
  cases ps with
  | nil =>
    obtain rfl : v = tv := h
    exact htv
  | cons p ps => obtain ⟨b, u, e, _⟩ := h; exact Or.inr ⟨_, _, e⟩
end Go.Proofs.YthgmhhlgjooeaaaDoor.F1
