/- links of a hierarchy in form: mathematics. -/
import Derived.Test.YtodilocmfdeehaaGreatDoorHrJ
namespace Go.Proofs.YtodilocmfdeehaaGreatDoor.Hi
open Go.RowKit Go.Extern Go.Sort Go.Shelf

/-- in form, each link stands in order, leads upwards, and is well made. -/
theorem form_at {n : Nat} {all : List Sd} (h : cl n all = (0, [])) {i : Nat} (hi : i < all.length) : rising all i = true ∧ (sd all i).rk < (sd all i).lk.hd ∧ (sd all i).lk.hd < n ∧ making (sd all i) all = 0 := by
  have h1 := (ferr_ok all.length 0).1 h i (Nat.zero_le _) (by omega)
  unfold lerr at h1
  split at h1
  · simp at h1
  · rename_i h2
    simp only [not_or, Nat.not_le] at h2
    refine ⟨?_, h2.2.1, h2.2.2, h1⟩
    have := h2.1
    revert this
    cases rising all i <;> simp
/-- the arc that a plain link is. -/
def arcOf (h : Hr) (s : Sd) : Int × Int × Int := ((nth h.node s.tail : Int), (nth h.node s.head : Int), (s.lk.wt : Int))
def gArcs (h : Hr) (l : List Sd) : List (Int × Int × Int) := (l.filter fun s => s.lk.plain).map (arcOf h)
end Go.Proofs.YtodilocmfdeehaaGreatDoor.Hi
