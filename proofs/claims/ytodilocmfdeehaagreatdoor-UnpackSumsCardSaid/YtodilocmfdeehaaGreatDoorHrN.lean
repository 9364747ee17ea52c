/- links of a hierarchy in form: mathematics. -/
import Derived.Test.YtodilocmfdeehaaGreatDoorHrJ
namespace Go.Proofs.YtodilocmfdeehaaGreatDoor.Hi
open Go.RowKit Go.Extern Go.Sort Go.Shelf

/-- in form, each link stands in order, leads upwards, and is well made. -/
theorem form_at {n : Nat} {all : List Sd} (h : cl n all = (0, [])) {i : Nat} (hi : i < all.length) : rising all i = true ∧ (sd all i).rk < (sd all i).lk.hd ∧ (sd all i).lk.hd < n ∧ making (sd all i) all = 0 := by
  have h1 := (ferr_ok all.length 0).1 h i (Nat.zero_le _) (by omega)
  unfold lerr at h1
  split at h1
  · simp at h1
  · rename_i h2
    simp only [not_or, Nat.not_le] at h2
    refine ⟨?_, h2.2.1, h2.2.2, h1⟩
    have := h2.1
    revert this
    cases rising all i <;> simp
theorem form_mem {n : Nat} {all : List Sd} (h : cl n all = (0, [])) {s : Sd} (hs : s ∈ all) : s.tail < n ∧ s.head < n ∧ s.tail ≠ s.head ∧ (s.lk.plain = true → s.lk.wt ≤ 2147483647) := by
  obtain ⟨i, hi⟩ := List.mem_iff_getElem?.1 hs
  have hlt := (List.getElem?_eq_some_iff.1 hi).1
  obtain ⟨_, h1, h2, h3⟩ := form_at h hlt
  rw [sd_of hi] at h1 h2 h3
  have e : s.lk.plain = true → s.lk.wt ≤ 2147483647 := fun hp => by
    rw [making, if_pos hp] at h3
    split at h3
    · simp at h3
    · omega
  unfold Sd.tail Sd.head
  cases s.up
  · exact ⟨h2, by simp; omega, by simp; omega, e⟩
  · exact ⟨by simp; omega, h2, by simp; omega, e⟩
/-- the arc that a plain link is. -/
def arcOf (h : Hr) (s : Sd) : Int × Int × Int := ((nth h.node s.tail : Int), (nth h.node s.head : Int), (s.lk.wt : Int))
def gArcs (h : Hr) (l : List Sd) : List (Int × Int × Int) := (l.filter fun s => s.lk.plain).map (arcOf h)
theorem gArcs_snoc (h : Hr) (l : List Sd) (s : Sd) : gArcs h (l ++ [s]) = gArcs h l ++ (if s.lk.plain then [arcOf h s] else []) := by
  unfold gArcs
  rw [List.filter_append, List.map_append]
  congr 1
  cases hp : s.lk.plain <;> simp [hp]
theorem gArcs_len (h : Hr) (l : List Sd) : (gArcs h l).length ≤ l.length := by
  unfold gArcs
  rw [List.length_map]
  exact List.length_filter_le _ _
end Go.Proofs.YtodilocmfdeehaaGreatDoor.Hi
