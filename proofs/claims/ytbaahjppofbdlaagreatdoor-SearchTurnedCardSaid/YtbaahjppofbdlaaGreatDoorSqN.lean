/- viaductref08.node: the error of a node of arrays. -/
import Derived.Test.YtbaahjppofbdlaaGreatDoorSqD
import Derived.Test.YtbaahjppofbdlaaGreatDoorSrG
namespace Go.Proofs.YtbaahjppofbdlaaGreatDoor
open Go.RowKit Go.Extern

attribute [local go_sem] Oper.semAt_some

/-- a box of two cells is written. -/
def lay2 (W : World) (b : Nat) (c0 c1 : Value) : World := (W.setCell ⟨b, 0, none⟩ c0).setCell ⟨b, 1, none⟩ c1
section
variable {W : World} {b : Nat} {c0 c1 x : Value} {a : Option Addr} {n m : Nat} {T : TypeId}
theorem lay2_far {g : Nat} (hg : g ≠ b) : (lay2 W b c0 c1).heap[g]? = W.heap[g]? := (heap_setCell_other _ _ _ _ hg).trans (heap_setCell_other _ _ _ _ hg)
theorem lay2_size : (lay2 W b c0 c1).heap.size = W.heap.size := by simp [lay2]
theorem lay2_box {y : Value} (h : W.heap[b]? = some (.cells #[x, y] T)) : (lay2 W b c0 c1).heap[b]? = some (.cells #[c0, c1] T) := by
  have h1 : (W.setCell ⟨b, 0, none⟩ c0).heap[b]? = some (.cells #[c0, y] T) := (Go.heap_setCell_same _ _ 0 _ _ _ h).trans rfl
  exact (Go.heap_setCell_same _ _ 1 _ _ _ h1).trans rfl
theorem lay2_below {w : World} (h : Below w.heap.size w W) (hb : w.heap.size ≤ b) : Below w.heap.size w (lay2 W b c0 c1) := (h.setCell (p := ⟨b, 0, none⟩) hb _).setCell (p := ⟨b, 1, none⟩) hb _
theorem lay2_places {v : Value} {l : List (Int × Int)} (h : HasPlaces W v l) (hb : W.heap[b]? = some (.cells #[x, .slice a n m] T)) : HasPlaces (lay2 W b c0 c1) v l := by
  obtain ⟨ao, cap, e, hc⟩ := h
  refine ⟨ao, cap, e, fun j p hj => ?_⟩
  obtain ⟨g, off, ea, hl, q0, q1⟩ := hc j p hj
  have n2 : g ≠ b := fun e => by
    subst e
    simp only [World.cell?, hb] at q1
    generalize off + j * 2 = k at q1
    rcases k with _ | k <;> simp at q1
  have hk := lay2_far (W := W) (c0 := c0) (c1 := c1) n2
  exact ⟨g, off, ea, by rw [lay2_size]; exact hl, (World.cell?_of_block (a := ⟨g, _, none⟩) hk).trans q0, (World.cell?_of_block (a := ⟨g, _, none⟩) hk).trans q1⟩
end
theorem badT {C : Int} (h : C ≠ 0) (l : Nat) : (C != 0 || decide (0 < l)) = true := by simp [h]
theorem below1 (w : World) (o : Obj) : Below w.heap.size w (w.alloc o) := (Below.refl _ w).alloc (Nat.le_refl _) _

section
variable (fo uo wo : Option Addr) (fl fc tl tc wl wc n : Nat) (w : World) (v : Int)

end
end Go.Proofs.YtbaahjppofbdlaaGreatDoor
