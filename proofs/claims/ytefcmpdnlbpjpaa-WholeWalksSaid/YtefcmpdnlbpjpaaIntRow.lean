/- rows of whole numbers in blocks of their own. -/
import Derived.Test.YtefcmpdnlbpjpaaInts
import Derived.Deep.OwnRows
namespace Go.Proofs.Ytefcmpdnlbpjpaa
open Go.RowKit Go.Extern

/-- a row of numbers in a block of its own. -/
def IntRow (w : World) (b len : Nat) (f : Nat → Int) : Prop := ∃ cur, w.heap[b]? = some (.cells cur 3) ∧ cur.size = len ∧ ∀ u, u < len → cur[u]? = some (.int .i64 (f u))
section
variable {w w' : World} {b len : Nat} {f g : Nat → Int}
theorem IntRow.lt (h : IntRow w b len f) : b < w.heap.size := by
  obtain ⟨cur, h1, _⟩ := h
  exact lt_of_get h1
theorem IntRow.cell (h : IntRow w b len f) {u : Nat} (hu : u < len) : w.cell? ⟨b, u, none⟩ = some (.int .i64 (f u)) := by
  obtain ⟨cur, h1, _, h3⟩ := h
  simp only [World.cell?, h1]
  simpa using h3 u hu
theorem IntRow.free (h : IntRow w b len f) (o : Nat) : w.frozen? ⟨b, o, none⟩ = false := by
  obtain ⟨cur, h1, _⟩ := h
  simp [World.frozen?, h1]
theorem IntRow.keep (h : IntRow w b len f) (hk : w'.heap[b]? = w.heap[b]?) : IntRow w' b len f := by
  obtain ⟨cur, h1, h2⟩ := h
  exact ⟨cur, hk.trans h1, h2⟩
theorem IntRow.congr (h : IntRow w b len f) (e : ∀ u, u < len → f u = g u) : IntRow w b len g := by
  obtain ⟨cur, h1, h2, h3⟩ := h
  exact ⟨cur, h1, h2, fun u hu => by rw [← e u hu]; exact h3 u hu⟩
theorem IntRow.other (h : IntRow w b len f) {b' : Nat} (hne : b ≠ b') (o : Nat) (x : Value) : IntRow (w.setCell ⟨b', o, none⟩ x) b len f := h.keep (heap_setCell_other _ _ _ _ hne)
theorem IntRow.set (h : IntRow w b len f) (u : Nat) (x : Int) : IntRow (w.setCell ⟨b, u, none⟩ (.int .i64 x)) b len (fun i => if i = u then x else f i) := by
  obtain ⟨cur, h1, h2, h3⟩ := h
  refine ⟨cur.setIfInBounds u (.int .i64 x), ?_, by simpa using h2, fun i hi => ?_⟩
  · simp only [World.setCell, Array.getElem?_modify]
    rw [if_pos True.intro, h1]
    rfl
  · show _ = some (Value.int .i64 (if i = u then x else f i))
    rw [Array.getElem?_setIfInBounds]
    by_cases e : u = i
    · subst e
      rw [if_pos rfl, if_pos (by omega), if_pos rfl]
    · rw [if_neg e, if_neg (show ¬ i = u from fun e' => e e'.symm)]
      exact h3 i hi
theorem IntRow.made (h : w.heap[b]? = some (.cells (madeCells #[.int .i64 0] len) 3)) : IntRow w b len (fun _ => 0) := by
  refine ⟨_, h, by simp [madeCells], fun u hu => ?_⟩
  simp [madeCells, hu, Nat.mod_one]
theorem IntRow.ints (h : IntRow w b len f) (cap : Nat) {l : List Int} (hl : l.length = len) (hf : ∀ i a, l[i]? = some a → f i = a) : HasInts w (.slice (some ⟨b, 0, none⟩) len cap) l := by
  subst hl
  refine ⟨_, cap, rfl, fun j a hj => ⟨b, 0, rfl, h.lt, ?_⟩⟩
  rw [Nat.zero_add, h.cell (List.getElem?_eq_some_iff.1 hj).1, hf j a hj]
end
end Go.Proofs.Ytefcmpdnlbpjpaa
