/- Rows of arcs of one's own. Boxes of two cells that are written: what lies elsewhere stays. -/
import Derived.Test.YtgfmalimnbgdeaaRev
import Derived.Test.YtgfmalimnbgdeaaDocCheck
import Derived.Deep.RegionHeld
namespace Go.Proofs.Ytgfmalimnbgdeaa
open Go.RowKit Go.Extern Go.Sort Go.Shelf

attribute [local go_sem] Oper.semAt_some

theorem rowA_slice {w : World} {base n : Nat} {xs : List Value} {v : Value} (h : w.ownsRow base 46 3 v n xs) : ∃ ao cap, v = .slice ao n cap := by
  rcases h.2 with ⟨h, h'⟩ | ⟨g, cap, cur, h, _⟩
  · exact ⟨none, 0, by rw [h']; exact h⟩
  · exact ⟨_, cap, h⟩
theorem rowA_keep {w w' : World} {base n : Nat} {xs : List Value} {v : Value} (h : w.ownsRow base 46 3 v n xs) (hk : ∀ g, base ≤ g → g < w.heap.size → w'.heap[g]? = w.heap[g]?) : w'.ownsRow base 46 3 v n xs := by
  obtain ⟨h1, h2⟩ := h
  refine ⟨h1, ?_⟩
  rcases h2 with h2 | ⟨g, cap, cur, e, hb, hh, r⟩
  · exact Or.inl h2
  · exact Or.inr ⟨g, cap, cur, e, hb, (hk g hb (lt_of_get hh)).trans hh, r⟩
theorem arcs_of_row {w : World} {base : Nat} {v : Value} {l : List (Int × Int × Int)} (h : w.ownsRow base 46 3 v l.length (flatA l)) : HasArcs w v l := by
  rcases h.2 with ⟨e, h0⟩ | ⟨g, cap, cur, rfl, hg, hh, _⟩
  · have : l = [] := List.eq_nil_of_length_eq_zero h0
    subst this
    exact ⟨none, 0, e, fun j p hj => by simp at hj⟩
  · refine ⟨_, cap, rfl, fun j a hj => ⟨g, 0, rfl, lt_of_get hh, ?_⟩⟩
    have hlt := (List.getElem?_eq_some_iff.1 hj).1
    have c := fun c (hc : c < 3) => (h.cellAt (j * 3 + c) (by omega)).trans (flatA_get l j a hj c hc)
    rw [Nat.zero_add]
    exact ⟨c 0 (by omega), c 1 (by omega), c 2 (by omega)⟩
end Go.Proofs.Ytgfmalimnbgdeaa

namespace Go.Proofs.Ytgfmalimnbgdeaa
open Go.RowKit Go.Extern Go.Sort Go.Shelf

attribute [local go_sem] Oper.semAt_some

theorem firstBad_ne (N : Int) : ∀ (xs : List (Int × Int × Int)) (i : Nat) (q : Nat × Int), firstBad N xs i = some q → q.2 ≠ 0
  | [], _, _, h => by cases h
  | a :: r, i, q, h => by
    rw [firstBad] at h
    split at h
    · exact firstBad_ne N r (i + 1) q h
    · rename_i hne
      cases h
      exact hne
/-- two pairs of cells are laid; nothing of old turns. -/
theorem Below.lay4 {w w2 : World} (h : Below w.heap.size w w2) (c0 c1 c2 c3 : Value) : Below w.heap.size w ((((w2.setCell ⟨w.heap.size + 1, 0, none⟩ c0).setCell ⟨w.heap.size + 1, 1, none⟩ c1).setCell ⟨w.heap.size + 1 + 1, 0, none⟩ c2).setCell ⟨w.heap.size + 1 + 1, 1, none⟩ c3) :=
  (((h.setCell (p := ⟨w.heap.size + 1, 0, none⟩) (by simp) _).setCell (p := ⟨w.heap.size + 1, 1, none⟩) (by simp) _).setCell (p := ⟨w.heap.size + 1 + 1, 0, none⟩) (by show w.heap.size ≤ w.heap.size + 1 + 1; omega) _).setCell (p := ⟨w.heap.size + 1 + 1, 1, none⟩) (by show w.heap.size ≤ w.heap.size + 1 + 1; omega) _
theorem cell_lay4 {b1 b2 : Nat} {W : World} (c0 c1 c2 c3 : Value) {p : Addr} (h1 : p.block ≠ b1) (h2 : p.block ≠ b2) : ((((W.setCell ⟨b1, 0, none⟩ c0).setCell ⟨b1, 1, none⟩ c1).setCell ⟨b2, 0, none⟩ c2).setCell ⟨b2, 1, none⟩ c3).cell? p = W.cell? p := by
  rw [World.cell?_setCell_other _ _ _ _ (fun e => h2 (congrArg Addr.block e).symm), World.cell?_setCell_other _ _ _ _ (fun e => h2 (congrArg Addr.block e).symm), World.cell?_setCell_other _ _ _ _ (fun e => h1 (congrArg Addr.block e).symm), World.cell?_setCell_other _ _ _ _ (fun e => h1 (congrArg Addr.block e).symm)]

theorem HasArcs.lay {W : World} {v : Value} {l : List (Int × Int × Int)} (h : HasArcs W v l) {b1 b2 : Nat} {x0 x1 y0 y1 : Value} {t1 t2 : TypeId} (h1 : W.heap[b1]? = some (.cells #[x0, x1] t1)) (h2 : W.heap[b2]? = some (.cells #[y0, y1] t2)) (c0 c1 c2 c3 : Value) :
    HasArcs ((((W.setCell ⟨b1, 0, none⟩ c0).setCell ⟨b1, 1, none⟩ c1).setCell ⟨b2, 0, none⟩ c2).setCell ⟨b2, 1, none⟩ c3) v l := by
  obtain ⟨ao, cap, e, hc⟩ := h
  refine ⟨ao, cap, e, fun j a hj => ?_⟩
  obtain ⟨b, off, ea, hl, q0, q1, q2⟩ := hc j a hj
  have n1 : b ≠ b1 := fun e => by
    subst e
    simp only [World.cell?, h1] at q2
    have : off + j * 3 + 2 < 2 := by
      rcases Nat.lt_or_ge (off + j * 3 + 2) 2 with h | h
      · exact h
      · rw [if_neg (by simp), Array.getElem?_eq_none (by simp)] at q2; cases q2
    omega
  have n2 : b ≠ b2 := fun e => by
    subst e
    simp only [World.cell?, h2] at q2
    have : off + j * 3 + 2 < 2 := by
      rcases Nat.lt_or_ge (off + j * 3 + 2) 2 with h | h
      · exact h
      · rw [if_neg (by simp), Array.getElem?_eq_none (by simp)] at q2; cases q2
    omega
  exact ⟨b, off, ea, by simp; exact hl, (cell_lay4 _ _ _ _ n1 n2).trans q0, (cell_lay4 _ _ _ _ n1 n2).trans q1, (cell_lay4 _ _ _ _ n1 n2).trans q2⟩

theorem HasPlaces.lay {W : World} {v : Value} {l : List (Int × Int)} (h : HasPlaces W v l) {b1 b2 : Nat} {x0 y0 : Value} {t1 t2 : TypeId} (h1 : W.heap[b1]? = some (.cells #[x0, .slice none 0 0] t1)) (h2 : W.heap[b2]? = some (.cells #[y0, .slice none 0 0] t2)) (c0 c1 c2 c3 : Value) :
    HasPlaces ((((W.setCell ⟨b1, 0, none⟩ c0).setCell ⟨b1, 1, none⟩ c1).setCell ⟨b2, 0, none⟩ c2).setCell ⟨b2, 1, none⟩ c3) v l := by
  obtain ⟨ao, cap, e, hc⟩ := h
  refine ⟨ao, cap, e, fun j a hj => ?_⟩
  obtain ⟨b, off, ea, hl, q0, q1⟩ := hc j a hj
  have key : ∀ (x : Value) (t : TypeId), W.heap[b]? = some (.cells #[x, .slice none 0 0] t) → False := fun x t hb => by
    simp only [World.cell?, hb] at q1
    rw [if_neg (by simp)] at q1
    rcases (show off + j * 2 = 0 ∨ 2 ≤ off + j * 2 + 1 by omega) with h | h
    · rw [h] at q1; simp at q1
    · rw [Array.getElem?_eq_none (by simpa using h)] at q1; cases q1
  have n1 : b ≠ b1 := fun e => key x0 t1 (e ▸ h1)
  have n2 : b ≠ b2 := fun e => key y0 t2 (e ▸ h2)
  exact ⟨b, off, ea, by simp; exact hl, (cell_lay4 _ _ _ _ n1 n2).trans q0, (cell_lay4 _ _ _ _ n1 n2).trans q1⟩

end Go.Proofs.Ytgfmalimnbgdeaa
