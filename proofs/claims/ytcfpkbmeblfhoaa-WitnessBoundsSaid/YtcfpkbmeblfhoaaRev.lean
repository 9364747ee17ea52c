/- normal.Reverse: the arcs turned about, in new memory; beside an error nothing. -/
import Derived.Test.YtcfpkbmeblfhoaaOf
namespace Go.Proofs.Ytcfpkbmeblfhoaa
open Go.RowKit Go.Extern Go.Sort Go.Shelf

attribute [local go_sem] Oper.semAt_some

theorem keeps_two {W : World} {b : Nat} {c : Array Value} {t : TypeId} (h : W.heap[b]? = some (.cells c t)) (ht : t ≠ 100) (u v : Value) : Keeps W ((W.setCell ⟨b, 0, none⟩ u).setCell ⟨b, 1, none⟩ v) := fun d x hd => by
  have hne : d ≠ b := fun e => by rw [e, h] at hd; cases hd; exact ht rfl
  rw [heap_setCell_other _ _ _ _ hne, heap_setCell_other _ _ _ _ hne]
  exact hd
/-- an arc turned about. -/
def turn (a : Int × Int × Int) : Int × Int × Int := (a.2.1, a.1, a.2.2)
/-- what holds at each round. -/
structure RevI (w : World) (R : Nat) (N : Int) (ao : Option Addr) (cap : Nat) (xs : List (Int × Int × Int)) (k : Nat) (wr : World) : Prop where
  done : ∀ j a, j < k → xs[j]? = some a → wr.cell? ⟨R, j * 3, none⟩ = some (.int .i64 a.2.1) ∧ wr.cell? ⟨R, j * 3 + 1, none⟩ = some (.int .i64 a.1) ∧ wr.cell? ⟨R, j * 3 + 2, none⟩ = some (.int .i64 a.2.2)
  room : ∀ o, o < xs.length * 3 → ∃ v, wr.cell? ⟨R, o, none⟩ = some v
  free : ∀ o, wr.frozen? ⟨R, o, none⟩ = false
  lt : R < wr.heap.size
  box : wr.heap[w.heap.size]? = some (.cells #[.int .i64 N, .slice ao xs.length cap] 35)
  res : wr.heap[w.heap.size + 1]? = some (.cells #[.int .i64 0, .slice none 0 0] 35)
  below : Below w.heap.size w wr
theorem RevI.keep {w : World} {R : Nat} {N : Int} {ao : Option Addr} {cap : Nat} {xs : List (Int × Int × Int)} {k : Nat} {wr wn : World} (h : RevI w R N ao cap xs k wr) (hb : Below wr.heap.size wr wn) : RevI w R N ao cap xs k wn := by
  have hc : ∀ o, wn.cell? ⟨R, o, none⟩ = wr.cell? ⟨R, o, none⟩ := fun o => hb.cell (p := ⟨R, o, none⟩) h.lt
  refine ⟨fun j a hj ha => ?_, fun o ho => ?_, fun o => ?_, Nat.lt_of_lt_of_le h.lt hb.size, (hb.block _ (lt_of_get h.box)).trans h.box, (hb.block _ (lt_of_get h.res)).trans h.res, h.below.trans (hb.mono h.below.size)⟩
  · rw [hc, hc, hc]; exact h.done j a hj ha
  · rw [hc]; exact h.room o ho
  · have := h.free o
    simp only [World.frozen?, hb.block _ h.lt] at *
    exact this
theorem RevI.next {w : World} {R : Nat} {N : Int} {ao : Option Addr} {cap : Nat} {xs : List (Int × Int × Int)} {k : Nat} {wr : World} (h : RevI w R N ao cap xs k wr) {a : Int × Int × Int} (ha : xs[k]? = some a) (hR : w.heap.size + 1 < R) :
    RevI w R N ao cap xs (k + 1) (((wr.setCell ⟨R, k * 3, none⟩ (.int .i64 a.2.1)).setCell ⟨R, k * 3 + 1, none⟩ (.int .i64 a.1)).setCell ⟨R, k * 3 + 2, none⟩ (.int .i64 a.2.2)) := by
  have hlt := (List.getElem?_eq_some_iff.1 ha).1
  obtain ⟨v0, h0⟩ := h.room (k * 3) (by omega)
  obtain ⟨v1, h1⟩ := h.room (k * 3 + 1) (by omega)
  obtain ⟨v2, h2⟩ := h.room (k * 3 + 2) (by omega)
  have hne : ∀ x y : Nat, x ≠ y → (⟨R, x, none⟩ : Addr) ≠ ⟨R, y, none⟩ := fun x y hxy e => hxy (congrArg Addr.off e)
  have hoth : ∀ o, o ≠ k * 3 → o ≠ k * 3 + 1 → o ≠ k * 3 + 2 → (((wr.setCell ⟨R, k * 3, none⟩ (.int .i64 a.2.1)).setCell ⟨R, k * 3 + 1, none⟩ (.int .i64 a.1)).setCell ⟨R, k * 3 + 2, none⟩ (.int .i64 a.2.2)).cell? ⟨R, o, none⟩ = wr.cell? ⟨R, o, none⟩ := fun o n0 n1 n2 => by
    rw [World.cell?_setCell_other _ _ _ _ (hne _ _ (Ne.symm n2)), World.cell?_setCell_other _ _ _ _ (hne _ _ (Ne.symm n1)), World.cell?_setCell_other _ _ _ _ (hne _ _ (Ne.symm n0))]
  have g1 : (wr.setCell ⟨R, k * 3, none⟩ (.int .i64 a.2.1)).cell? ⟨R, k * 3 + 1, none⟩ = some v1 := (World.cell?_setCell_other _ _ _ _ (hne _ _ (by omega))).trans h1
  have g2 : ((wr.setCell ⟨R, k * 3, none⟩ (.int .i64 a.2.1)).setCell ⟨R, k * 3 + 1, none⟩ (.int .i64 a.1)).cell? ⟨R, k * 3 + 2, none⟩ = some v2 := (World.cell?_setCell_other _ _ _ _ (hne _ _ (by omega))).trans ((World.cell?_setCell_other _ _ _ _ (hne _ _ (by omega))).trans h2)
  have c0 : (((wr.setCell ⟨R, k * 3, none⟩ (.int .i64 a.2.1)).setCell ⟨R, k * 3 + 1, none⟩ (.int .i64 a.1)).setCell ⟨R, k * 3 + 2, none⟩ (.int .i64 a.2.2)).cell? ⟨R, k * 3, none⟩ = some (.int .i64 a.2.1) := by
    rw [World.cell?_setCell_other _ _ _ _ (hne _ _ (by omega)), World.cell?_setCell_other _ _ _ _ (hne _ _ (by omega)), World.cell?_setCell_same _ _ _ h0]
  have c1 : (((wr.setCell ⟨R, k * 3, none⟩ (.int .i64 a.2.1)).setCell ⟨R, k * 3 + 1, none⟩ (.int .i64 a.1)).setCell ⟨R, k * 3 + 2, none⟩ (.int .i64 a.2.2)).cell? ⟨R, k * 3 + 1, none⟩ = some (.int .i64 a.1) := by
    rw [World.cell?_setCell_other _ _ _ _ (hne _ _ (by omega)), World.cell?_setCell_same _ _ _ g1]
  have c2 : (((wr.setCell ⟨R, k * 3, none⟩ (.int .i64 a.2.1)).setCell ⟨R, k * 3 + 1, none⟩ (.int .i64 a.1)).setCell ⟨R, k * 3 + 2, none⟩ (.int .i64 a.2.2)).cell? ⟨R, k * 3 + 2, none⟩ = some (.int .i64 a.2.2) := World.cell?_setCell_same _ _ _ g2
  refine ⟨fun j b hj hb => ?_, fun o ho => ?_, fun o => ?_, by simp; exact h.lt, ?_, ?_, ?_⟩
  · by_cases hjk : j = k
    · subst hjk
      obtain rfl : a = b := Option.some.inj (ha.symm.trans hb)
      exact ⟨c0, c1, c2⟩
    · rw [hoth _ (by omega) (by omega) (by omega), hoth _ (by omega) (by omega) (by omega), hoth _ (by omega) (by omega) (by omega)]
      exact h.done j b (by omega) hb
  · by_cases e0 : o = k * 3
    · subst e0; exact ⟨_, c0⟩
    · by_cases e1 : o = k * 3 + 1
      · subst e1; exact ⟨_, c1⟩
      · by_cases e2 : o = k * 3 + 2
        · subst e2; exact ⟨_, c2⟩
        · rw [hoth o e0 e1 e2]; exact h.room o ho
  · simp; exact h.free o
  · rw [heap_setCell_other _ _ _ _ (by show w.heap.size ≠ R; omega), heap_setCell_other _ _ _ _ (by show w.heap.size ≠ R; omega), heap_setCell_other _ _ _ _ (by show w.heap.size ≠ R; omega)]; exact h.box
  · rw [heap_setCell_other _ _ _ _ (by show w.heap.size + 1 ≠ R; omega), heap_setCell_other _ _ _ _ (by show w.heap.size + 1 ≠ R; omega), heap_setCell_other _ _ _ _ (by show w.heap.size + 1 ≠ R; omega)]; exact h.res
  · exact ((h.below.setCell (p := ⟨R, k * 3, none⟩) (by show w.heap.size ≤ R; omega) _).setCell (p := ⟨R, k * 3 + 1, none⟩) (by show w.heap.size ≤ R; omega) _).setCell (p := ⟨R, k * 3 + 2, none⟩) (by show w.heap.size ≤ R; omega) _

end Go.Proofs.Ytcfpkbmeblfhoaa
