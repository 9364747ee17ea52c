/- the reference's Twin: a hierarchy's copy in new memory. -/
import Derived.Test.YtamedcnjanichaaDoorHsA
import Derived.Test.YtamedcnjanichaaDoorHrZ
import Derived.Deep.RegionHeld3
namespace Go.Proofs.YtamedcnjanichaaDoor.Hi
open Go.RowKit Go.Extern Go.Shelf

attribute [local go_sem] Oper.semAt_some

/-- no list takes more than memory's reach. -/
structure Reach (h : Hr) : Prop where
  node : h.node.length * 4 ≤ 140737488351232
  upF : h.upF.length * 4 ≤ 140737488351232
  up : h.up.length * 24 ≤ 140737488351232
  dnF : h.dnF.length * 4 ≤ 140737488351232
  dn : h.dn.length * 24 ≤ 140737488351232
theorem Reach.short {h : Hr} (r : Reach h) : Short h := by
  obtain ⟨r0, r1, r2, r3, r4⟩ := r
  exact ⟨by omega, by omega, by omega, by omega, by omega⟩
theorem own_high {w : World} {B n m z mc : Nat} {T : TypeId} {mo : Option Addr} {xs : List Value} (h : w.ownsRow B T z (.slice mo n mc) m xs) : ∀ a, mo = some a → B ≤ a.block := by
  rcases h.2 with ⟨e, _⟩ | ⟨g, cap, cur, e, hg, _⟩
  · injection e with e1 _ _
    intro a ha
    rw [e1] at ha
    cases ha
  · injection e with e1 _ _
    intro a ha
    rw [e1] at ha
    cases ha
    exact hg
theorem ws_far {w w' : World} {ao : Option Addr} {n c : Nat} {L : List Nat} (h : HasWs w (.slice ao n c) L) (hs : w.heap.size ≤ w'.heap.size) (hb : ∀ a, ao = some a → w'.heap[a.block]? = w.heap[a.block]?) : HasWs w' (.slice ao n c) L := by
  obtain ⟨ao', cap, e, hc, hr⟩ := h
  injection e with e1 e2 e3
  subst e1
  refine ⟨ao, cap, by rw [e2, e3], hc, fun j a hj => ?_⟩
  obtain ⟨g, b, off, ea, hl, h0⟩ := hr j a hj
  have hh := hb _ ea
  have key : ∀ o, w'.cell? ⟨b, o, none⟩ = w.cell? ⟨b, o, none⟩ := fun o => World.cell?_of_block (w := w) (w' := w') (a := ⟨b, o, none⟩) hh
  exact ⟨g, b, off, ea, Nat.lt_of_lt_of_le hl hs, (key _).trans h0⟩
theorem ls_far {w w' : World} {ao : Option Addr} {n c : Nat} {L : List Lk} (h : HasLs w (.slice ao n c) L) (hs : w.heap.size ≤ w'.heap.size) (hb : ∀ a, ao = some a → w'.heap[a.block]? = w.heap[a.block]?) : HasLs w' (.slice ao n c) L := by
  obtain ⟨ao', cap, e, hc, hr⟩ := h
  injection e with e1 e2 e3
  subst e1
  refine ⟨ao, cap, by rw [e2, e3], hc, fun j a hj => ?_⟩
  obtain ⟨g, b, off, ea, hl, h0, h1, h2, h3⟩ := hr j a hj
  have hh := hb _ ea
  have key : ∀ o, w'.cell? ⟨b, o, none⟩ = w.cell? ⟨b, o, none⟩ := fun o => World.cell?_of_block (w := w) (w' := w') (a := ⟨b, o, none⟩) hh
  exact ⟨g, b, off, ea, Nat.lt_of_lt_of_le hl hs, (key _).trans h0, (key _).trans h1, (key _).trans h2, (key _).trans h3⟩
theorem five_far (W : World) (b : Nat) (x0 x1 x2 x3 x4 : Value) : (∀ k, k ≠ b → (((((W.setCell ⟨b, 0, none⟩ x0).setCell ⟨b, 1, none⟩ x1).setCell ⟨b, 2, none⟩ x2).setCell ⟨b, 3, none⟩ x3).setCell ⟨b, 4, none⟩ x4).heap[k]? = W.heap[k]?) ∧ (((((W.setCell ⟨b, 0, none⟩ x0).setCell ⟨b, 1, none⟩ x1).setCell ⟨b, 2, none⟩ x2).setCell ⟨b, 3, none⟩ x3).setCell ⟨b, 4, none⟩ x4).heap.size = W.heap.size := by
  refine ⟨fun k hk => ?_, by simp [World.setCell]⟩
  simp only [World.setCell, Array.getElem?_modify, if_neg (fun e => hk (Eq.symm e))]
theorem set_five {W : World} {b : Nat} {p q r s t : Value} {T : TypeId} (h : W.heap[b]? = some (.cells #[p, q, r, s, t] T)) (x0 x1 x2 x3 x4 : Value) : (((((W.setCell ⟨b, 0, none⟩ x0).setCell ⟨b, 1, none⟩ x1).setCell ⟨b, 2, none⟩ x2).setCell ⟨b, 3, none⟩ x3).setCell ⟨b, 4, none⟩ x4).heap[b]? = some (.cells #[x0, x1, x2, x3, x4] T) := by
  have hlt := some_lt h
  simp only [World.setCell, Array.getElem?_modify]
  simp [h]
end Go.Proofs.YtamedcnjanichaaDoor.Hi
