/- slices.Clone at words and links: copies in new memory. (genclone.py) -/
import Derived.Test.YtodilocmfdeehaaGreatDoorHsA
import Derived.Lib.SliceRun
namespace Go.Proofs.YtodilocmfdeehaaGreatDoor.Hi
open Go.RowKit Go.Extern Go.Shelf

attribute [local go_sem] Oper.semAt_some

theorem ws_cells {w : World} {ad : Addr} {n cap : Nat} {xs : List Nat} (h : HasWs w (.slice (some ad) n cap) xs) : ∀ j u, (wvs xs)[j]? = some u → w.cell? (ad.add j) = some u := fun j u hj => by
  unfold wvs at hj
  rw [List.getElem?_map] at hj
  obtain ⟨a, ha, rfl⟩ := Option.map_eq_some_iff.1 hj
  obtain ⟨_, b', off', e, _, q⟩ := h.at ha
  cases e
  rw [Addr.add_lit]
  exact q
theorem ls_cells {w : World} {ad : Addr} {n cap : Nat} {xs : List Lk} (h : HasLs w (.slice (some ad) n cap) xs) : ∀ j u, (lvs xs)[j]? = some u → w.cell? (ad.add j) = some u := fun j u hj => by
  have hlt : j < xs.length * 4 := by have := (List.getElem?_eq_some_iff.1 hj).1; rw [lvs_len] at this; exact this
  have hx : xs[j / 4]? = some xs[j / 4] := List.getElem?_eq_getElem (by omega)
  obtain ⟨_, b, off, e, _, h0, h1, h2, h3⟩ := h.at hx
  obtain ⟨g0, g1, g2, g3⟩ := lvs_get xs (j / 4) _ hx
  obtain rfl : ad = ⟨b, off, none⟩ := Option.some.inj e
  rw [Addr.add_lit]
  rcases (show j = j / 4 * 4 ∨ j = j / 4 * 4 + 1 ∨ j = j / 4 * 4 + 2 ∨ j = j / 4 * 4 + 3 by omega) with hj' | hj' | hj' | hj'
  · rw [hj'] at hj ⊢; rw [g0] at hj; cases hj; exact h0
  · rw [hj'] at hj ⊢; rw [g1] at hj; cases hj; exact h1
  · rw [hj'] at hj ⊢; rw [g2] at hj; cases hj; exact h2
  · rw [hj'] at hj ⊢; rw [g3] at hj; cases hj; exact h3
theorem own_empty (w : World) (T : TypeId) (z : Nat) : (w.alloc (.cells #[] T)).ownsRow w.heap.size T z (.slice (some ⟨w.heap.size, 0, none⟩) 0 0) 0 [] := ⟨by simp, .inr ⟨w.heap.size, 0, #[], rfl, Nat.le_refl _, heap_newW _ _, Nat.le_refl _, Nat.zero_le _, by simp, by simp⟩⟩

end Go.Proofs.YtodilocmfdeehaaGreatDoor.Hi
