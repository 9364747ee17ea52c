/- A list of calls in memory. -/
import Derived.Test.YtlgdhoemjllfdaaPair
namespace Go.Proofs.Ytlgdhoemjllfdaa
open Go.RowKit

/-- a call: its kind, its place, its number. -/
abbrev Op3 := Int × Int × Int
def HasOps (w : World) (v : Value) (xs : List Op3) : Prop := ∃ ao cap, v = .slice ao xs.length cap ∧ ∀ j x, xs[j]? = some x → ∃ b off, ao = some ⟨b, off, none⟩ ∧ b < w.heap.size ∧ w.cell? ⟨b, off + j * 3, none⟩ = some (.int .u8 x.1) ∧ w.cell? ⟨b, off + j * 3 + 1, none⟩ = some (.int .i64 x.2.1) ∧ w.cell? ⟨b, off + j * 3 + 2, none⟩ = some (.int .u64 x.2.2)
theorem HasOps.at {w : World} {ao : Option Addr} {m cap : Nat} {xs : List Op3} (h : HasOps w (.slice ao m cap) xs) {j : Nat} {x : Op3} (hj : xs[j]? = some x) : ∃ b off, ao = some ⟨b, off, none⟩ ∧ b < w.heap.size ∧ w.cell? ⟨b, off + j * 3, none⟩ = some (.int .u8 x.1) ∧ w.cell? ⟨b, off + j * 3 + 1, none⟩ = some (.int .i64 x.2.1) ∧ w.cell? ⟨b, off + j * 3 + 2, none⟩ = some (.int .u64 x.2.2) := by
  obtain ⟨ao', cap', e, hc⟩ := h
  injection e with e1 e2 e3
  subst e1
  exact hc j x hj
theorem HasOps.keep {w w' : World} {v : Value} {xs : List Op3} (h : HasOps w v xs) (hb : Below w.heap.size w w') : HasOps w' v xs := by
  obtain ⟨ao, cap, e, hc⟩ := h
  refine ⟨ao, cap, e, fun j a hj => ?_⟩
  obtain ⟨b, off, ea, hl, h0, h1, h2⟩ := hc j a hj
  exact ⟨b, off, ea, Nat.lt_of_lt_of_le hl hb.size, (hb.cell (p := ⟨b, _, none⟩) hl).trans h0, (hb.cell (p := ⟨b, _, none⟩) hl).trans h1, (hb.cell (p := ⟨b, _, none⟩) hl).trans h2⟩
/-- the first calls of a list. -/
theorem HasOps.front {w : World} {ao : Option Addr} {cap : Nat} {xs : List Op3} (h : HasOps w (.slice ao xs.length cap) xs) {m : Nat} (hm : m ≤ xs.length) : HasOps w (.slice ao m cap) (xs.take m) := by
  have hlen : (xs.take m).length = m := by rw [List.length_take]; omega
  refine ⟨ao, cap, by rw [hlen], fun j x hj => h.at ?_⟩
  rw [List.getElem?_take] at hj
  split at hj
  · exact hj
  · cases hj
theorem trip_cells {w : World} {b : Nat} {c0 c1 c2 : Value} {T : TypeId} (h : w.heap[b]? = some (.cells #[c0, c1, c2] T)) : w.cell? ⟨b, 0, none⟩ = some c0 ∧ w.cell? ⟨b, 1, none⟩ = some c1 ∧ w.cell? ⟨b, 2, none⟩ = some c2 ∧ b < w.heap.size := ⟨by simp [World.cell?, h], by simp [World.cell?, h], by simp [World.cell?, h], lt_of_get h⟩
end Go.Proofs.Ytlgdhoemjllfdaa
