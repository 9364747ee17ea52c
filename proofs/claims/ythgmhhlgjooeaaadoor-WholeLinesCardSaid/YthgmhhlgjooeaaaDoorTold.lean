/- ref01.Twin: a copy of a list of places; ref01.Told: what counts of such a chain. -/
import Derived.Test.YthgmhhlgjooeaaaDoorText
import Derived.Test.YthgmhhlgjooeaaaDoorChain
import Derived.Test.YthgmhhlgjooeaaaDoorPlaces
namespace Go.Proofs.YthgmhhlgjooeaaaDoor.F1
open Go.RowKit Go.Extern

theorem flat_take (ps : List (Int × Int)) (k : Nat) (p : Int × Int) (h : ps[k]? = some p) : flat (ps.take (k + 1)) = flat (ps.take k) ++ [.int .i64 p.1, .int .i64 p.2] := by
  obtain ⟨hlt, he⟩ := List.getElem?_eq_some_iff.1 h
  rw [List.take_succ_eq_append_getElem hlt, flat_append, he]
  rfl
theorem places_at {w : World} {ao : Option Addr} {cap : Nat} {ps : List (Int × Int)} (h : HasPlaces w (.slice ao ps.length cap) ps) {k : Nat} {p : Int × Int} (hp : ps[k]? = some p) :
    ∃ b off, ao = some ⟨b, off, none⟩ ∧ b < w.heap.size ∧ w.cell? ⟨b, off + k * 2, none⟩ = some (.int .i64 p.1) ∧ w.cell? ⟨b, off + k * 2 + 1, none⟩ = some (.int .i64 p.2) := by
  obtain ⟨ao', cap', e, hc⟩ := h
  cases e
  exact hc k p hp

theorem places_take {w : World} {ao : Option Addr} {cap : Nat} {ps : List (Int × Int)} (h : HasPlaces w (.slice ao ps.length cap) ps) (hn : 64 ≤ ps.length) : HasPlaces w (.slice ao 64 cap) (ps.take 64) := by
  obtain ⟨ao', cap', e, hc⟩ := h
  cases e
  refine ⟨ao, cap, by rw [List.length_take, Nat.min_eq_left hn], fun j p hj => hc j p ?_⟩
  have hlt := (List.getElem?_eq_some_iff.1 hj).1
  rw [List.getElem?_take_of_lt (by rw [List.length_take] at hlt; omega)] at hj
  exact hj
theorem row_slice {w : World} {base n : Nat} {xs : List Value} {mv : Value} (h : w.ownsRow base 37 2 mv n xs) : ∃ ao cap, mv = .slice ao n cap := by
  rcases h.2 with ⟨h, h'⟩ | ⟨g, cap, cur, h, _⟩
  · exact ⟨none, 0, by rw [h']; exact h⟩
  · exact ⟨_, cap, h⟩
/-- the number that is told of a chain of so many places. -/
def toldCode (n : Int) (ps : List (Int × Int)) : Int := if ps.length < 64 then n else 0

theorem ownsRow_base {w : World} {base base' : Nat} {e : TypeId} {size : Nat} {v : Value} {n : Nat} {xs : List Value} (h : w.ownsRow base e size v n xs) (hb : base' ≤ base) : w.ownsRow base' e size v n xs := by
  obtain ⟨h1, h2⟩ := h
  refine ⟨h1, ?_⟩
  rcases h2 with h2 | ⟨g, cap, cur, hv, hg, r⟩
  · exact Or.inl h2
  · exact Or.inr ⟨g, cap, cur, hv, Nat.le_trans hb hg, r⟩
theorem cell_two {w : World} {b : Nat} {c0 c1 : Value} {T : TypeId} (h : w.heap[b]? = some (.cells #[c0, c1] T)) :
    w.cell? ⟨b, 0, none⟩ = some c0 ∧ w.cell? ⟨b, 1, none⟩ = some c1 ∧ w.frozen? ⟨b, 0, none⟩ = false ∧ w.frozen? ⟨b, 1, none⟩ = false := by
  simp [World.cell?, World.frozen?, h]

end Go.Proofs.YthgmhhlgjooeaaaDoor.F1
