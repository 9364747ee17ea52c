/- the reference's errors as plain values; viaductref10.firsts. -/
import Derived.Test.YtejpjbllonnafaaDoorDocCheck
import Derived.Test.YtejpjbllonnafaaDoorHrU
import Derived.Test.YtejpjbllonnafaaDoorHrY
namespace Go.Proofs.YtejpjbllonnafaaDoor.Hi
open Go.RowKit Go.Extern Go.Shelf

attribute [local go_sem] Oper.semAt_some

/-- an error told plainly. -/
def RA (w : World) (E : Int × List (Int × Int)) (e : Ending) (w' : World) : Prop := ∃ lo lc, e = .returned (.agg #[.int .i64 E.1, .slice lo E.2.length lc]) ∧ HasPlaces w' (.slice lo E.2.length lc) E.2 ∧ Below w.heap.size w w'
theorem pl_nil (w : World) : HasPlaces w (.slice none 0 0) [] := ⟨none, 0, rfl, fun j p hj => by simp at hj⟩
theorem pl_one {w : World} {g : Nat} {k a : Int} (h : w.heap[g]? = some (.cells #[.int .i64 k, .int .i64 a] 51)) : HasPlaces w (.slice (some ⟨g, 0, none⟩) 1 1) [(k, a)] := by
  refine ⟨some ⟨g, 0, none⟩, 1, rfl, fun j p hj => ?_⟩
  rcases j with _ | j
  · obtain rfl : (k, a) = p := by simpa using hj
    exact ⟨g, 0, rfl, some_lt h, by simp [World.cell?, h], by simp [World.cell?, h]⟩
  · simp at hj
theorem set_err {W : World} {b : Nat} {p q : Value} {T : TypeId} (h : W.heap[b]? = some (.cells #[p, q] T)) (x y : Value) : ((W.setCell ⟨b, 0, none⟩ x).setCell ⟨b, 1, none⟩ y).heap[b]? = some (.cells #[x, y] T) := by
  have hlt := some_lt h
  simp only [World.setCell, Array.getElem?_modify]
  simp [h]
theorem pl_far {w w' : World} {lo : Option Addr} {k c : Nat} {ps : List (Int × Int)} (h : HasPlaces w (.slice lo k c) ps) (hs : w.heap.size ≤ w'.heap.size) (hb : ∀ j, j < w.heap.size → (∃ a, lo = some a ∧ a.block = j) → w'.heap[j]? = w.heap[j]?) : HasPlaces w' (.slice lo k c) ps := by
  obtain ⟨ao, cap, e, hc⟩ := h
  injection e with e1 e2 e3
  subst e1
  refine ⟨lo, cap, by rw [e2, e3], fun j p hj => ?_⟩
  obtain ⟨b, off, ea, hl, h0, h1⟩ := hc j p hj
  have hk := hb b hl ⟨_, ea, rfl⟩
  exact ⟨b, off, ea, Nat.lt_of_lt_of_le hl hs, by rw [← h0]; simp [World.cell?, hk], by rw [← h1]; simp [World.cell?, hk]⟩

set_option maxRecDepth 100000 in
set_option maxHeartbeats 2000000 in
theorem bad_calls (c : Int) (lo : Option Addr) (k lc : Nat) (w : World) : Calls Tryd.prog 12 #[.agg #[.int .i64 c, .slice lo k lc]] w fun e w' => e = .returned (.bool (decide (c ≠ 0) || decide (0 < k))) ∧ Below w.heap.size w w' := by
  by_cases hc : c = 0
  · subst hc
    by_cases hk : 0 < k
    · have i1 : decide ((k : Int) > 0) = true := by simp; omega
      have i2 : decide (0 < k) = true := by simpa using hk
      go_enter Tryd.func12, Tryd.ntmps12
      go_wp2
      go_ret
      exact ⟨by simp [hk], (Below.refl _ _).alloc (Nat.le_refl _) _⟩
    · have i1 : decide ((k : Int) > 0) = false := by simp; omega
      have i2 : decide (0 < k) = false := by simpa using hk
      go_enter Tryd.func12, Tryd.ntmps12
      go_wp2
      go_ret
      exact ⟨by simp [hk], (Below.refl _ _).alloc (Nat.le_refl _) _⟩
  · have i1 : (c == 0) = false := by simpa using hc
    go_enter Tryd.func12, Tryd.ntmps12
    go_wp2
    go_ret
    exact ⟨by simp [hc], (Below.refl _ _).alloc (Nat.le_refl _) _⟩
end Go.Proofs.YtejpjbllonnafaaDoor.Hi
