/- strings.Join over a row of the call's own; how long words and their join are. -/
import Derived.Test.YthgmhhlgjooeaaaDoorText
namespace Go.Proofs.YthgmhhlgjooeaaaDoor.F1
open Go.RowKit Go.Extern

theorem numText_len (n : Int) (h : in64 n) : (numText n).length ≤ 31 := by
  unfold numText
  split
  · have hall : ∀ i, i < 20 → (numWords.getD i []).length ≤ 31 := by decide
    exact hall _ (by omega)
  · have := Lib.itoa_length_le n h.1 h.2
    simp; omega

theorem inter_len (sep : List UInt8) : ∀ (xs : List (List UInt8)), (∀ l ∈ xs, l.length ≤ 40) → (sep.intercalate xs).length ≤ xs.length * (40 + sep.length)
  | [], _ => by simp
  | [a], h => by
    have := h a (by simp)
    simp [List.intercalate]; omega
  | a :: b :: xs, h => by
    have h1 := h a (by simp)
    have h2 := inter_len sep (b :: xs) (fun l hl => h l (by simp at hl ⊢; right; exact hl))
    have e : sep.intercalate (a :: b :: xs) = a ++ (sep ++ sep.intercalate (b :: xs)) := by simp [List.intercalate, List.intersperse]
    rw [e, List.length_append, List.length_append, List.length_cons, Nat.add_mul]
    omega

theorem join_calls (base : Nat) (xs : List (List UInt8)) (pv : Value) (w : World) (h : w.ownsRow base 9 1 pv xs.length (xs.map fun l => Value.string ⟨l.toArray⟩)) (hl : ∀ l ∈ xs, l.length ≤ 40) (hn : xs.length ≤ 100) :
    Calls Tryd.prog 15 #[pv, .string ⟨#[58, 32]⟩] w fun e w' => e = .returned (.string ⟨(Lib.join xs [58, 32]).toArray⟩) ∧ Below w.heap.size w w' := by
  rcases h.2 with ⟨rfl, h0⟩ | ⟨g, cap, cur, rfl, hg, hh, hcap, _, _, htk⟩
  · have : xs = [] := List.eq_nil_of_length_eq_zero h0
    subst this
    refine (Tryd.strings_Join_none none 0 ⟨#[58, 32]⟩ w).mono ?_
    rintro e w' ⟨rfl, rfl⟩
    exact ⟨rfl, Below.refl _ _⟩
  · have e1 : (xs.map fun l => ByteArray.mk l.toArray).length = xs.length := by simp
    have e2 : (xs.map fun l => ByteArray.mk l.toArray).map (·.data.toList) = xs := by
      rw [List.map_map]
      exact (List.map_congr_left (fun l _ => by simp)).trans (List.map_id xs)
    have hj := Tryd.strings_Join g 0 cap (xs.map fun l => ByteArray.mk l.toArray) ⟨#[58, 32]⟩ w (fun j x hx => by
        have hc := h.cellAt j (by
          have := (List.getElem?_eq_some_iff.1 hx).1
          rw [e1] at this; omega)
        rw [Nat.zero_add, hc, List.getElem?_map]
        rw [List.getElem?_map] at hx
        cases hxj : xs[j]? with
        | none => rw [hxj] at hx; cases hx
        | some l => rw [hxj] at hx; cases hx; rfl) (lt_of_get hh) (by rw [e1]; omega) (by rw [e1]; exact hcap) (by
        rw [e2]
        have := inter_len [58, 32] xs hl
        unfold Lib.join
        simp at this
        show (List.intercalate [58, 32] xs).length ≤ _
        omega)
    rw [e1, e2] at hj
    exact hj
end Go.Proofs.YthgmhhlgjooeaaaDoor.F1
