/- rows of arcs, for the reference's Row and Graph. -/
import Derived.Test.YtnkfggccahohpaaDoorCsrChk
import Derived.Test.YtnkfggccahohpaaDoorFlat
import Derived.OwnWalk
namespace Go.Proofs.YtnkfggccahohpaaDoor
open Go.RowKit Go.Extern

attribute [local go_sem] Oper.semAt_some

/-- the row of a node. -/
def rowOf (zs : List (Int × Int × Int)) (v : Nat) (i : Nat) : List (Int × Int × Int) := (zs.take i).drop (firstAt zs v)
theorem rowOf_none (zs : List (Int × Int × Int)) (v : Nat) : rowOf zs v (firstAt zs v) = [] := by
  unfold rowOf
  rw [List.drop_eq_nil_iff, List.length_take]
  omega
theorem rowOf_next {zs : List (Int × Int × Int)} {v i : Nat} {a : Int × Int × Int} (ha : zs[i]? = some a) (h : firstAt zs v ≤ i) : rowOf zs v (i + 1) = rowOf zs v i ++ [a] := by
  unfold rowOf
  have hl := (List.getElem?_eq_some_iff.1 ha).1
  rw [List.take_add_one, ha, List.drop_append_of_le_length (by rw [List.length_take]; omega)]
  rfl
theorem rowOf_len {zs : List (Int × Int × Int)} (v i : Nat) : (rowOf zs v i).length ≤ zs.length := by
  unfold rowOf
  rw [List.length_drop, List.length_take]
  omega

/-- a row of arcs is no block of another type. -/
theorem own_not_box {w : World} {base n b : Nat} {v : Value} {xs : List Value} {c : Array Value} {T : TypeId} (h : w.ownsRow base 95 3 v n xs) (hb : w.heap[b]? = some (.cells c T)) (hT : T ≠ 95) : some b ≠ v.ownBlock := by
  rcases h.2 with ⟨rfl, _⟩ | ⟨g, cap, cur, rfl, _, hg, _⟩
  · intro e; cases e
  · intro e
    have e' : b = g := Option.some.inj e
    subst e'
    rw [hb] at hg
    injection hg with hg
    injection hg with h1 h2
    exact hT h2
theorem rowOf_all (zs : List (Int × Int × Int)) (v : Nat) : zs.take (firstAt zs v) ++ rowOf zs v (firstAt zs (v + 1)) = zs.take (firstAt zs (v + 1)) := by
  unfold rowOf
  have h := firstAt_mono zs (show v ≤ v + 1 by omega)
  conv => rhs; rw [← List.take_append_drop (firstAt zs v) (zs.take (firstAt zs (v + 1)))]
  rw [List.take_take, Nat.min_eq_left h]
/-- a row of arcs stays where only a block of another type is written. -/
theorem own_far {w w' : World} {base base' n b : Nat} {v : Value} {xs : List Value} {c : Array Value} {T : TypeId} (h : w.ownsRow base 95 3 v n xs) (hb : w.heap[b]? = some (.cells c T)) (hT : T ≠ 95) (hk : ∀ g, g ≠ b → w'.heap[g]? = w.heap[g]?) (hbb : base' ≤ base) : w'.ownsRow base' 95 3 v n xs := by
  have hne := own_not_box h hb hT
  obtain ⟨h1, h2⟩ := h
  refine ⟨h1, ?_⟩
  rcases h2 with h2 | ⟨g, cap, cur, e, hbs, hh, r⟩
  · exact Or.inl h2
  · subst e
    exact Or.inr ⟨g, cap, cur, rfl, by omega, (hk g (fun e => hne (by rw [e]; rfl))).trans hh, r⟩
theorem own_base {w : World} {B B' n : Nat} {v : Value} {xs : List Value} (h : w.ownsRow B' 95 3 v n xs) (hb : B ≤ B') : w.ownsRow B 95 3 v n xs := by
  obtain ⟨h1, h2⟩ := h
  refine ⟨h1, ?_⟩
  rcases h2 with h2 | ⟨g, cap, cur, e, hg, r⟩
  · exact Or.inl h2
  · exact Or.inr ⟨g, cap, cur, e, by omega, r⟩
/-- a node's row: its arcs. -/
def theRow (zs : List (Int × Int × Int)) (v : Nat) : List (Int × Int × Int) := rowOf zs v (firstAt zs (v + 1))
end Go.Proofs.YtnkfggccahohpaaDoor
