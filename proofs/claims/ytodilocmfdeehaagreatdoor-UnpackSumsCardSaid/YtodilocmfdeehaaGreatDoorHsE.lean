/- hier.turnChildren on a row of one's own. -/
import Derived.Test.YtodilocmfdeehaaGreatDoorHsD
import Derived.Test.YtodilocmfdeehaaGreatDoorHrJ
import Derived.Laws.OwnMore
import Derived.Deep.RegionHeld3
namespace Go.Proofs.YtodilocmfdeehaaGreatDoor.Hi
open Go.RowKit Go.Extern Go.Shelf

attribute [local go_sem] Oper.semAt_some

/-- a link turned about, in a hierarchy that had p up links and q down links. -/
def turnL (p q : Nat) (l : Lk) : Lk := if l.plain then l else ⟨l.hd, l.wt, q + l.rt, l.lf - p⟩
/-- nothing but the block g is written. -/
structure Touch (w w' : World) (g : Nat) : Prop where
  os : w'.os = w.os
  tape : w'.tape = w.tape
  output : w'.output = w.output
  size : w.heap.size ≤ w'.heap.size
  block : ∀ k, k < w.heap.size → k ≠ g → w'.heap[k]? = w.heap[k]?
theorem Touch.refl (w : World) (g : Nat) : Touch w w g := ⟨rfl, rfl, rfl, Nat.le_refl _, fun _ _ _ => rfl⟩
theorem Touch.below {w w' w2 : World} {g : Nat} (h : Touch w w' g) (hb : Below w'.heap.size w' w2) : Touch w w2 g :=
  ⟨hb.os.trans h.os, hb.tape.trans h.tape, hb.output.trans h.output, Nat.le_trans h.size hb.size, fun k hk hg => (hb.block k (Nat.lt_of_lt_of_le hk h.size)).trans (h.block k hk hg)⟩
theorem Touch.set {w w' : World} {g : Nat} (h : Touch w w' g) (i : Nat) (v : Value) : Touch w (w'.setCell ⟨g, i, none⟩ v) g :=
  ⟨h.os, h.tape, h.output, by simpa [World.setCell] using h.size, fun k hk hg => by
    have : (w'.setCell ⟨g, i, none⟩ v).heap[k]? = w'.heap[k]? := by simp only [World.setCell, Array.getElem?_modify, if_neg (fun e => hg (Eq.symm e))]
    exact this.trans (h.block k hk hg)⟩
theorem lvs_set2 : ∀ (L : List Lk) (k : Nat) (l : Lk) (x y : Nat), L[k]? = some l → ((lvs L).set (k * 4 + 2) (.int .u32 (x : Int))).set (k * 4 + 3) (.int .u32 (y : Int)) = lvs (L.set k ⟨l.hd, l.wt, x, y⟩)
  | [], k, l, x, y, h => by simp at h
  | a :: r, 0, l, x, y, h => by
    simp at h
    subst h
    simp [lvs]
  | a :: r, k + 1, l, x, y, h => by
    have ih := lvs_set2 r k l x y (by simpa using h)
    have e : ∀ r, lvs (a :: r) = [.int .u32 (a.hd : Int), .int .u64 (a.wt : Int), .int .u32 (a.lf : Int), .int .u32 (a.rt : Int)] ++ lvs r := fun r => by simp [lvs]
    rw [List.set_cons_succ, e, e, ← ih, List.set_append_right _ _ (by simp; omega), List.set_append_right _ _ (by simp; omega)]
    congr 2
    · congr 1
      · simp; omega
    · simp; omega
/-- the row when k links are turned. -/
def turnK (p q k : Nat) (L : List Lk) : List Lk := (L.take k).map (turnL p q) ++ L.drop k
theorem turnK_len (p q k : Nat) (L : List Lk) : (turnK p q k L).length = L.length := by simp [turnK]; omega
theorem turnK_get {p q k : Nat} {L : List Lk} {l : Lk} (h : L[k]? = some l) : (turnK p q k L)[k]? = some l := by
  have hk := (List.getElem?_eq_some_iff.1 h).1
  unfold turnK
  rw [List.getElem?_append_right (by simp; omega), List.getElem?_drop]
  simp
  rw [show k + (k - min k L.length) = k by omega]
  exact h
theorem turnK_step {p q k : Nat} {L : List Lk} {l : Lk} (h : L[k]? = some l) : turnK p q (k + 1) L = (turnK p q k L).set k (turnL p q l) := by
  have hk := (List.getElem?_eq_some_iff.1 h).1
  apply List.ext_getElem?
  intro i
  unfold turnK
  rw [List.take_add_one, h]
  rcases Nat.lt_trichotomy i k with h1 | h1 | h1
  · rw [List.getElem?_set_ne (by omega), List.getElem?_append_left (by simp; omega), List.getElem?_append_left (by simp; omega), List.map_append, List.getElem?_append_left (by simp; omega)]
  · subst h1
    rw [List.getElem?_set_self (by simp; omega), List.getElem?_append_left (by simp; omega), List.map_append, List.getElem?_append_right (by simp; omega)]
    simp [Nat.min_eq_left (Nat.le_of_lt hk)]
  · rw [List.getElem?_set_ne (by omega), List.getElem?_append_right (by simp; omega), List.getElem?_append_right (by simp; omega), List.getElem?_drop, List.getElem?_drop]
    simp
    congr 1
    omega
theorem turnK_all (p q : Nat) (L : List Lk) : turnK p q L.length L = L.map (turnL p q) := by simp [turnK]
theorem turnK_zero (p q : Nat) (L : List Lk) : turnK p q 0 L = L := by simp [turnK]

end Go.Proofs.YtodilocmfdeehaaGreatDoor.Hi
