/- The contracts of fault.At, of api.Fault's Unwrap and of First over this translation: what each call answers, and what becomes of the world. -/
import Derived.Test.YtbkclhaonbjobaaGreatProg
import Derived.WalkKit
import Derived.WalkSpells
import Derived.WalkLawsBesides
import Derived.LaidEql
namespace Go.Proofs.YtbkclhaonbjobaaGreat
open Go.RowKit

/-- At of an error that is not nil: one new block, that fault. -/
theorem at_some (k n : Int) (t : TypeId) (v : Value) (w : World) :
    Calls Tryz.prog 60 #[.int .i64 k, .int .i64 n, .iface t v] w fun e w' => e = .returned (.iface 141 (.pointer (some ⟨w.heap.size, 0, none⟩))) ∧ w' = w.alloc (.cells #[.int .i64 k, .int .i64 n, .iface t v] 143) := by
  go_enter Tryz.func60, Tryz.ntmps60
  go_wp2
  go_ret
  exact ⟨rfl, rfl⟩

theorem at_nil (k n : Int) (w : World) :
    Calls Tryz.prog 60 #[.int .i64 k, .int .i64 n, .nilIface] w fun e w' => e = .returned .nilIface ∧ w' = w := by
  go_enter Tryz.func60, Tryz.ntmps60
  go_wp2
  go_ret
  exact ⟨rfl, rfl⟩

/-- The chain of faults with these places that ends in the value tv. -/
def IsErr (w : World) (tv : Value) : List (Int × Int) → Value → Prop
  | [], v => v = tv
  | p :: ps, v => ∃ (b : Nat) (u : Value), v = .iface 141 (.pointer (some ⟨b, 0, none⟩)) ∧ w.heap[b]? = some (.cells #[.int .i64 p.1, .int .i64 p.2, u] 143) ∧ IsErr w tv ps u

/-- Every fault's block stays as it was. -/
def Keeps (w w' : World) : Prop := ∀ (b : Nat) (c : Array Value), w.heap[b]? = some (.cells c 143) → w'.heap[b]? = some (.cells c 143)

theorem Keeps.refl (w : World) : Keeps w w := fun _ _ h => h
theorem Keeps.trans {a b c : World} (h : Keeps a b) (k : Keeps b c) : Keeps a c := fun x y z => k x y (h x y z)
theorem lt_of_get {w : World} {b : Nat} {o : Obj} (h : w.heap[b]? = some o) : b < w.heap.size := by
  rcases Nat.lt_or_ge b w.heap.size with h' | h'
  · exact h'
  · rw [Array.getElem?_eq_none h'] at h; cases h
theorem Below.keeps {w w' : World} (h : Below w.heap.size w w') : Keeps w w' := fun b c hb => by
  rw [h.block b (lt_of_get hb)]; exact hb

theorem IsErr.keep {w w' : World} (hk : Keeps w w') {tv : Value} : ∀ {ps : List (Int × Int)} {v : Value}, IsErr w tv ps v → IsErr w' tv ps v
  | [], _, h => h
  | _ :: _, _, ⟨b, u, e, hb, hr⟩ => ⟨b, u, e, hk _ _ hb, IsErr.keep hk hr⟩

/-- All blocks but one are as they were. -/
structure Touch (t : Nat) (w w' : World) : Prop where
  os : w'.os = w.os
  tape : w'.tape = w.tape
  output : w'.output = w.output
  size : w.heap.size ≤ w'.heap.size
  block : ∀ k, k < w.heap.size → k ≠ t → w'.heap[k]? = w.heap[k]?

theorem Touch.keeps {t : Nat} {w w' : World} (h : Touch t w w') {v : Array Value} {T : TypeId} (ht : w.heap[t]? = some (.cells v T)) (hT : T ≠ 143) : Keeps w w' := fun b c hb => by
  rw [h.block b (lt_of_get hb) (fun e => by
    subst e
    rw [ht] at hb
    simp only [Option.some.injEq, Obj.cells.injEq] at hb
    exact hT hb.2.1)]
  exact hb
theorem Touch.below {t B : Nat} {w w' : World} (h : Touch t w w') (hB : B ≤ t) (hs : t < w.heap.size) : Below B w w' :=
  ⟨h.os, h.tape, h.output, h.size, fun k hk => h.block k (by omega) (by omega)⟩

theorem cell_of_fault {w : World} {b : Nat} {c0 c1 c2 : Value} (h : w.heap[b]? = some (.cells #[c0, c1, c2] 143)) :
    w.cell? ⟨b, 0, none⟩ = some c0 ∧ w.cell? ⟨b, 1, none⟩ = some c1 ∧ w.cell? ⟨b, 2, none⟩ = some c2 := by
  simp [World.cell?, h]
end Go.Proofs.YtbkclhaonbjobaaGreat
