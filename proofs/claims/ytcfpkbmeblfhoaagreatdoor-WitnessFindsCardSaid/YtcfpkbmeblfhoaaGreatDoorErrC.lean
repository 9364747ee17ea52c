/- How chains of faults lie in memory (IsErr), and what errors.As answers over them, by its own text: at a target of faults, and at a target of numbers. -/
import Derived.Test.YtcfpkbmeblfhoaaGreatDoorErrA
import Derived.Test.YtcfpkbmeblfhoaaGreatDoorErrB
import Derived.Test.YtcfpkbmeblfhoaaGreatDoorErrX
import Derived.Stop.Asserts
namespace Go.Proofs.YtcfpkbmeblfhoaaGreatDoor
open Go.RowKit Go.Extern

/-- The chain of faults with these places that ends in the value tv. -/
def IsErr (w : World) (tv : Value) : List (Int × Int) → Value → Prop
  | [], v => v = tv
  | p :: ps, v => ∃ (b : Nat) (u : Value), v = .iface 86 (.pointer (some ⟨b, 0, none⟩)) ∧ w.heap[b]? = some (.cells #[.int .i64 p.1, .int .i64 p.2, u] 90) ∧ IsErr w tv ps u

/-- Every fault's block stays as it was. -/
def Keeps (w w' : World) : Prop := ∀ (b : Nat) (c : Array Value), w.heap[b]? = some (.cells c 90) → w'.heap[b]? = some (.cells c 90)

theorem Keeps.refl (w : World) : Keeps w w := fun _ _ h => h
theorem Keeps.trans {a b c : World} (h : Keeps a b) (k : Keeps b c) : Keeps a c := fun x y z => k x y (h x y z)
theorem lt_of_get {w : World} {b : Nat} {o : Obj} (h : w.heap[b]? = some o) : b < w.heap.size := by
  rcases Nat.lt_or_ge b w.heap.size with h' | h'
  · exact h'
  · rw [Array.getElem?_eq_none h'] at h; cases h
theorem Below.keeps {w w' : World} (h : Below w.heap.size w w') : Keeps w w' := fun b c hb => by
  rw [h.block b (lt_of_get hb)]; exact hb

theorem IsErr.keep {w w' : World} (hk : Keeps w w') {tv : Value} : ∀ {ps : List (Int × Int)} {v : Value}, IsErr w tv ps v → IsErr w' tv ps v
  | [], _, h => h
  | _ :: _, _, ⟨b, u, e, hb, hr⟩ => ⟨b, u, e, hk _ _ hb, IsErr.keep hk hr⟩

/-- All blocks but one are as they were. -/
structure Touch (t : Nat) (w w' : World) : Prop where
  os : w'.os = w.os
  tape : w'.tape = w.tape
  output : w'.output = w.output
  size : w.heap.size ≤ w'.heap.size
  block : ∀ k, k < w.heap.size → k ≠ t → w'.heap[k]? = w.heap[k]?

theorem Touch.keeps {t : Nat} {w w' : World} (h : Touch t w w') {v : Array Value} {T : TypeId} (ht : w.heap[t]? = some (.cells v T)) (hT : T ≠ 90) : Keeps w w' := fun b c hb => by
  rw [h.block b (lt_of_get hb) (fun e => by
    subst e
    rw [ht] at hb
    simp only [Option.some.injEq, Obj.cells.injEq] at hb
    exact hT hb.2.1)]
  exact hb
theorem Touch.below {t B : Nat} {w w' : World} (h : Touch t w w') (hB : B ≤ t) (hs : t < w.heap.size) : Below B w w' :=
  ⟨h.os, h.tape, h.output, h.size, fun k hk => h.block k (by omega) (by omega)⟩

/-- errors.As of nil. -/
theorem as_nil (t : Value) (w : World) :
    Calls Tryz.prog 34 #[.nilIface, t] w fun e w' => e = .returned (.bool false) ∧ w' = w := by
  go_enter Tryz.func34, Tryz.ntmps34
  go_wp2
  go_ret
  exact ⟨rfl, rfl⟩
set_option maxHeartbeats 4000000 in
/-- the inner errors.as: a fault at a target of faults. -/
theorem as32_hit (e t a : Addr) (old : Value) (w : World) (ha : w.cell? a = some (.pointer (some t))) (ht0 : w.cell? t = some old) (hf0 : w.frozen? t = false) :
    Calls Tryz.prog 59 #[.iface 86 (.pointer (some e)), .iface 88 (.pointer (some t)), .agg #[.pointer (some ⟨1, 88, none⟩), .pointer (some a), .int .u64 150], .iface 180 (.agg #[.pointer (some ⟨1, 86, none⟩)])] w fun ev w' =>
      ev = .returned (.bool true) ∧ w' = ((w.alloc (.cells #[.pointer (some ⟨1, 88, none⟩), .pointer (some a), .int .u64 150] 140)).alloc (.cells #[.pointer (some e)] 86)).setCell t (.pointer (some e)) := by
  have h33 := x33
  have h95 := x95
  have h44 := x44
  have h29 := x29
  have h45 := x45
  have f1 := Tryz.typeOf30
  have f2 := Tryz.methodAssignableTo
  have f3 := Tryz.asg3030
  have f4 := Tryz.valueOf30
  have htl : t.block < w.heap.size := by
    rcases Nat.lt_or_ge t.block w.heap.size with h | h
    · exact h
    · simp [World.cell?, Array.getElem?_eq_none h] at ht0
  have hal : a.block < w.heap.size := by
    rcases Nat.lt_or_ge a.block w.heap.size with h | h
    · exact h
    · simp [World.cell?, Array.getElem?_eq_none h] at ha
  have el := Tryz.elemV32 a t (w.alloc (.cells #[.pointer (some ⟨1, 88, none⟩), .pointer (some a), .int .u64 150] 140)) (by rw [World.cell?_alloc_lt _ _ a hal]; exact ha)
  have st := Tryz.set30 t ⟨w.heap.size + 1, 0, none⟩ e old ((w.alloc (.cells #[.pointer (some ⟨1, 88, none⟩), .pointer (some a), .int .u64 150] 140)).alloc (.cells #[.pointer (some e)] 86))
    (by rw [World.cell?_alloc_at _ _ _ _ (by simp)]; rfl)
    (by rw [World.cell?_alloc_lt _ _ t (by simp; omega), World.cell?_alloc_lt _ _ t htl]; exact ht0)
    (by rw [World.frozen?_alloc_old _ _ t (by simp; omega), World.frozen?_alloc_old _ _ t (Nat.ne_of_lt htl)]; exact hf0)
  go_enter Tryz.func59, Tryz.ntmps59
  go_wp2
  refine wp_loop_rounds 1 ?_
  rw [rounds_succ]
  go_wp2
  go_ret
  exact ⟨rfl, rfl⟩
end Go.Proofs.YtcfpkbmeblfhoaaGreatDoor
