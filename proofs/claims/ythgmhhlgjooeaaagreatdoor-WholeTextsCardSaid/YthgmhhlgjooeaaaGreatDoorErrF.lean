/- errors.As, whole: at a target of faults where the error is a fault or a number; at a target of numbers over a chain that ends in a number or in nothing. -/
import Derived.Test.YthgmhhlgjooeaaaGreatDoorErrE
namespace Go.Proofs.YthgmhhlgjooeaaaGreatDoor
open Go.RowKit Go.Extern

/-- what errors.As lays ahead of the inner call. -/
theorem as_facts (w : World) (hg : w.cell? ⟨0, 0, none⟩ = some (.iface 98 (.agg #[.pointer (some ⟨5, 26, none⟩)]))) : 0 < w.heap.size := by
  rcases Nat.eq_zero_or_pos w.heap.size with h0 | h
  · simp [World.cell?, h0] at hg
  · exact h

/-- the world that the inner call of errors.As begins in. -/
def asW (w : World) (T : Nat) (t : Addr) : World :=
  (w.alloc (.cells #[.pointer (some t)] T)).alloc (.cells #[.pointer (some ⟨5, T, none⟩), .pointer (some ⟨w.heap.size, 0, none⟩), .int .u64 150] 90)

set_option maxHeartbeats 4000000 in
theorem as32_calls (t : Addr) (v x : Value) (T : Nat) (w : World) (Q : Ending → World → Prop) (hv : v = .iface T x) (hg : w.cell? ⟨0, 0, none⟩ = some (.iface 98 (.agg #[.pointer (some ⟨5, 26, none⟩)])))
    (hin : Calls Tryz.prog 40 #[v, .iface 43 (.pointer (some t)), .agg #[.pointer (some ⟨5, 43, none⟩), .pointer (some ⟨w.heap.size, 0, none⟩), .int .u64 150], .iface 98 (.agg #[.pointer (some ⟨5, 41, none⟩)])] (asW w 43 t) fun e w' => ∃ b : Bool, e = .returned (.bool b) ∧ Q (.returned (.bool b)) w') :
    Calls Tryz.prog 14 #[v, .iface 43 (.pointer (some t))] w Q := by
  subst hv
  have h29 := x29
  have h30 := x30
  have h31 := x31
  have h85 := x85
  have h97 := x97
  have h98 := x98
  have f1 := Tryz.valueOf32
  have f2 := Tryz.type32
  have f3 := Tryz.methodKind
  have f4 := Tryz.methodElem
  have f5 := Tryz.methodImplements
  have f6 := Tryz.kind32
  have f7 := Tryz.kind30
  have f8 := Tryz.elem32
  have f9 := Tryz.implements30
  have hlt := as_facts w hg
  have n8 := Tryz.isNil32 ⟨w.heap.size, 0, none⟩ t (asW w 43 t) (by simp [asW])
  have hg2 : (asW w 43 t).cell? ⟨0, 0, none⟩ = some (.iface 98 (.agg #[.pointer (some ⟨5, 26, none⟩)])) := by
    unfold asW
    rw [World.cell?_alloc_lt _ _ ⟨0, 0, none⟩ (by simp), World.cell?_alloc_lt _ _ ⟨0, 0, none⟩ hlt]; exact hg
  have Hin := hin
  clear hin
  unfold asW at n8 hg2 Hin
  have HIN : Hid (Calls Tryz.prog 40 #[.iface T x, .iface 43 (.pointer (some t)), .agg #[.pointer (some ⟨5, 43, none⟩), .pointer (some ⟨w.heap.size, 0, none⟩), .int .u64 150], .iface 98 (.agg #[.pointer (some ⟨5, 41, none⟩)])] ((w.alloc (.cells #[.pointer (some t)] 43)).alloc (.cells #[.pointer (some ⟨5, 43, none⟩), .pointer (some ⟨w.heap.size, 0, none⟩), .int .u64 150] 90)) fun e w' => ∃ b : Bool, e = .returned (.bool b) ∧ Q (.returned (.bool b)) w') := Hin
  clear Hin
  go_enter Tryz.func14, Tryz.ntmps14
  go_wp2_with (go_at_call 40; refine HIN.out.mono ?_; rintro e w' ⟨b, rfl, hQ⟩)
  exact hQ

theorem heap_setCell_one {w : World} {b : Nat} {v u : Value} {T : TypeId} (hb : w.heap[b]? = some (.cells #[v] T)) : (w.setCell ⟨b, 0, none⟩ u).heap[b]? = some (.cells #[u] T) := by
  simp [World.setCell, Array.getElem?_modify, hb]
theorem asW_old {w : World} {T : Nat} {t : Addr} {k : Nat} (hk : k < w.heap.size) : (asW w T t).heap[k]? = w.heap[k]? := by
  unfold asW
  rw [Below.heap_alloc _ _ _ (by simp; omega), Below.heap_alloc _ _ _ hk]
theorem asW_size (w : World) (T : Nat) (t : Addr) : (asW w T t).heap.size = w.heap.size + 1 + 1 := by simp [asW]
theorem asW_below (w : World) (T : Nat) (t : Addr) : Below w.heap.size w (asW w T t) :=
  ((Below.refl _ _).alloc (Nat.le_refl _) _).alloc (by simp) _
theorem asW_cell (w : World) (T : Nat) (t : Addr) : (asW w T t).cell? ⟨w.heap.size, 0, none⟩ = some (.pointer (some t)) := by simp [asW]
theorem cell_one {w : World} {b : Nat} {v : Value} {T : TypeId} (hb : w.heap[b]? = some (.cells #[v] T)) : w.cell? ⟨b, 0, none⟩ = some v ∧ w.frozen? ⟨b, 0, none⟩ = false := by
  simp [World.cell?, World.frozen?, hb]
theorem touch_end {w W : World} {tb : Nat} {old u : Value} {T : TypeId} {A B : Obj} (ht : w.heap[tb]? = some (.cells #[old] T)) (hW : Below w.heap.size w W) :
    (((W.alloc A).alloc B).setCell ⟨tb, 0, none⟩ u).heap[tb]? = some (.cells #[u] T) ∧ Touch tb w (((W.alloc A).alloc B).setCell ⟨tb, 0, none⟩ u) := by
  have hlt := lt_of_get ht
  have hs := hW.size
  refine ⟨heap_setCell_one (v := old) ?_, ⟨?_, ?_, ?_, ?_, fun k hk hne => ?_⟩⟩
  · rw [Below.heap_alloc _ _ _ (by simp; omega), Below.heap_alloc _ _ _ (by omega), hW.block tb hlt]; exact ht
  · exact hW.os
  · exact hW.tape
  · exact hW.output
  · simp; omega
  · rw [Below.heap_setCell _ _ _ _ hne, Below.heap_alloc _ _ _ (by simp; omega), Below.heap_alloc _ _ _ (by omega), hW.block k hk]

/-- errors.As of a fault at a target of faults: true; the target is that fault; all else is as it was. -/
theorem as_fault (e : Addr) (tb : Nat) (old : Value) (w : World) (hg : w.cell? ⟨0, 0, none⟩ = some (.iface 98 (.agg #[.pointer (some ⟨5, 26, none⟩)]))) (ht : w.heap[tb]? = some (.cells #[old] 41)) :
    Calls Tryz.prog 14 #[.iface 41 (.pointer (some e)), .iface 43 (.pointer (some ⟨tb, 0, none⟩))] w fun ev w' => ev = .returned (.bool true) ∧ w'.heap[tb]? = some (.cells #[.pointer (some e)] 41) ∧ Touch tb w w' := by
  have hlt := lt_of_get ht
  have htW : (asW w 43 ⟨tb, 0, none⟩).heap[tb]? = some (.cells #[old] 41) := by rw [asW_old hlt]; exact ht
  refine as32_calls ⟨tb, 0, none⟩ _ _ 41 w _ rfl hg ?_
  refine (as32_hit e ⟨tb, 0, none⟩ ⟨w.heap.size, 0, none⟩ old _ (asW_cell w 43 _) (cell_one htW).1 (cell_one htW).2).mono ?_
  rintro ev w' ⟨rfl, rfl⟩
  have h := touch_end (u := .pointer (some e)) (A := .cells #[.pointer (some ⟨5, 43, none⟩), .pointer (some ⟨w.heap.size, 0, none⟩), .int .u64 150] 90) (B := .cells #[.pointer (some e)] 41) ht (asW_below w 43 ⟨tb, 0, none⟩)
  exact ⟨true, rfl, rfl, h.1, h.2⟩

/-- errors.As of a number at a target of faults: false; new blocks alone. -/
theorem as_fault_no (x : Value) (t : Addr) (w : World) (hg : w.cell? ⟨0, 0, none⟩ = some (.iface 98 (.agg #[.pointer (some ⟨5, 26, none⟩)]))) :
    Calls Tryz.prog 14 #[.iface 29 x, .iface 43 (.pointer (some t))] w fun ev w' => ev = .returned (.bool false) ∧ Below w.heap.size w w' := by
  refine as32_calls t _ _ 29 w _ rfl hg ?_
  refine (as32_num x t ⟨w.heap.size, 0, none⟩ _).mono ?_
  rintro ev w' ⟨rfl, rfl⟩
  exact ⟨false, rfl, rfl, (asW_below w 43 t).alloc (by rw [asW_size]; omega) _⟩

theorem isErr_iface {w : World} {ps : List (Int × Int)} {n : Int} {v : Value} (h : IsErr w (.iface 29 (.int .i64 n)) ps v) : ∃ T x, v = .iface T x := by
  cases ps with
  | nil => exact ⟨29, .int .i64 n, h⟩
  | cons p ps => obtain ⟨b, u, e, _⟩ := h; exact ⟨41, _, e⟩

end Go.Proofs.YthgmhhlgjooeaaaGreatDoor
