/- errors.As, whole: at a target of faults where the error is a fault or a number; at a target of numbers over a chain that ends in a number or in nothing. -/
import Derived.Test.YtcfpkbmeblfhoaaGreatDoorErrE
namespace Go.Proofs.YtcfpkbmeblfhoaaGreatDoor
open Go.RowKit Go.Extern

/-- what errors.As lays ahead of the inner call. -/
theorem as_facts (w : World) (hg : w.cell? ⟨0, 0, none⟩ = some (.iface 180 (.agg #[.pointer (some ⟨1, 38, none⟩)]))) : 0 < w.heap.size := by
  rcases Nat.eq_zero_or_pos w.heap.size with h0 | h
  · simp [World.cell?, h0] at hg
  · exact h

/-- the world that the inner call of errors.As begins in. -/
def asW (w : World) (T : Nat) (t : Addr) : World :=
  (w.alloc (.cells #[.pointer (some t)] T)).alloc (.cells #[.pointer (some ⟨1, T, none⟩), .pointer (some ⟨w.heap.size, 0, none⟩), .int .u64 150] 140)

set_option maxHeartbeats 4000000 in
theorem as32_calls (t : Addr) (v x : Value) (T : Nat) (w : World) (Q : Ending → World → Prop) (hv : v = .iface T x) (hg : w.cell? ⟨0, 0, none⟩ = some (.iface 180 (.agg #[.pointer (some ⟨1, 38, none⟩)])))
    (hin : Calls Tryz.prog 59 #[v, .iface 88 (.pointer (some t)), .agg #[.pointer (some ⟨1, 88, none⟩), .pointer (some ⟨w.heap.size, 0, none⟩), .int .u64 150], .iface 180 (.agg #[.pointer (some ⟨1, 86, none⟩)])] (asW w 88 t) fun e w' => ∃ b : Bool, e = .returned (.bool b) ∧ Q (.returned (.bool b)) w') :
    Calls Tryz.prog 34 #[v, .iface 88 (.pointer (some t))] w Q := by
  subst hv
  have h29 := x29
  have h30 := x30
  have h31 := x31
  have h85 := x85
  have h97 := x97
  have h98 := x98
  have f1 := Tryz.valueOf32
  have f2 := Tryz.type32
  have f3 := Tryz.methodKind
  have f4 := Tryz.methodElem
  have f5 := Tryz.methodImplements
  have f6 := Tryz.kind32
  have f7 := Tryz.kind30
  have f8 := Tryz.elem32
  have f9 := Tryz.implements30
  have hlt := as_facts w hg
  have n8 := Tryz.isNil32 ⟨w.heap.size, 0, none⟩ t (asW w 88 t) (by simp [asW])
  have hg2 : (asW w 88 t).cell? ⟨0, 0, none⟩ = some (.iface 180 (.agg #[.pointer (some ⟨1, 38, none⟩)])) := by
    unfold asW
    rw [World.cell?_alloc_lt _ _ ⟨0, 0, none⟩ (by simp), World.cell?_alloc_lt _ _ ⟨0, 0, none⟩ hlt]; exact hg
  have Hin := hin
  clear hin
  unfold asW at n8 hg2 Hin
  have HIN : Hid (Calls Tryz.prog 59 #[.iface T x, .iface 88 (.pointer (some t)), .agg #[.pointer (some ⟨1, 88, none⟩), .pointer (some ⟨w.heap.size, 0, none⟩), .int .u64 150], .iface 180 (.agg #[.pointer (some ⟨1, 86, none⟩)])] ((w.alloc (.cells #[.pointer (some t)] 88)).alloc (.cells #[.pointer (some ⟨1, 88, none⟩), .pointer (some ⟨w.heap.size, 0, none⟩), .int .u64 150] 140)) fun e w' => ∃ b : Bool, e = .returned (.bool b) ∧ Q (.returned (.bool b)) w') := Hin
  clear Hin
  go_enter Tryz.func34, Tryz.ntmps34
  go_wp2_with (go_at_call 59; refine HIN.out.mono ?_; rintro e w' ⟨b, rfl, hQ⟩)
  exact hQ

set_option maxHeartbeats 4000000 in
theorem as77_calls (t : Addr) (v x : Value) (T : Nat) (w : World) (Q : Ending → World → Prop) (hv : v = .iface T x) (hg : w.cell? ⟨0, 0, none⟩ = some (.iface 180 (.agg #[.pointer (some ⟨1, 38, none⟩)])))
    (hin : Calls Tryz.prog 59 #[v, .iface 91 (.pointer (some t)), .agg #[.pointer (some ⟨1, 91, none⟩), .pointer (some ⟨w.heap.size, 0, none⟩), .int .u64 150], .iface 180 (.agg #[.pointer (some ⟨1, 60, none⟩)])] (asW w 91 t) fun e w' => ∃ b : Bool, e = .returned (.bool b) ∧ Q (.returned (.bool b)) w') :
    Calls Tryz.prog 34 #[v, .iface 91 (.pointer (some t))] w Q := by
  subst hv
  have h29 := x29
  have h30 := x30
  have h31 := x31
  have h85 := x85
  have h97 := x97
  have h98 := x98
  have f1 := Tryz.valueOf77
  have f2 := Tryz.type77
  have f3 := Tryz.methodKind
  have f4 := Tryz.methodElem
  have f5 := Tryz.methodImplements
  have f6 := Tryz.kind77
  have f7 := Tryz.kind24
  have f8 := Tryz.elem77
  have f9 := Tryz.implements24
  have hlt := as_facts w hg
  have n8 := Tryz.isNil77 ⟨w.heap.size, 0, none⟩ t (asW w 91 t) (by simp [asW])
  have hg2 : (asW w 91 t).cell? ⟨0, 0, none⟩ = some (.iface 180 (.agg #[.pointer (some ⟨1, 38, none⟩)])) := by
    unfold asW
    rw [World.cell?_alloc_lt _ _ ⟨0, 0, none⟩ (by simp), World.cell?_alloc_lt _ _ ⟨0, 0, none⟩ hlt]; exact hg
  have Hin := hin
  clear hin
  unfold asW at n8 hg2 Hin
  have HIN : Hid (Calls Tryz.prog 59 #[.iface T x, .iface 91 (.pointer (some t)), .agg #[.pointer (some ⟨1, 91, none⟩), .pointer (some ⟨w.heap.size, 0, none⟩), .int .u64 150], .iface 180 (.agg #[.pointer (some ⟨1, 60, none⟩)])] ((w.alloc (.cells #[.pointer (some t)] 91)).alloc (.cells #[.pointer (some ⟨1, 91, none⟩), .pointer (some ⟨w.heap.size, 0, none⟩), .int .u64 150] 140)) fun e w' => ∃ b : Bool, e = .returned (.bool b) ∧ Q (.returned (.bool b)) w') := Hin
  clear Hin
  go_enter Tryz.func34, Tryz.ntmps34
  go_wp2_with (go_at_call 59; refine HIN.out.mono ?_; rintro e w' ⟨b, rfl, hQ⟩)
  exact hQ

theorem heap_setCell_one {w : World} {b : Nat} {v u : Value} {T : TypeId} (hb : w.heap[b]? = some (.cells #[v] T)) : (w.setCell ⟨b, 0, none⟩ u).heap[b]? = some (.cells #[u] T) := by
  simp [World.setCell, Array.getElem?_modify, hb]
theorem asW_old {w : World} {T : Nat} {t : Addr} {k : Nat} (hk : k < w.heap.size) : (asW w T t).heap[k]? = w.heap[k]? := by
  unfold asW
  rw [Below.heap_alloc _ _ _ (by simp; omega), Below.heap_alloc _ _ _ hk]
theorem asW_size (w : World) (T : Nat) (t : Addr) : (asW w T t).heap.size = w.heap.size + 1 + 1 := by simp [asW]
theorem asW_below (w : World) (T : Nat) (t : Addr) : Below w.heap.size w (asW w T t) :=
  ((Below.refl _ _).alloc (Nat.le_refl _) _).alloc (by simp) _
theorem asW_cell (w : World) (T : Nat) (t : Addr) : (asW w T t).cell? ⟨w.heap.size, 0, none⟩ = some (.pointer (some t)) := by simp [asW]
theorem cell_one {w : World} {b : Nat} {v : Value} {T : TypeId} (hb : w.heap[b]? = some (.cells #[v] T)) : w.cell? ⟨b, 0, none⟩ = some v ∧ w.frozen? ⟨b, 0, none⟩ = false := by
  simp [World.cell?, World.frozen?, hb]
theorem touch_end {w W : World} {tb : Nat} {old u : Value} {T : TypeId} {A B : Obj} (ht : w.heap[tb]? = some (.cells #[old] T)) (hW : Below w.heap.size w W) :
    (((W.alloc A).alloc B).setCell ⟨tb, 0, none⟩ u).heap[tb]? = some (.cells #[u] T) ∧ Touch tb w (((W.alloc A).alloc B).setCell ⟨tb, 0, none⟩ u) := by
  have hlt := lt_of_get ht
  have hs := hW.size
  refine ⟨heap_setCell_one (v := old) ?_, ⟨?_, ?_, ?_, ?_, fun k hk hne => ?_⟩⟩
  · rw [Below.heap_alloc _ _ _ (by simp; omega), Below.heap_alloc _ _ _ (by omega), hW.block tb hlt]; exact ht
  · exact hW.os
  · exact hW.tape
  · exact hW.output
  · simp; omega
  · rw [Below.heap_setCell _ _ _ _ hne, Below.heap_alloc _ _ _ (by simp; omega), Below.heap_alloc _ _ _ (by omega), hW.block k hk]

/-- errors.As of a fault at a target of faults: true; the target is that fault; all else is as it was. -/
theorem as_fault (e : Addr) (tb : Nat) (old : Value) (w : World) (hg : w.cell? ⟨0, 0, none⟩ = some (.iface 180 (.agg #[.pointer (some ⟨1, 38, none⟩)]))) (ht : w.heap[tb]? = some (.cells #[old] 86)) :
    Calls Tryz.prog 34 #[.iface 86 (.pointer (some e)), .iface 88 (.pointer (some ⟨tb, 0, none⟩))] w fun ev w' => ev = .returned (.bool true) ∧ w'.heap[tb]? = some (.cells #[.pointer (some e)] 86) ∧ Touch tb w w' := by
  have hlt := lt_of_get ht
  have htW : (asW w 88 ⟨tb, 0, none⟩).heap[tb]? = some (.cells #[old] 86) := by rw [asW_old hlt]; exact ht
  refine as32_calls ⟨tb, 0, none⟩ _ _ 86 w _ rfl hg ?_
  refine (as32_hit e ⟨tb, 0, none⟩ ⟨w.heap.size, 0, none⟩ old _ (asW_cell w 88 _) (cell_one htW).1 (cell_one htW).2).mono ?_
  rintro ev w' ⟨rfl, rfl⟩
  have h := touch_end (u := .pointer (some e)) (A := .cells #[.pointer (some ⟨1, 88, none⟩), .pointer (some ⟨w.heap.size, 0, none⟩), .int .u64 150] 140) (B := .cells #[.pointer (some e)] 86) ht (asW_below w 88 ⟨tb, 0, none⟩)
  exact ⟨true, rfl, rfl, h.1, h.2⟩

/-- errors.As of a number at a target of faults: false; new blocks alone. -/
theorem as_fault_no (x : Value) (t : Addr) (w : World) (hg : w.cell? ⟨0, 0, none⟩ = some (.iface 180 (.agg #[.pointer (some ⟨1, 38, none⟩)]))) :
    Calls Tryz.prog 34 #[.iface 60 x, .iface 88 (.pointer (some t))] w fun ev w' => ev = .returned (.bool false) ∧ Below w.heap.size w w' := by
  refine as32_calls t _ _ 60 w _ rfl hg ?_
  refine (as32_num x t ⟨w.heap.size, 0, none⟩ _).mono ?_
  rintro ev w' ⟨rfl, rfl⟩
  exact ⟨false, rfl, rfl, (asW_below w 88 t).alloc (by rw [asW_size]; omega) _⟩

theorem isErr_iface {w : World} {ps : List (Int × Int)} {n : Int} {v : Value} (h : IsErr w (.iface 60 (.int .i64 n)) ps v) : ∃ T x, v = .iface T x := by
  cases ps with
  | nil => exact ⟨60, .int .i64 n, h⟩
  | cons p ps => obtain ⟨b, u, e, _⟩ := h; exact ⟨86, _, e⟩

/-- errors.As at a target of numbers, over a chain that ends in a number. -/
theorem as_num (ps : List (Int × Int)) (n : Int) (v : Value) (tb : Nat) (old : Value) (w : World) (hv : IsErr w (.iface 60 (.int .i64 n)) ps v) (hg : w.cell? ⟨0, 0, none⟩ = some (.iface 180 (.agg #[.pointer (some ⟨1, 38, none⟩)]))) (ht : w.heap[tb]? = some (.cells #[old] 60)) :
    Calls Tryz.prog 34 #[v, .iface 91 (.pointer (some ⟨tb, 0, none⟩))] w fun ev w' => ev = .returned (.bool true) ∧ w'.heap[tb]? = some (.cells #[.int .i64 n] 60) ∧ Touch tb w w' := by
  have hlt := lt_of_get ht
  have htW : (asW w 91 ⟨tb, 0, none⟩).heap[tb]? = some (.cells #[old] 60) := by rw [asW_old hlt]; exact ht
  obtain ⟨T, x, hx⟩ := isErr_iface hv
  refine as77_calls ⟨tb, 0, none⟩ v x T w _ hx hg ?_
  refine (as77_num ps n v ⟨tb, 0, none⟩ ⟨w.heap.size, 0, none⟩ old _ (hv.keep (Below.keeps (asW_below w 91 _))) (asW_cell w 91 _) (cell_one htW).1 (cell_one htW).2).mono ?_
  rintro ev w' ⟨rfl, rfl⟩
  have h := touch_end (u := .int .i64 n) (A := .cells #[.pointer (some ⟨1, 91, none⟩), .pointer (some ⟨w.heap.size, 0, none⟩), .int .u64 150] 140) (B := .cells #[.int .i64 n] 60) ht (asW_below w 91 ⟨tb, 0, none⟩)
  exact ⟨true, rfl, rfl, h.1, h.2⟩

/-- errors.As at a target of numbers, over a chain that ends in nil. -/
theorem as_num_no (ps : List (Int × Int)) (v : Value) (t : Addr) (w : World) (hv : IsErr w .nilIface ps v) (hg : w.cell? ⟨0, 0, none⟩ = some (.iface 180 (.agg #[.pointer (some ⟨1, 38, none⟩)]))) :
    Calls Tryz.prog 34 #[v, .iface 91 (.pointer (some t))] w fun ev w' => ev = .returned (.bool false) ∧ Below w.heap.size w w' := by
  cases ps with
  | nil =>
    obtain rfl := hv
    refine (as_nil _ w).mono ?_
    rintro ev w' ⟨rfl, rfl⟩
    exact ⟨rfl, Below.refl _ _⟩
  | cons p ps =>
    have hv' := hv
    obtain ⟨b, u, e, _⟩ := hv
    refine as77_calls t v _ 86 w _ e hg ?_
    refine (as77_nil (p :: ps) v t ⟨w.heap.size, 0, none⟩ _ (hv'.keep (Below.keeps (asW_below w 91 _))) (by simp)).mono ?_
    rintro ev w' ⟨rfl, rfl⟩
    exact ⟨false, rfl, rfl, (asW_below w 91 t).alloc (by rw [asW_size]; omega) _⟩
end Go.Proofs.YtcfpkbmeblfhoaaGreatDoor
