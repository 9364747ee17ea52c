/- errors.As at a target of numbers over a chain of faults, and at a target of faults where the error is none: the rounds of its loop. -/
import Derived.Test.YtcfpkbmeblfhoaaGreatDoorErrC
namespace Go.Proofs.YtcfpkbmeblfhoaaGreatDoor
open Go.RowKit Go.Extern

theorem Tryz.noAs30 (v : Value) (xT : TypeId) (w : World) : (Instr.typeAssert (.iface 86 v) xT 184 true).run Tryz.prog w = .ok (.tuple #[.nilIface, .bool false]) w := run_typeAssert_lacksB Tryz.underlying184 (by kernel_rfl) (by kernel_rfl) v xT w
theorem Tryz.noAs24 (v : Value) (xT : TypeId) (w : World) : (Instr.typeAssert (.iface 60 v) xT 184 true).run Tryz.prog w = .ok (.tuple #[.nilIface, .bool false]) w := run_typeAssert_lacksB Tryz.underlying184 (by kernel_rfl) (by kernel_rfl) v xT w
theorem Tryz.noIs30 (v : Value) (xT : TypeId) (w : World) : (Instr.typeAssert (.iface 86 v) xT 192 true).run Tryz.prog w = .ok (.tuple #[.nilIface, .bool false]) w := run_typeAssert_lacksB Tryz.underlying192 (by kernel_rfl) (by kernel_rfl) v xT w
theorem Tryz.noIs24 (v : Value) (xT : TypeId) (w : World) : (Instr.typeAssert (.iface 60 v) xT 192 true).run Tryz.prog w = .ok (.tuple #[.nilIface, .bool false]) w := run_typeAssert_lacksB Tryz.underlying192 (by kernel_rfl) (by kernel_rfl) v xT w
theorem Tryz.un30 (v : Value) (xT : TypeId) (w : World) : (Instr.typeAssert (.iface 86 v) xT 187 true).run Tryz.prog w = .ok (.tuple #[.iface 86 v, .bool true]) w := run_typeAssert_hasB Tryz.underlying187 (by kernel_rfl) v xT w
theorem Tryz.noUn24 (v : Value) (xT : TypeId) (w : World) : (Instr.typeAssert (.iface 60 v) xT 187 true).run Tryz.prog w = .ok (.tuple #[.nilIface, .bool false]) w := run_typeAssert_lacksB Tryz.underlying187 (by kernel_rfl) (by kernel_rfl) v xT w
theorem Tryz.noUns24 (v : Value) (xT : TypeId) (w : World) : (Instr.typeAssert (.iface 60 v) xT 189 true).run Tryz.prog w = .ok (.tuple #[.nilIface, .bool false]) w := run_typeAssert_lacksB Tryz.underlying189 (by kernel_rfl) (by kernel_rfl) v xT w
theorem Tryz.methodUnwrap (a : Addr) (w : World) : (Go.method 366 86 (.pointer (some a)) "Unwrap").run Tryz.prog w = .ok (153, .pointer (some a)) w := by kernel_rfl

/-- How deep a chain is, as far as n steps show. -/
def depthOf (w : World) : Nat → Value → Nat
  | n + 1, .iface 86 (.pointer (some ⟨b, 0, none⟩)) => match w.cell? ⟨b, 2, none⟩ with
    | some u => depthOf w n u + 1
    | none => 0
  | _, _ => 0
theorem cell_of_fault {w : World} {b : Nat} {c0 c1 c2 : Value} (h : w.heap[b]? = some (.cells #[c0, c1, c2] 90)) :
    w.cell? ⟨b, 0, none⟩ = some c0 ∧ w.cell? ⟨b, 1, none⟩ = some c1 ∧ w.cell? ⟨b, 2, none⟩ = some c2 := by
  simp [World.cell?, h]
theorem depth_isErr {w : World} {tv : Value} (htv : ∀ n, depthOf w n tv = 0) : ∀ (n : Nat) {ps : List (Int × Int)} {v : Value}, IsErr w tv ps v → ps.length ≤ n → depthOf w n v = ps.length
  | n, [], v, h, _ => by
    obtain rfl : v = tv := h
    exact htv n
  | 0, _ :: _, _, _, h => by simp at h
  | n + 1, p :: ps, v, ⟨b, u, e, hb, hr⟩, h => by
    subst e
    simp only [depthOf, (cell_of_fault hb).2.2]
    rw [depth_isErr htv n hr (by simpa using h)]
    rfl
theorem depth24 (w : World) (n : Nat) (x : Value) : depthOf w n (.iface 60 x) = 0 := by cases n <;> simp [depthOf]
theorem depthNil (w : World) (n : Nat) : depthOf w n .nilIface = 0 := by cases n <;> simp [depthOf]

set_option maxHeartbeats 4000000 in
/-- the inner errors.as: a chain that ends in a number, at a target of numbers. -/
theorem as77_num (ps : List (Int × Int)) (n : Int) (v : Value) (t a : Addr) (old : Value) (w : World) (hv : IsErr w (.iface 60 (.int .i64 n)) ps v) (ha : w.cell? a = some (.pointer (some t))) (ht0 : w.cell? t = some old) (hf0 : w.frozen? t = false) :
    Calls Tryz.prog 59 #[v, .iface 91 (.pointer (some t)), .agg #[.pointer (some ⟨1, 91, none⟩), .pointer (some a), .int .u64 150], .iface 180 (.agg #[.pointer (some ⟨1, 60, none⟩)])] w fun ev w' =>
      ev = .returned (.bool true) ∧ w' = ((w.alloc (.cells #[.pointer (some ⟨1, 91, none⟩), .pointer (some a), .int .u64 150] 140)).alloc (.cells #[.int .i64 n] 60)).setCell t (.int .i64 n) := by
  have h33 := x33
  have h95 := x95
  have h44 := x44
  have h29 := x29
  have h45 := x45
  have f1 := Tryz.typeOf30
  have f1' := Tryz.typeOf24
  have f2 := Tryz.methodAssignableTo
  have f3 := Tryz.asg3024
  have f3' := Tryz.asg2424
  have f4 := Tryz.valueOf24
  have g1 := Tryz.noAs30
  have g2 := Tryz.un30
  have g3 := Tryz.methodUnwrap
  have htl : t.block < w.heap.size := by
    rcases Nat.lt_or_ge t.block w.heap.size with h | h
    · exact h
    · simp [World.cell?, Array.getElem?_eq_none h] at ht0
  have hal : a.block < w.heap.size := by
    rcases Nat.lt_or_ge a.block w.heap.size with h | h
    · exact h
    · simp [World.cell?, Array.getElem?_eq_none h] at ha
  have el := Tryz.elemV77 a t (w.alloc (.cells #[.pointer (some ⟨1, 91, none⟩), .pointer (some a), .int .u64 150] 140)) (by rw [World.cell?_alloc_lt _ _ a hal]; exact ha)
  have st := Tryz.set24 t ⟨w.heap.size + 1, 0, none⟩ n old ((w.alloc (.cells #[.pointer (some ⟨1, 91, none⟩), .pointer (some a), .int .u64 150] 140)).alloc (.cells #[.int .i64 n] 60))
    (by rw [World.cell?_alloc_at _ _ _ _ (by simp)]; rfl)
    (by rw [World.cell?_alloc_lt _ _ t (by simp; omega), World.cell?_alloc_lt _ _ t htl]; exact ht0)
    (by rw [World.frozen?_alloc_old _ _ t (by simp; omega), World.frozen?_alloc_old _ _ t (Nat.ne_of_lt htl)]; exact hf0)
  go_enter Tryz.func59, Tryz.ntmps59
  go_wp2
  go_loop [0] (fun u => ∃ qs : List (Int × Int), qs.length ≤ ps.length ∧ IsErr w (.iface 60 (.int .i64 n)) qs u) (fun u => depthOf w ps.length u)
  case atStart => exact ⟨ps, Nat.le_refl _, hv⟩
  case round =>
    obtain ⟨qs, hl, hq⟩ := hrel
    have hd := depth_isErr (fun m => depth24 w m _) ps.length hq hl
    cases qs with
    | nil =>
      obtain rfl := hq
      clear hd
      go_wp2
      go_ret
      exact ⟨rfl, rfl⟩
    | cons q qs =>
      obtain ⟨b, u', rfl, hb, hr⟩ := hq
      have hc : (w.alloc (.cells #[.pointer (some ⟨1, 91, none⟩), .pointer (some a), .int .u64 150] 140)).cell? ⟨b, 2, none⟩ = some u' := by
        rw [World.cell?_alloc_lt _ _ _ (lt_of_get hb)]; exact (cell_of_fault hb).2.2
      have hd' := depth_isErr (fun m => depth24 w m _) ps.length hr (by simp at hl; omega)
      have HD : Hid (depthOf w ps.length u' < depthOf w ps.length (.iface 86 (.pointer (some ⟨b, 0, none⟩)))) := by show _ < _; rw [hd, hd']; simp
      clear hd hd'
      have HR : Hid (IsErr w (.iface 60 (.int .i64 n)) qs u') := hr
      clear hr
      cases u' with
      | nilIface =>
        exfalso
        have := HR.out
        cases qs with
        | nil => cases this
        | cons q' qs' => obtain ⟨_, _, e, _⟩ := this; cases e
      | iface t' x' =>
        go_wp2_with (go_at_call 153; refine (unwrap_fault b _ _ hc).mono ?_; rintro e w' ⟨rfl, rfl⟩)
        go_round
        case rel => exact ⟨qs, by simp at hl; omega, HR.out⟩
        case measure => exact HD.out
      | _ => 
        exfalso
        have := HR.out
        cases qs with
        | nil => cases this
        | cons q' qs' => obtain ⟨_, _, e, _⟩ := this; cases e
end Go.Proofs.YtcfpkbmeblfhoaaGreatDoor
