/- errors.As at a target of numbers over a chain of faults, and at a target of faults where the error is none: the rounds of its loop. -/
import Derived.Test.YthgmhhlgjooeaaaGreatDoorErrC
namespace Go.Proofs.YthgmhhlgjooeaaaGreatDoor
open Go.RowKit Go.Extern

theorem Tryz.noAs30 (v : Value) (xT : TypeId) (w : World) : (Instr.typeAssert (.iface 41 v) xT 132 true).run Tryz.prog w = .ok (.tuple #[.nilIface, .bool false]) w := run_typeAssert_lacksB Tryz.underlying132 (by kernel_rfl) (by kernel_rfl) v xT w
theorem Tryz.noAs24 (v : Value) (xT : TypeId) (w : World) : (Instr.typeAssert (.iface 29 v) xT 132 true).run Tryz.prog w = .ok (.tuple #[.nilIface, .bool false]) w := run_typeAssert_lacksB Tryz.underlying132 (by kernel_rfl) (by kernel_rfl) v xT w
theorem Tryz.noIs30 (v : Value) (xT : TypeId) (w : World) : (Instr.typeAssert (.iface 41 v) xT 100 true).run Tryz.prog w = .ok (.tuple #[.nilIface, .bool false]) w := run_typeAssert_lacksB Tryz.underlying100 (by kernel_rfl) (by kernel_rfl) v xT w
theorem Tryz.noIs24 (v : Value) (xT : TypeId) (w : World) : (Instr.typeAssert (.iface 29 v) xT 100 true).run Tryz.prog w = .ok (.tuple #[.nilIface, .bool false]) w := run_typeAssert_lacksB Tryz.underlying100 (by kernel_rfl) (by kernel_rfl) v xT w
theorem Tryz.un30 (v : Value) (xT : TypeId) (w : World) : (Instr.typeAssert (.iface 41 v) xT 103 true).run Tryz.prog w = .ok (.tuple #[.iface 41 v, .bool true]) w := run_typeAssert_hasB Tryz.underlying103 (by kernel_rfl) v xT w
theorem Tryz.noUn24 (v : Value) (xT : TypeId) (w : World) : (Instr.typeAssert (.iface 29 v) xT 103 true).run Tryz.prog w = .ok (.tuple #[.nilIface, .bool false]) w := run_typeAssert_lacksB Tryz.underlying103 (by kernel_rfl) (by kernel_rfl) v xT w
theorem Tryz.noUns24 (v : Value) (xT : TypeId) (w : World) : (Instr.typeAssert (.iface 29 v) xT 105 true).run Tryz.prog w = .ok (.tuple #[.nilIface, .bool false]) w := run_typeAssert_lacksB Tryz.underlying105 (by kernel_rfl) (by kernel_rfl) v xT w
theorem Tryz.methodUnwrap (a : Addr) (w : World) : (Go.method 310 41 (.pointer (some a)) "Unwrap").run Tryz.prog w = .ok (119, .pointer (some a)) w := by kernel_rfl

/-- How deep a chain is, as far as n steps show. -/
def depthOf (w : World) : Nat → Value → Nat
  | n + 1, .iface 41 (.pointer (some ⟨b, 0, none⟩)) => match w.cell? ⟨b, 2, none⟩ with
    | some u => depthOf w n u + 1
    | none => 0
  | _, _ => 0
theorem cell_of_fault {w : World} {b : Nat} {c0 c1 c2 : Value} (h : w.heap[b]? = some (.cells #[c0, c1, c2] 48)) :
    w.cell? ⟨b, 0, none⟩ = some c0 ∧ w.cell? ⟨b, 1, none⟩ = some c1 ∧ w.cell? ⟨b, 2, none⟩ = some c2 := by
  simp [World.cell?, h]
theorem depth_isErr {w : World} {tv : Value} (htv : ∀ n, depthOf w n tv = 0) : ∀ (n : Nat) {ps : List (Int × Int)} {v : Value}, IsErr w tv ps v → ps.length ≤ n → depthOf w n v = ps.length
  | n, [], v, h, _ => by
    obtain rfl : v = tv := h
    exact htv n
  | 0, _ :: _, _, _, h => by simp at h
  | n + 1, p :: ps, v, ⟨b, u, e, hb, hr⟩, h => by
    subst e
    simp only [depthOf, (cell_of_fault hb).2.2]
    rw [depth_isErr htv n hr (by simpa using h)]
    rfl
theorem depth24 (w : World) (n : Nat) (x : Value) : depthOf w n (.iface 29 x) = 0 := by cases n <;> simp [depthOf]
theorem depthNil (w : World) (n : Nat) : depthOf w n .nilIface = 0 := by cases n <;> simp [depthOf]

end Go.Proofs.YthgmhhlgjooeaaaGreatDoor
