/- The contracts of fault.At, of api.Fault's Unwrap and of First over this translation: what each call answers, and what becomes of the world. Closed facts on the model's entries for internal/reflectlite at this translation's types (32: pointer to a pointer to api.Fault, 30: pointer to api.Fault, 77: pointer to api.Errno, 24: api.Errno, 27: error, 91: reflectlite's rtype), and small laws on the entries that read or write memory: what errors.As and errors.Is stand on. The entries of the model for the functions of internal/reflectlite that errors.As and errors.Is call, each as an equation on its call at this translation. How chains of faults lie in memory (IsErr), and what errors.As answers over them, by its own text: at a target of faults, and at a target of numbers. errors.As at a target of numbers over a chain of faults, and at a target of faults where the error is none: the rounds of its loop. errors.As, whole: at a target of faults where the error is a fault or a number, at a target of numbers over a chain that ends in a number or in nothing. errors.As, whole: at a target of faults where the error is a fault or a number; at a target of numbers over a chain that ends in a number or in nothing. errors.Is at a number over a chain of faults that ends in a number or in nothing. -/
import Derived.Test.YtbkclhaonbjobaaGreatDoorProg
import Derived.WalkKit
import Derived.WalkSpells
import Derived.WalkLawsBesides
import Derived.LaidEql
import Derived.RowKitTokens
import Derived.Stop.Asserts
namespace Go.Proofs.YtbkclhaonbjobaaGreatDoor
open Go.RowKit

/-- At of an error that is not nil: one new block, that fault. -/
theorem at_some (k n : Int) (t : TypeId) (v : Value) (w : World) :
    Calls Tryz.prog 91 #[.int .i64 k, .int .i64 n, .iface t v] w fun e w' => e = .returned (.iface 96 (.pointer (some ⟨w.heap.size, 0, none⟩))) ∧ w' = w.alloc (.cells #[.int .i64 k, .int .i64 n, .iface t v] 100) := by
  go_enter Tryz.func91, Tryz.ntmps91
  go_wp2
  go_ret
  exact ⟨rfl, rfl⟩

/-- Unwrap of a fault that is there. -/
theorem unwrap_fault (b : Nat) (v : Value) (w : World) (hc : w.cell? ⟨b, 2, none⟩ = some v) :
    Calls Tryz.prog 172 #[.pointer (some ⟨b, 0, none⟩)] w fun e w' => e = .returned v ∧ w' = w := by
  go_enter Tryz.func172, Tryz.ntmps172
  go_wp2
  go_ret
  exact ⟨rfl, rfl⟩
end Go.Proofs.YtbkclhaonbjobaaGreatDoor

namespace Go.Proofs.YtbkclhaonbjobaaGreatDoor
open Go.RowKit Go.Extern

theorem Tryz.valueOf32 (t : Addr) (w : World) : (ReflectliteValue.unpack (.iface 98 (.pointer (some t)))).run Tryz.prog w
    = .ok (.agg #[.pointer (some ⟨1, 98, none⟩), .pointer (some ⟨w.heap.size, 0, none⟩), .int .u64 150]) (w.alloc (.cells #[.pointer (some t)] 98)) := by kernel_rfl
theorem Tryz.valueOf77 (t : Addr) (w : World) : (ReflectliteValue.unpack (.iface 101 (.pointer (some t)))).run Tryz.prog w
    = .ok (.agg #[.pointer (some ⟨1, 101, none⟩), .pointer (some ⟨w.heap.size, 0, none⟩), .int .u64 150]) (w.alloc (.cells #[.pointer (some t)] 101)) := by kernel_rfl
theorem Tryz.valueOf30 (t : Addr) (w : World) : (ReflectliteValue.unpack (.iface 96 (.pointer (some t)))).run Tryz.prog w
    = .ok (.agg #[.pointer (some ⟨1, 96, none⟩), .pointer (some ⟨w.heap.size, 0, none⟩), .int .u64 150]) (w.alloc (.cells #[.pointer (some t)] 96)) := by kernel_rfl
theorem Tryz.valueOf24 (n : Int) (w : World) : (ReflectliteValue.unpack (.iface 59 (.int .i64 n))).run Tryz.prog w
    = .ok (.agg #[.pointer (some ⟨1, 59, none⟩), .pointer (some ⟨w.heap.size, 0, none⟩), .int .u64 130]) (w.alloc (.cells #[.int .i64 n] 59)) := by kernel_rfl
theorem Tryz.type32 (a : Addr) (w : World) : (ReflectliteValue.methodAny (ReflectliteValue.valueError "reflectlite.Value.Type" 0) (fun t _ _ _ => ReflectliteType.toType t) #[.agg #[.pointer (some ⟨1, 98, none⟩), .pointer (some a), .int .u64 150]]).run Tryz.prog w
    = .ok (.iface 173 (.agg #[.pointer (some ⟨1, 98, none⟩)])) w := by kernel_rfl
theorem Tryz.type77 (a : Addr) (w : World) : (ReflectliteValue.methodAny (ReflectliteValue.valueError "reflectlite.Value.Type" 0) (fun t _ _ _ => ReflectliteType.toType t) #[.agg #[.pointer (some ⟨1, 101, none⟩), .pointer (some a), .int .u64 150]]).run Tryz.prog w
    = .ok (.iface 173 (.agg #[.pointer (some ⟨1, 101, none⟩)])) w := by kernel_rfl
theorem Tryz.methodKind (h : Value) (w : World) : (Go.method 389 173 (.agg #[h]) "Kind").run Tryz.prog w = .ok (166, h) w := by kernel_rfl
theorem Tryz.methodElem (h : Value) (w : World) : (Go.method 389 173 (.agg #[h]) "Elem").run Tryz.prog w = .ok (180, .agg #[h]) w := by kernel_rfl
theorem Tryz.methodImplements (h : Value) (w : World) : (Go.method 389 173 (.agg #[h]) "Implements").run Tryz.prog w = .ok (181, .agg #[h]) w := by kernel_rfl
theorem Tryz.methodAssignableTo (h : Value) (w : World) : (Go.method 389 173 (.agg #[h]) "AssignableTo").run Tryz.prog w = .ok (178, .agg #[h]) w := by kernel_rfl
theorem Tryz.methodComparable (h : Value) (w : World) : (Go.method 389 173 (.agg #[h]) "Comparable").run Tryz.prog w = .ok (179, .agg #[h]) w := by kernel_rfl
theorem Tryz.kind32 (w : World) : ((ReflectliteType.abiMethod fun t => (fun a : Nat => Value.int IntKind.u8 (a : Int)) <$> Rtype.kind t) #[.pointer (some ⟨1, 98, none⟩)]).run Tryz.prog w = .ok (.int .u8 22) w := by kernel_rfl
theorem Tryz.kind77 (w : World) : ((ReflectliteType.abiMethod fun t => (fun a : Nat => Value.int IntKind.u8 (a : Int)) <$> Rtype.kind t) #[.pointer (some ⟨1, 101, none⟩)]).run Tryz.prog w = .ok (.int .u8 22) w := by kernel_rfl
theorem Tryz.kind30 (w : World) : ((ReflectliteType.abiMethod fun t => (fun a : Nat => Value.int IntKind.u8 (a : Int)) <$> Rtype.kind t) #[.pointer (some ⟨1, 96, none⟩)]).run Tryz.prog w = .ok (.int .u8 22) w := by kernel_rfl
theorem Tryz.kind24 (w : World) : ((ReflectliteType.abiMethod fun t => (fun a : Nat => Value.int IntKind.u8 (a : Int)) <$> Rtype.kind t) #[.pointer (some ⟨1, 59, none⟩)]).run Tryz.prog w = .ok (.int .u8 2) w := by kernel_rfl
theorem Tryz.elem32 (w : World) : (ReflectliteType.method ReflectliteType.elem #[.agg #[.pointer (some ⟨1, 98, none⟩)]]).run Tryz.prog w = .ok (.iface 173 (.agg #[.pointer (some ⟨1, 96, none⟩)])) w := by kernel_rfl
theorem Tryz.elem77 (w : World) : (ReflectliteType.method ReflectliteType.elem #[.agg #[.pointer (some ⟨1, 101, none⟩)]]).run Tryz.prog w = .ok (.iface 173 (.agg #[.pointer (some ⟨1, 59, none⟩)])) w := by kernel_rfl
theorem Tryz.implements30 (w : World) : (ReflectliteType.relation "Implements" ReflectliteType.implements_ #[.agg #[.pointer (some ⟨1, 96, none⟩)], .iface 173 (.agg #[.pointer (some ⟨1, 38, none⟩)])]).run Tryz.prog w = .ok (.bool true) w := by kernel_rfl
theorem Tryz.implements24 (w : World) : (ReflectliteType.relation "Implements" ReflectliteType.implements_ #[.agg #[.pointer (some ⟨1, 59, none⟩)], .iface 173 (.agg #[.pointer (some ⟨1, 38, none⟩)])]).run Tryz.prog w = .ok (.bool true) w := by kernel_rfl
theorem Tryz.typeOf30 (v : Value) (w : World) : (ReflectliteType.typeOf #[.iface 96 v]).run Tryz.prog w = .ok (.iface 173 (.agg #[.pointer (some ⟨1, 96, none⟩)])) w := by kernel_rfl
theorem Tryz.typeOf24 (v : Value) (w : World) : (ReflectliteType.typeOf #[.iface 59 v]).run Tryz.prog w = .ok (.iface 173 (.agg #[.pointer (some ⟨1, 59, none⟩)])) w := by kernel_rfl
theorem Tryz.asg3030 (w : World) : (ReflectliteType.relation "AssignableTo" ReflectliteType.assignableTo #[.agg #[.pointer (some ⟨1, 96, none⟩)], .iface 173 (.agg #[.pointer (some ⟨1, 96, none⟩)])]).run Tryz.prog w = .ok (.bool true) w := by kernel_rfl
theorem Tryz.asg3024 (w : World) : (ReflectliteType.relation "AssignableTo" ReflectliteType.assignableTo #[.agg #[.pointer (some ⟨1, 96, none⟩)], .iface 173 (.agg #[.pointer (some ⟨1, 59, none⟩)])]).run Tryz.prog w = .ok (.bool false) w := by kernel_rfl
theorem Tryz.asg2424 (w : World) : (ReflectliteType.relation "AssignableTo" ReflectliteType.assignableTo #[.agg #[.pointer (some ⟨1, 59, none⟩)], .iface 173 (.agg #[.pointer (some ⟨1, 59, none⟩)])]).run Tryz.prog w = .ok (.bool true) w := by kernel_rfl
theorem Tryz.asg2430 (w : World) : (ReflectliteType.relation "AssignableTo" ReflectliteType.assignableTo #[.agg #[.pointer (some ⟨1, 59, none⟩)], .iface 173 (.agg #[.pointer (some ⟨1, 96, none⟩)])]).run Tryz.prog w = .ok (.bool false) w := by kernel_rfl

theorem rlm (z : Sem Value) (f : TypeId → Addr → Nat → Nat → Sem Value) (v : Value) :
    ReflectliteValue.method z f #[v] = (do match ← ReflectliteValue.parts v with | none => z | some (t, a, fl) => f t a fl (fl % 32)) := rfl
theorem Tryz.parts32 (a : Addr) (w : World) : (ReflectliteValue.parts (.agg #[.pointer (some ⟨1, 98, none⟩), .pointer (some a), .int .u64 150])).run Tryz.prog w = .ok (some (98, a, 150)) w := by kernel_rfl
theorem Tryz.parts77 (a : Addr) (w : World) : (ReflectliteValue.parts (.agg #[.pointer (some ⟨1, 101, none⟩), .pointer (some a), .int .u64 150])).run Tryz.prog w = .ok (some (101, a, 150)) w := by kernel_rfl
theorem Tryz.isNil32 (a p : Addr) (W : World) (ha : W.cell? a = some (.pointer (some p))) :
    (ReflectliteValue.method (ReflectliteValue.valueError "reflectlite.Value.IsNil" 0) ReflectliteValue.isNil #[.agg #[.pointer (some ⟨1, 98, none⟩), .pointer (some a), .int .u64 150]]).run Tryz.prog W = .ok (.bool false) W := by
  rw [rlm]
  simp only [Sem.run_bind, Tryz.parts32, Result.andThen]
  simp [ReflectliteValue.isNil, loadVar, isAgg, underlying, Tryz.underlying98, ha, Result.andThen]
theorem Tryz.isNil77 (a p : Addr) (W : World) (ha : W.cell? a = some (.pointer (some p))) :
    (ReflectliteValue.method (ReflectliteValue.valueError "reflectlite.Value.IsNil" 0) ReflectliteValue.isNil #[.agg #[.pointer (some ⟨1, 101, none⟩), .pointer (some a), .int .u64 150]]).run Tryz.prog W = .ok (.bool false) W := by
  rw [rlm]
  simp only [Sem.run_bind, Tryz.parts77, Result.andThen]
  simp [ReflectliteValue.isNil, loadVar, isAgg, underlying, Tryz.underlying101, ha, Result.andThen]
theorem Tryz.elemOf32 (w : World) : (Rtype.elem? 98).run Tryz.prog w = .ok (some 96) w := by kernel_rfl
theorem Tryz.elemOf77 (w : World) : (Rtype.elem? 101).run Tryz.prog w = .ok (some 59) w := by kernel_rfl
theorem Tryz.mk30 (p : Addr) (w : World) : (ReflectliteValue.mk 96 p ReflectliteValue.flagAddr).run Tryz.prog w = .ok (.agg #[.pointer (some ⟨1, 96, none⟩), .pointer (some p), .int .u64 406]) w := by kernel_rfl
theorem Tryz.mk24 (p : Addr) (w : World) : (ReflectliteValue.mk 59 p ReflectliteValue.flagAddr).run Tryz.prog w = .ok (.agg #[.pointer (some ⟨1, 59, none⟩), .pointer (some p), .int .u64 386]) w := by kernel_rfl
theorem Tryz.elemV32 (a p : Addr) (W : World) (ha : W.cell? a = some (.pointer (some p))) :
    (ReflectliteValue.method (ReflectliteValue.valueError "reflectlite.Value.Elem" 0) ReflectliteValue.elem #[.agg #[.pointer (some ⟨1, 98, none⟩), .pointer (some a), .int .u64 150]]).run Tryz.prog W
      = .ok (.agg #[.pointer (some ⟨1, 96, none⟩), .pointer (some p), .int .u64 406]) W := by
  rw [rlm]
  simp only [Sem.run_bind, Tryz.parts32, Result.andThen]
  simp [ReflectliteValue.elem, loadVar, isAgg, underlying, Tryz.underlying98, ha, Result.andThen, Tryz.elemOf32, Tryz.mk30]
theorem Tryz.elemV77 (a p : Addr) (W : World) (ha : W.cell? a = some (.pointer (some p))) :
    (ReflectliteValue.method (ReflectliteValue.valueError "reflectlite.Value.Elem" 0) ReflectliteValue.elem #[.agg #[.pointer (some ⟨1, 101, none⟩), .pointer (some a), .int .u64 150]]).run Tryz.prog W
      = .ok (.agg #[.pointer (some ⟨1, 59, none⟩), .pointer (some p), .int .u64 386]) W := by
  rw [rlm]
  simp only [Sem.run_bind, Tryz.parts77, Result.andThen]
  simp [ReflectliteValue.elem, loadVar, isAgg, underlying, Tryz.underlying101, ha, Result.andThen, Tryz.elemOf77, Tryz.mk24]
theorem rls (v x : Value) : ReflectliteValue.set #[v, x] = (do
    let (some (dst, a, fl), some (src, b, _)) := (← ReflectliteValue.parts v, ← ReflectliteValue.parts x)
      | unsupported (.noEntry "extern/(internal/reflectlite.Value).Set.zeroValue")
    if fl / ReflectliteValue.flagAddr % 2 == 0 then unsupported (.noEntry "extern/(internal/reflectlite.Value).Set.unaddressable")
    let val ← loadVar src b
    if ← Rtype.directlyAssignable dst src then storeVar dst a val
    else if ← Rtype.implements dst src then
      if (← Rtype.kind src) == 20 then
        match val with
        | .nilIface => unsupported (.noEntry "extern/reflectlite: a nil value of one interface type handed on as a value of another")
        | _ => storeVar dst a val
      else storeVar dst a (.iface src val)
    else panicString ("reflectlite.Set: value of type " ++ (← Rtype.spelt src) ++ " is not assignable to type " ++ (← Rtype.spelt dst))
    pure (.tuple #[])) := rfl
theorem Tryz.parts30a (a : Addr) (w : World) : (ReflectliteValue.parts (.agg #[.pointer (some ⟨1, 96, none⟩), .pointer (some a), .int .u64 406])).run Tryz.prog w = .ok (some (96, a, 406)) w := by kernel_rfl
theorem Tryz.parts30 (a : Addr) (w : World) : (ReflectliteValue.parts (.agg #[.pointer (some ⟨1, 96, none⟩), .pointer (some a), .int .u64 150])).run Tryz.prog w = .ok (some (96, a, 150)) w := by kernel_rfl
theorem Tryz.parts24a (a : Addr) (w : World) : (ReflectliteValue.parts (.agg #[.pointer (some ⟨1, 59, none⟩), .pointer (some a), .int .u64 386])).run Tryz.prog w = .ok (some (59, a, 386)) w := by kernel_rfl
theorem Tryz.parts24 (a : Addr) (w : World) : (ReflectliteValue.parts (.agg #[.pointer (some ⟨1, 59, none⟩), .pointer (some a), .int .u64 130])).run Tryz.prog w = .ok (some (59, a, 130)) w := by kernel_rfl
theorem Tryz.direct30 (w : World) : (Rtype.directlyAssignable 96 96).run Tryz.prog w = .ok true w := by kernel_rfl
theorem Tryz.direct24 (w : World) : (Rtype.directlyAssignable 59 59).run Tryz.prog w = .ok true w := by kernel_rfl
theorem Tryz.set30 (ta b e : Addr) (old : Value) (W : World) (hb : W.cell? b = some (.pointer (some e))) (ht : W.cell? ta = some old) (hf : W.frozen? ta = false) :
    (ReflectliteValue.set #[.agg #[.pointer (some ⟨1, 96, none⟩), .pointer (some ta), .int .u64 406], .agg #[.pointer (some ⟨1, 96, none⟩), .pointer (some b), .int .u64 150]]).run Tryz.prog W
      = .ok (.tuple #[]) (W.setCell ta (.pointer (some e))) := by
  rw [rls]
  simp only [Sem.run_bind, Tryz.parts30a, Tryz.parts30, Result.andThen]
  simp [ReflectliteValue.flagAddr, loadVar, isAgg, underlying, Tryz.underlying96, hb, Result.andThen, Tryz.direct30, storeVar, Value.cells, storeCells, Addr.add]
  rw [run_store Tryz.prog W ta _ _ (by rfl)]
  simp [ht, hf]
theorem Tryz.set24 (ta b : Addr) (n : Int) (old : Value) (W : World) (hb : W.cell? b = some (.int .i64 n)) (ht : W.cell? ta = some old) (hf : W.frozen? ta = false) :
    (ReflectliteValue.set #[.agg #[.pointer (some ⟨1, 59, none⟩), .pointer (some ta), .int .u64 386], .agg #[.pointer (some ⟨1, 59, none⟩), .pointer (some b), .int .u64 130]]).run Tryz.prog W
      = .ok (.tuple #[]) (W.setCell ta (.int .i64 n)) := by
  rw [rls]
  simp only [Sem.run_bind, Tryz.parts24a, Tryz.parts24, Result.andThen]
  simp [ReflectliteValue.flagAddr, loadVar, isAgg, underlying, Tryz.underlying59, hb, Result.andThen, Tryz.direct24, storeVar, Value.cells, storeCells, Addr.add]
  rw [run_store Tryz.prog W ta _ _ (by rfl)]
  simp [ht, hf]
theorem Tryz.comparable24 (w : World) : (ReflectliteType.method (fun t => do Rtype.noPackHeld "Comparable" t; pure (.bool (← typeInfo t).comparable)) #[.agg #[.pointer (some ⟨1, 59, none⟩)]]).run Tryz.prog w = .ok (.bool true) w := by kernel_rfl
end Go.Proofs.YtbkclhaonbjobaaGreatDoor

namespace Go.Proofs.YtbkclhaonbjobaaGreatDoor
open Go.RowKit Go.Extern

theorem x29 (args : Array Value) (w : World) : (callFunc 59 args).run Tryz.prog w = (((fun args => ReflectliteValue.unpack (args.getD 0 (.tuple #[]))) args).run Tryz.prog w).andThen fun v w' => .ok (.value v) w' :=
  @run_callFunc_extern Tryz.prog 59 _ (fun args => ReflectliteValue.unpack (args.getD 0 (.tuple #[]))) Tryz.func59 (by kernel_rfl) (by kernel_rfl) (by kernel_rfl) (by kernel_rfl) args w
theorem x30 (args : Array Value) (w : World) : (callFunc 60 args).run Tryz.prog w = (((ReflectliteValue.methodAny (ReflectliteValue.valueError "reflectlite.Value.Type" 0) (fun t _ _ _ => ReflectliteType.toType t)) args).run Tryz.prog w).andThen fun v w' => .ok (.value v) w' :=
  @run_callFunc_extern Tryz.prog 60 _ (ReflectliteValue.methodAny (ReflectliteValue.valueError "reflectlite.Value.Type" 0) (fun t _ _ _ => ReflectliteType.toType t)) Tryz.func60 (by kernel_rfl) (by kernel_rfl) (by kernel_rfl) (by kernel_rfl) args w
theorem x31 (args : Array Value) (w : World) : (callFunc 61 args).run Tryz.prog w = (((ReflectliteValue.method (ReflectliteValue.valueError "reflectlite.Value.IsNil" 0) ReflectliteValue.isNil) args).run Tryz.prog w).andThen fun v w' => .ok (.value v) w' :=
  @run_callFunc_extern Tryz.prog 61 _ (ReflectliteValue.method (ReflectliteValue.valueError "reflectlite.Value.IsNil" 0) ReflectliteValue.isNil) Tryz.func61 (by kernel_rfl) (by kernel_rfl) (by kernel_rfl) (by kernel_rfl) args w
theorem x85 (args : Array Value) (w : World) : (callFunc 166 args).run Tryz.prog w = (((ReflectliteType.abiMethod fun t => do pure (.int .u8 (← Rtype.kind t))) args).run Tryz.prog w).andThen fun v w' => .ok (.value v) w' :=
  @run_callFunc_extern Tryz.prog 166 _ (ReflectliteType.abiMethod fun t => do pure (.int .u8 (← Rtype.kind t))) Tryz.func166 (by kernel_rfl) (by kernel_rfl) (by kernel_rfl) (by kernel_rfl) args w
theorem x97 (args : Array Value) (w : World) : (callFunc 180 args).run Tryz.prog w = (((ReflectliteType.method ReflectliteType.elem) args).run Tryz.prog w).andThen fun v w' => .ok (.value v) w' :=
  @run_callFunc_extern Tryz.prog 180 _ (ReflectliteType.method ReflectliteType.elem) Tryz.func180 (by kernel_rfl) (by kernel_rfl) (by kernel_rfl) (by kernel_rfl) args w
theorem x98 (args : Array Value) (w : World) : (callFunc 181 args).run Tryz.prog w = (((ReflectliteType.relation "Implements" ReflectliteType.implements_) args).run Tryz.prog w).andThen fun v w' => .ok (.value v) w' :=
  @run_callFunc_extern Tryz.prog 181 _ (ReflectliteType.relation "Implements" ReflectliteType.implements_) Tryz.func181 (by kernel_rfl) (by kernel_rfl) (by kernel_rfl) (by kernel_rfl) args w
theorem x33 (args : Array Value) (w : World) : (callFunc 63 args).run Tryz.prog w = ((ReflectliteType.typeOf args).run Tryz.prog w).andThen fun v w' => .ok (.value v) w' :=
  @run_callFunc_extern Tryz.prog 63 _ ReflectliteType.typeOf Tryz.func63 (by kernel_rfl) (by kernel_rfl) (by kernel_rfl) (by kernel_rfl) args w
theorem x95 (args : Array Value) (w : World) : (callFunc 178 args).run Tryz.prog w = (((ReflectliteType.relation "AssignableTo" ReflectliteType.assignableTo) args).run Tryz.prog w).andThen fun v w' => .ok (.value v) w' :=
  @run_callFunc_extern Tryz.prog 178 _ (ReflectliteType.relation "AssignableTo" ReflectliteType.assignableTo) Tryz.func178 (by kernel_rfl) (by kernel_rfl) (by kernel_rfl) (by kernel_rfl) args w
theorem x44 (args : Array Value) (w : World) : (callFunc 88 args).run Tryz.prog w = (((ReflectliteValue.method (ReflectliteValue.valueError "reflectlite.Value.Elem" 0) ReflectliteValue.elem) args).run Tryz.prog w).andThen fun v w' => .ok (.value v) w' :=
  @run_callFunc_extern Tryz.prog 88 _ (ReflectliteValue.method (ReflectliteValue.valueError "reflectlite.Value.Elem" 0) ReflectliteValue.elem) Tryz.func88 (by kernel_rfl) (by kernel_rfl) (by kernel_rfl) (by kernel_rfl) args w
theorem x45 (args : Array Value) (w : World) : (callFunc 89 args).run Tryz.prog w = ((ReflectliteValue.set args).run Tryz.prog w).andThen fun v w' => .ok (.value v) w' :=
  @run_callFunc_extern Tryz.prog 89 _ ReflectliteValue.set Tryz.func89 (by kernel_rfl) (by kernel_rfl) (by kernel_rfl) (by kernel_rfl) args w
theorem x96 (args : Array Value) (w : World) : (callFunc 179 args).run Tryz.prog w = (((ReflectliteType.method (fun t => do Rtype.noPackHeld "Comparable" t; pure (.bool (← typeInfo t).comparable))) args).run Tryz.prog w).andThen fun v w' => .ok (.value v) w' :=
  @run_callFunc_extern Tryz.prog 179 _ (ReflectliteType.method (fun t => do Rtype.noPackHeld "Comparable" t; pure (.bool (← typeInfo t).comparable))) Tryz.func179 (by kernel_rfl) (by kernel_rfl) (by kernel_rfl) (by kernel_rfl) args w

end Go.Proofs.YtbkclhaonbjobaaGreatDoor

namespace Go.Proofs.YtbkclhaonbjobaaGreatDoor
open Go.RowKit Go.Extern

/-- The chain of faults with these places that ends in the value tv. -/
def IsErr (w : World) (tv : Value) : List (Int × Int) → Value → Prop
  | [], v => v = tv
  | p :: ps, v => ∃ (b : Nat) (u : Value), v = .iface 96 (.pointer (some ⟨b, 0, none⟩)) ∧ w.heap[b]? = some (.cells #[.int .i64 p.1, .int .i64 p.2, u] 100) ∧ IsErr w tv ps u

/-- Every fault's block stays as it was. -/
def Keeps (w w' : World) : Prop := ∀ (b : Nat) (c : Array Value), w.heap[b]? = some (.cells c 100) → w'.heap[b]? = some (.cells c 100)

theorem lt_of_get {w : World} {b : Nat} {o : Obj} (h : w.heap[b]? = some o) : b < w.heap.size := by
  rcases Nat.lt_or_ge b w.heap.size with h' | h'
  · exact h'
  · rw [Array.getElem?_eq_none h'] at h; cases h
theorem Below.keeps {w w' : World} (h : Below w.heap.size w w') : Keeps w w' := fun b c hb => by
  rw [h.block b (lt_of_get hb)]; exact hb

theorem IsErr.keep {w w' : World} (hk : Keeps w w') {tv : Value} : ∀ {ps : List (Int × Int)} {v : Value}, IsErr w tv ps v → IsErr w' tv ps v
  | [], _, h => h
  | _ :: _, _, ⟨b, u, e, hb, hr⟩ => ⟨b, u, e, hk _ _ hb, IsErr.keep hk hr⟩

/-- All blocks but one are as they were. -/
structure Touch (t : Nat) (w w' : World) : Prop where
  os : w'.os = w.os
  tape : w'.tape = w.tape
  output : w'.output = w.output
  size : w.heap.size ≤ w'.heap.size
  block : ∀ k, k < w.heap.size → k ≠ t → w'.heap[k]? = w.heap[k]?

theorem Touch.below {t B : Nat} {w w' : World} (h : Touch t w w') (hB : B ≤ t) (hs : t < w.heap.size) : Below B w w' :=
  ⟨h.os, h.tape, h.output, h.size, fun k hk => h.block k (by omega) (by omega)⟩

set_option maxHeartbeats 4000000 in
/-- the inner errors.as: a fault at a target of faults. -/
theorem as32_hit (e t a : Addr) (old : Value) (w : World) (ha : w.cell? a = some (.pointer (some t))) (ht0 : w.cell? t = some old) (hf0 : w.frozen? t = false) :
    Calls Tryz.prog 62 #[.iface 96 (.pointer (some e)), .iface 98 (.pointer (some t)), .agg #[.pointer (some ⟨1, 98, none⟩), .pointer (some a), .int .u64 150], .iface 173 (.agg #[.pointer (some ⟨1, 96, none⟩)])] w fun ev w' =>
      ev = .returned (.bool true) ∧ w' = ((w.alloc (.cells #[.pointer (some ⟨1, 98, none⟩), .pointer (some a), .int .u64 150] 136)).alloc (.cells #[.pointer (some e)] 96)).setCell t (.pointer (some e)) := by
  have h33 := x33
  have h95 := x95
  have h44 := x44
  have h29 := x29
  have h45 := x45
  have f1 := Tryz.typeOf30
  have f2 := Tryz.methodAssignableTo
  have f3 := Tryz.asg3030
  have f4 := Tryz.valueOf30
  have htl : t.block < w.heap.size := by
    rcases Nat.lt_or_ge t.block w.heap.size with h | h
    · exact h
    · simp [World.cell?, Array.getElem?_eq_none h] at ht0
  have hal : a.block < w.heap.size := by
    rcases Nat.lt_or_ge a.block w.heap.size with h | h
    · exact h
    · simp [World.cell?, Array.getElem?_eq_none h] at ha
  have el := Tryz.elemV32 a t (w.alloc (.cells #[.pointer (some ⟨1, 98, none⟩), .pointer (some a), .int .u64 150] 136)) (by rw [World.cell?_alloc_lt _ _ a hal]; exact ha)
  have st := Tryz.set30 t ⟨w.heap.size + 1, 0, none⟩ e old ((w.alloc (.cells #[.pointer (some ⟨1, 98, none⟩), .pointer (some a), .int .u64 150] 136)).alloc (.cells #[.pointer (some e)] 96))
    (by rw [World.cell?_alloc_at _ _ _ _ (by simp)]; rfl)
    (by rw [World.cell?_alloc_lt _ _ t (by simp; omega), World.cell?_alloc_lt _ _ t htl]; exact ht0)
    (by rw [World.frozen?_alloc_old _ _ t (by simp; omega), World.frozen?_alloc_old _ _ t (Nat.ne_of_lt htl)]; exact hf0)
  go_enter Tryz.func62, Tryz.ntmps62
  go_wp2
  refine wp_loop_rounds 1 ?_
  rw [rounds_succ]
  go_wp2
  go_ret
  exact ⟨rfl, rfl⟩
end Go.Proofs.YtbkclhaonbjobaaGreatDoor

namespace Go.Proofs.YtbkclhaonbjobaaGreatDoor
open Go.RowKit Go.Extern

theorem Tryz.noAs30 (v : Value) (xT : TypeId) (w : World) : (Instr.typeAssert (.iface 96 v) xT 177 true).run Tryz.prog w = .ok (.tuple #[.nilIface, .bool false]) w := run_typeAssert_lacksB Tryz.underlying177 (by kernel_rfl) (by kernel_rfl) v xT w
theorem Tryz.noAs24 (v : Value) (xT : TypeId) (w : World) : (Instr.typeAssert (.iface 59 v) xT 177 true).run Tryz.prog w = .ok (.tuple #[.nilIface, .bool false]) w := run_typeAssert_lacksB Tryz.underlying177 (by kernel_rfl) (by kernel_rfl) v xT w
theorem Tryz.noIs30 (v : Value) (xT : TypeId) (w : World) : (Instr.typeAssert (.iface 96 v) xT 185 true).run Tryz.prog w = .ok (.tuple #[.nilIface, .bool false]) w := run_typeAssert_lacksB Tryz.underlying185 (by kernel_rfl) (by kernel_rfl) v xT w
theorem Tryz.noIs24 (v : Value) (xT : TypeId) (w : World) : (Instr.typeAssert (.iface 59 v) xT 185 true).run Tryz.prog w = .ok (.tuple #[.nilIface, .bool false]) w := run_typeAssert_lacksB Tryz.underlying185 (by kernel_rfl) (by kernel_rfl) v xT w
theorem Tryz.un30 (v : Value) (xT : TypeId) (w : World) : (Instr.typeAssert (.iface 96 v) xT 180 true).run Tryz.prog w = .ok (.tuple #[.iface 96 v, .bool true]) w := run_typeAssert_hasB Tryz.underlying180 (by kernel_rfl) v xT w
theorem Tryz.noUn24 (v : Value) (xT : TypeId) (w : World) : (Instr.typeAssert (.iface 59 v) xT 180 true).run Tryz.prog w = .ok (.tuple #[.nilIface, .bool false]) w := run_typeAssert_lacksB Tryz.underlying180 (by kernel_rfl) (by kernel_rfl) v xT w
theorem Tryz.noUns24 (v : Value) (xT : TypeId) (w : World) : (Instr.typeAssert (.iface 59 v) xT 182 true).run Tryz.prog w = .ok (.tuple #[.nilIface, .bool false]) w := run_typeAssert_lacksB Tryz.underlying182 (by kernel_rfl) (by kernel_rfl) v xT w
theorem Tryz.methodUnwrap (a : Addr) (w : World) : (Go.method 389 96 (.pointer (some a)) "Unwrap").run Tryz.prog w = .ok (172, .pointer (some a)) w := by kernel_rfl

/-- How deep a chain is, as far as n steps show. -/
def depthOf (w : World) : Nat → Value → Nat
  | n + 1, .iface 96 (.pointer (some ⟨b, 0, none⟩)) => match w.cell? ⟨b, 2, none⟩ with
    | some u => depthOf w n u + 1
    | none => 0
  | _, _ => 0
theorem cell_of_fault {w : World} {b : Nat} {c0 c1 c2 : Value} (h : w.heap[b]? = some (.cells #[c0, c1, c2] 100)) :
    w.cell? ⟨b, 0, none⟩ = some c0 ∧ w.cell? ⟨b, 1, none⟩ = some c1 ∧ w.cell? ⟨b, 2, none⟩ = some c2 := by
  simp [World.cell?, h]
theorem depth_isErr {w : World} {tv : Value} (htv : ∀ n, depthOf w n tv = 0) : ∀ (n : Nat) {ps : List (Int × Int)} {v : Value}, IsErr w tv ps v → ps.length ≤ n → depthOf w n v = ps.length
  | n, [], v, h, _ => by
    obtain rfl : v = tv := h
    exact htv n
  | 0, _ :: _, _, _, h => by simp at h
  | n + 1, p :: ps, v, ⟨b, u, e, hb, hr⟩, h => by
    subst e
    simp only [depthOf, (cell_of_fault hb).2.2]
    rw [depth_isErr htv n hr (by simpa using h)]
    rfl
theorem depth24 (w : World) (n : Nat) (x : Value) : depthOf w n (.iface 59 x) = 0 := by cases n <;> simp [depthOf]
set_option maxHeartbeats 4000000 in
/-- the inner errors.as: a chain that ends in a number, at a target of numbers. -/
theorem as77_num (ps : List (Int × Int)) (n : Int) (v : Value) (t a : Addr) (old : Value) (w : World) (hv : IsErr w (.iface 59 (.int .i64 n)) ps v) (ha : w.cell? a = some (.pointer (some t))) (ht0 : w.cell? t = some old) (hf0 : w.frozen? t = false) :
    Calls Tryz.prog 62 #[v, .iface 101 (.pointer (some t)), .agg #[.pointer (some ⟨1, 101, none⟩), .pointer (some a), .int .u64 150], .iface 173 (.agg #[.pointer (some ⟨1, 59, none⟩)])] w fun ev w' =>
      ev = .returned (.bool true) ∧ w' = ((w.alloc (.cells #[.pointer (some ⟨1, 101, none⟩), .pointer (some a), .int .u64 150] 136)).alloc (.cells #[.int .i64 n] 59)).setCell t (.int .i64 n) := by
  have h33 := x33
  have h95 := x95
  have h44 := x44
  have h29 := x29
  have h45 := x45
  have f1 := Tryz.typeOf30
  have f1' := Tryz.typeOf24
  have f2 := Tryz.methodAssignableTo
  have f3 := Tryz.asg3024
  have f3' := Tryz.asg2424
  have f4 := Tryz.valueOf24
  have g1 := Tryz.noAs30
  have g2 := Tryz.un30
  have g3 := Tryz.methodUnwrap
  have htl : t.block < w.heap.size := by
    rcases Nat.lt_or_ge t.block w.heap.size with h | h
    · exact h
    · simp [World.cell?, Array.getElem?_eq_none h] at ht0
  have hal : a.block < w.heap.size := by
    rcases Nat.lt_or_ge a.block w.heap.size with h | h
    · exact h
    · simp [World.cell?, Array.getElem?_eq_none h] at ha
  have el := Tryz.elemV77 a t (w.alloc (.cells #[.pointer (some ⟨1, 101, none⟩), .pointer (some a), .int .u64 150] 136)) (by rw [World.cell?_alloc_lt _ _ a hal]; exact ha)
  have st := Tryz.set24 t ⟨w.heap.size + 1, 0, none⟩ n old ((w.alloc (.cells #[.pointer (some ⟨1, 101, none⟩), .pointer (some a), .int .u64 150] 136)).alloc (.cells #[.int .i64 n] 59))
    (by rw [World.cell?_alloc_at _ _ _ _ (by simp)]; rfl)
    (by rw [World.cell?_alloc_lt _ _ t (by simp; omega), World.cell?_alloc_lt _ _ t htl]; exact ht0)
    (by rw [World.frozen?_alloc_old _ _ t (by simp; omega), World.frozen?_alloc_old _ _ t (Nat.ne_of_lt htl)]; exact hf0)
  go_enter Tryz.func62, Tryz.ntmps62
  go_wp2
  go_loop [0] (fun u => ∃ qs : List (Int × Int), qs.length ≤ ps.length ∧ IsErr w (.iface 59 (.int .i64 n)) qs u) (fun u => depthOf w ps.length u)
  case atStart => exact ⟨ps, Nat.le_refl _, hv⟩
  case round =>
    obtain ⟨qs, hl, hq⟩ := hrel
    have hd := depth_isErr (fun m => depth24 w m _) ps.length hq hl
    cases qs with
    | nil =>
      obtain rfl := hq
      clear hd
      go_wp2
      go_ret
      exact ⟨rfl, rfl⟩
    | cons q qs =>
      obtain ⟨b, u', rfl, hb, hr⟩ := hq
      have hc : (w.alloc (.cells #[.pointer (some ⟨1, 101, none⟩), .pointer (some a), .int .u64 150] 136)).cell? ⟨b, 2, none⟩ = some u' := by
        rw [World.cell?_alloc_lt _ _ _ (lt_of_get hb)]; exact (cell_of_fault hb).2.2
      have hd' := depth_isErr (fun m => depth24 w m _) ps.length hr (by simp at hl; omega)
      have HD : Hid (depthOf w ps.length u' < depthOf w ps.length (.iface 96 (.pointer (some ⟨b, 0, none⟩)))) := by show _ < _; rw [hd, hd']; simp
      clear hd hd'
      have HR : Hid (IsErr w (.iface 59 (.int .i64 n)) qs u') := hr
      clear hr
      cases u' with
      | nilIface =>
        exfalso
        have := HR.out
        cases qs with
        | nil => cases this
        | cons q' qs' => obtain ⟨_, _, e, _⟩ := this; cases e
      | iface t' x' =>
        go_wp2_with (go_at_call 172; refine (unwrap_fault b _ _ hc).mono ?_; rintro e w' ⟨rfl, rfl⟩)
        go_round
        case rel => exact ⟨qs, by simp at hl; omega, HR.out⟩
        case measure => exact HD.out
      | _ => 
        exfalso
        have := HR.out
        cases qs with
        | nil => cases this
        | cons q' qs' => obtain ⟨_, _, e, _⟩ := this; cases e
end Go.Proofs.YtbkclhaonbjobaaGreatDoor

namespace Go.Proofs.YtbkclhaonbjobaaGreatDoor
open Go.RowKit Go.Extern

set_option maxHeartbeats 4000000 in
/-- the inner errors.as: a number at a target of faults. -/
theorem as32_num (x : Value) (t a : Addr) (w : World) :
    Calls Tryz.prog 62 #[.iface 59 x, .iface 98 (.pointer (some t)), .agg #[.pointer (some ⟨1, 98, none⟩), .pointer (some a), .int .u64 150], .iface 173 (.agg #[.pointer (some ⟨1, 96, none⟩)])] w fun ev w' =>
      ev = .returned (.bool false) ∧ w' = w.alloc (.cells #[.pointer (some ⟨1, 98, none⟩), .pointer (some a), .int .u64 150] 136) := by
  have h33 := x33
  have h95 := x95
  have f1 := Tryz.typeOf24
  have f2 := Tryz.methodAssignableTo
  have f3 := Tryz.asg2430
  have g1 := Tryz.noAs24
  have g2 := Tryz.noUn24
  have g3 := Tryz.noUns24
  go_enter Tryz.func62, Tryz.ntmps62
  go_wp2
  refine wp_loop_rounds 1 ?_
  rw [rounds_succ]
  go_wp2
  go_ret
  exact ⟨rfl, rfl⟩

end Go.Proofs.YtbkclhaonbjobaaGreatDoor

namespace Go.Proofs.YtbkclhaonbjobaaGreatDoor
open Go.RowKit Go.Extern

/-- what errors.As lays ahead of the inner call. -/
theorem as_facts (w : World) (hg : w.cell? ⟨0, 0, none⟩ = some (.iface 173 (.agg #[.pointer (some ⟨1, 38, none⟩)]))) : 0 < w.heap.size := by
  rcases Nat.eq_zero_or_pos w.heap.size with h0 | h
  · simp [World.cell?, h0] at hg
  · exact h

/-- the world that the inner call of errors.As begins in. -/
def asW (w : World) (T : Nat) (t : Addr) : World :=
  (w.alloc (.cells #[.pointer (some t)] T)).alloc (.cells #[.pointer (some ⟨1, T, none⟩), .pointer (some ⟨w.heap.size, 0, none⟩), .int .u64 150] 136)

set_option maxHeartbeats 4000000 in
theorem as32_calls (t : Addr) (v x : Value) (T : Nat) (w : World) (Q : Ending → World → Prop) (hv : v = .iface T x) (hg : w.cell? ⟨0, 0, none⟩ = some (.iface 173 (.agg #[.pointer (some ⟨1, 38, none⟩)])))
    (hin : Calls Tryz.prog 62 #[v, .iface 98 (.pointer (some t)), .agg #[.pointer (some ⟨1, 98, none⟩), .pointer (some ⟨w.heap.size, 0, none⟩), .int .u64 150], .iface 173 (.agg #[.pointer (some ⟨1, 96, none⟩)])] (asW w 98 t) fun e w' => ∃ b : Bool, e = .returned (.bool b) ∧ Q (.returned (.bool b)) w') :
    Calls Tryz.prog 34 #[v, .iface 98 (.pointer (some t))] w Q := by
  subst hv
  have h29 := x29
  have h30 := x30
  have h31 := x31
  have h85 := x85
  have h97 := x97
  have h98 := x98
  have f1 := Tryz.valueOf32
  have f2 := Tryz.type32
  have f3 := Tryz.methodKind
  have f4 := Tryz.methodElem
  have f5 := Tryz.methodImplements
  have f6 := Tryz.kind32
  have f7 := Tryz.kind30
  have f8 := Tryz.elem32
  have f9 := Tryz.implements30
  have hlt := as_facts w hg
  have n8 := Tryz.isNil32 ⟨w.heap.size, 0, none⟩ t (asW w 98 t) (by simp [asW])
  have hg2 : (asW w 98 t).cell? ⟨0, 0, none⟩ = some (.iface 173 (.agg #[.pointer (some ⟨1, 38, none⟩)])) := by
    unfold asW
    rw [World.cell?_alloc_lt _ _ ⟨0, 0, none⟩ (by simp), World.cell?_alloc_lt _ _ ⟨0, 0, none⟩ hlt]; exact hg
  have Hin := hin
  clear hin
  unfold asW at n8 hg2 Hin
  have HIN : Hid (Calls Tryz.prog 62 #[.iface T x, .iface 98 (.pointer (some t)), .agg #[.pointer (some ⟨1, 98, none⟩), .pointer (some ⟨w.heap.size, 0, none⟩), .int .u64 150], .iface 173 (.agg #[.pointer (some ⟨1, 96, none⟩)])] ((w.alloc (.cells #[.pointer (some t)] 98)).alloc (.cells #[.pointer (some ⟨1, 98, none⟩), .pointer (some ⟨w.heap.size, 0, none⟩), .int .u64 150] 136)) fun e w' => ∃ b : Bool, e = .returned (.bool b) ∧ Q (.returned (.bool b)) w') := Hin
  clear Hin
  go_enter Tryz.func34, Tryz.ntmps34
  go_wp2_with (go_at_call 62; refine HIN.out.mono ?_; rintro e w' ⟨b, rfl, hQ⟩)
  exact hQ

set_option maxHeartbeats 4000000 in
theorem as77_calls (t : Addr) (v x : Value) (T : Nat) (w : World) (Q : Ending → World → Prop) (hv : v = .iface T x) (hg : w.cell? ⟨0, 0, none⟩ = some (.iface 173 (.agg #[.pointer (some ⟨1, 38, none⟩)])))
    (hin : Calls Tryz.prog 62 #[v, .iface 101 (.pointer (some t)), .agg #[.pointer (some ⟨1, 101, none⟩), .pointer (some ⟨w.heap.size, 0, none⟩), .int .u64 150], .iface 173 (.agg #[.pointer (some ⟨1, 59, none⟩)])] (asW w 101 t) fun e w' => ∃ b : Bool, e = .returned (.bool b) ∧ Q (.returned (.bool b)) w') :
    Calls Tryz.prog 34 #[v, .iface 101 (.pointer (some t))] w Q := by
  subst hv
  have h29 := x29
  have h30 := x30
  have h31 := x31
  have h85 := x85
  have h97 := x97
  have h98 := x98
  have f1 := Tryz.valueOf77
  have f2 := Tryz.type77
  have f3 := Tryz.methodKind
  have f4 := Tryz.methodElem
  have f5 := Tryz.methodImplements
  have f6 := Tryz.kind77
  have f7 := Tryz.kind24
  have f8 := Tryz.elem77
  have f9 := Tryz.implements24
  have hlt := as_facts w hg
  have n8 := Tryz.isNil77 ⟨w.heap.size, 0, none⟩ t (asW w 101 t) (by simp [asW])
  have hg2 : (asW w 101 t).cell? ⟨0, 0, none⟩ = some (.iface 173 (.agg #[.pointer (some ⟨1, 38, none⟩)])) := by
    unfold asW
    rw [World.cell?_alloc_lt _ _ ⟨0, 0, none⟩ (by simp), World.cell?_alloc_lt _ _ ⟨0, 0, none⟩ hlt]; exact hg
  have Hin := hin
  clear hin
  unfold asW at n8 hg2 Hin
  have HIN : Hid (Calls Tryz.prog 62 #[.iface T x, .iface 101 (.pointer (some t)), .agg #[.pointer (some ⟨1, 101, none⟩), .pointer (some ⟨w.heap.size, 0, none⟩), .int .u64 150], .iface 173 (.agg #[.pointer (some ⟨1, 59, none⟩)])] ((w.alloc (.cells #[.pointer (some t)] 101)).alloc (.cells #[.pointer (some ⟨1, 101, none⟩), .pointer (some ⟨w.heap.size, 0, none⟩), .int .u64 150] 136)) fun e w' => ∃ b : Bool, e = .returned (.bool b) ∧ Q (.returned (.bool b)) w') := Hin
  clear Hin
  go_enter Tryz.func34, Tryz.ntmps34
  go_wp2_with (go_at_call 62; refine HIN.out.mono ?_; rintro e w' ⟨b, rfl, hQ⟩)
  exact hQ

theorem heap_setCell_one {w : World} {b : Nat} {v u : Value} {T : TypeId} (hb : w.heap[b]? = some (.cells #[v] T)) : (w.setCell ⟨b, 0, none⟩ u).heap[b]? = some (.cells #[u] T) := by
  simp [World.setCell, Array.getElem?_modify, hb]
theorem asW_old {w : World} {T : Nat} {t : Addr} {k : Nat} (hk : k < w.heap.size) : (asW w T t).heap[k]? = w.heap[k]? := by
  unfold asW
  rw [Below.heap_alloc _ _ _ (by simp; omega), Below.heap_alloc _ _ _ hk]
theorem asW_size (w : World) (T : Nat) (t : Addr) : (asW w T t).heap.size = w.heap.size + 1 + 1 := by simp [asW]
theorem asW_below (w : World) (T : Nat) (t : Addr) : Below w.heap.size w (asW w T t) :=
  ((Below.refl _ _).alloc (Nat.le_refl _) _).alloc (by simp) _
theorem asW_cell (w : World) (T : Nat) (t : Addr) : (asW w T t).cell? ⟨w.heap.size, 0, none⟩ = some (.pointer (some t)) := by simp [asW]
theorem cell_one {w : World} {b : Nat} {v : Value} {T : TypeId} (hb : w.heap[b]? = some (.cells #[v] T)) : w.cell? ⟨b, 0, none⟩ = some v ∧ w.frozen? ⟨b, 0, none⟩ = false := by
  simp [World.cell?, World.frozen?, hb]
theorem touch_end {w W : World} {tb : Nat} {old u : Value} {T : TypeId} {A B : Obj} (ht : w.heap[tb]? = some (.cells #[old] T)) (hW : Below w.heap.size w W) :
    (((W.alloc A).alloc B).setCell ⟨tb, 0, none⟩ u).heap[tb]? = some (.cells #[u] T) ∧ Touch tb w (((W.alloc A).alloc B).setCell ⟨tb, 0, none⟩ u) := by
  have hlt := lt_of_get ht
  have hs := hW.size
  refine ⟨heap_setCell_one (v := old) ?_, ⟨?_, ?_, ?_, ?_, fun k hk hne => ?_⟩⟩
  · rw [Below.heap_alloc _ _ _ (by simp; omega), Below.heap_alloc _ _ _ (by omega), hW.block tb hlt]; exact ht
  · exact hW.os
  · exact hW.tape
  · exact hW.output
  · simp; omega
  · rw [Below.heap_setCell _ _ _ _ hne, Below.heap_alloc _ _ _ (by simp; omega), Below.heap_alloc _ _ _ (by omega), hW.block k hk]

/-- errors.As of a fault at a target of faults: true; the target is that fault; all else is as it was. -/
theorem as_fault (e : Addr) (tb : Nat) (old : Value) (w : World) (hg : w.cell? ⟨0, 0, none⟩ = some (.iface 173 (.agg #[.pointer (some ⟨1, 38, none⟩)]))) (ht : w.heap[tb]? = some (.cells #[old] 96)) :
    Calls Tryz.prog 34 #[.iface 96 (.pointer (some e)), .iface 98 (.pointer (some ⟨tb, 0, none⟩))] w fun ev w' => ev = .returned (.bool true) ∧ w'.heap[tb]? = some (.cells #[.pointer (some e)] 96) ∧ Touch tb w w' := by
  have hlt := lt_of_get ht
  have htW : (asW w 98 ⟨tb, 0, none⟩).heap[tb]? = some (.cells #[old] 96) := by rw [asW_old hlt]; exact ht
  refine as32_calls ⟨tb, 0, none⟩ _ _ 96 w _ rfl hg ?_
  refine (as32_hit e ⟨tb, 0, none⟩ ⟨w.heap.size, 0, none⟩ old _ (asW_cell w 98 _) (cell_one htW).1 (cell_one htW).2).mono ?_
  rintro ev w' ⟨rfl, rfl⟩
  have h := touch_end (u := .pointer (some e)) (A := .cells #[.pointer (some ⟨1, 98, none⟩), .pointer (some ⟨w.heap.size, 0, none⟩), .int .u64 150] 136) (B := .cells #[.pointer (some e)] 96) ht (asW_below w 98 ⟨tb, 0, none⟩)
  exact ⟨true, rfl, rfl, h.1, h.2⟩

/-- errors.As of a number at a target of faults: false; new blocks alone. -/
theorem as_fault_no (x : Value) (t : Addr) (w : World) (hg : w.cell? ⟨0, 0, none⟩ = some (.iface 173 (.agg #[.pointer (some ⟨1, 38, none⟩)]))) :
    Calls Tryz.prog 34 #[.iface 59 x, .iface 98 (.pointer (some t))] w fun ev w' => ev = .returned (.bool false) ∧ Below w.heap.size w w' := by
  refine as32_calls t _ _ 59 w _ rfl hg ?_
  refine (as32_num x t ⟨w.heap.size, 0, none⟩ _).mono ?_
  rintro ev w' ⟨rfl, rfl⟩
  exact ⟨false, rfl, rfl, (asW_below w 98 t).alloc (by rw [asW_size]; omega) _⟩

theorem isErr_iface {w : World} {ps : List (Int × Int)} {n : Int} {v : Value} (h : IsErr w (.iface 59 (.int .i64 n)) ps v) : ∃ T x, v = .iface T x := by
  cases ps with
  | nil => exact ⟨59, .int .i64 n, h⟩
  | cons p ps => obtain ⟨b, u, e, _⟩ := h; exact ⟨96, _, e⟩

/-- errors.As at a target of numbers, over a chain that ends in a number. -/
theorem as_num (ps : List (Int × Int)) (n : Int) (v : Value) (tb : Nat) (old : Value) (w : World) (hv : IsErr w (.iface 59 (.int .i64 n)) ps v) (hg : w.cell? ⟨0, 0, none⟩ = some (.iface 173 (.agg #[.pointer (some ⟨1, 38, none⟩)]))) (ht : w.heap[tb]? = some (.cells #[old] 59)) :
    Calls Tryz.prog 34 #[v, .iface 101 (.pointer (some ⟨tb, 0, none⟩))] w fun ev w' => ev = .returned (.bool true) ∧ w'.heap[tb]? = some (.cells #[.int .i64 n] 59) ∧ Touch tb w w' := by
  have hlt := lt_of_get ht
  have htW : (asW w 101 ⟨tb, 0, none⟩).heap[tb]? = some (.cells #[old] 59) := by rw [asW_old hlt]; exact ht
  obtain ⟨T, x, hx⟩ := isErr_iface hv
  refine as77_calls ⟨tb, 0, none⟩ v x T w _ hx hg ?_
  refine (as77_num ps n v ⟨tb, 0, none⟩ ⟨w.heap.size, 0, none⟩ old _ (hv.keep (Below.keeps (asW_below w 101 _))) (asW_cell w 101 _) (cell_one htW).1 (cell_one htW).2).mono ?_
  rintro ev w' ⟨rfl, rfl⟩
  have h := touch_end (u := .int .i64 n) (A := .cells #[.pointer (some ⟨1, 101, none⟩), .pointer (some ⟨w.heap.size, 0, none⟩), .int .u64 150] 136) (B := .cells #[.int .i64 n] 59) ht (asW_below w 101 ⟨tb, 0, none⟩)
  exact ⟨true, rfl, rfl, h.1, h.2⟩

end Go.Proofs.YtbkclhaonbjobaaGreatDoor

namespace Go.Proofs.YtbkclhaonbjobaaGreatDoor
open Go.RowKit Go.Extern

theorem run_equalIn_iface_int {P : Program} (w : World) (d : Nat) {ti tn : TypeId} {ms : Array (String × TypeId)} {i : TypeInfo} {k : IntKind} (a b : Int)
    (hi : P.underlying ti = some (.interface ms)) (hn : P.underlying tn = some (.int k)) (hinfo : P.info? tn = some i) (hcomp : i.comparable = true) :
    (Op.equalIn (d + 2) ti (.iface tn (.int k a)) (.iface tn (.int k b))).run P w = .ok (a == b) w := by
  simp [Op.equalIn, run_underlying hi, run_underlying hn, typeInfo, hinfo, hcomp]
theorem run_eql_iface_int {P : Program} (w : World) {ti tn : TypeId} {ms : Array (String × TypeId)} {i : TypeInfo} {k : IntKind} (a b : Int)
    (hi : P.underlying ti = some (.interface ms)) (hn : P.underlying tn = some (.int k)) (hinfo : P.info? tn = some i) (hcomp : i.comparable = true) :
    (binOp .eql ti (.iface tn (.int k a)) (.iface tn (.int k b))).run P w = .ok (.bool (a == b)) w := by
  simp only [binOp]
  simp [Op.equal, Op.maxDepth, run_equalIn_iface_int w 9998 a b hi hn hinfo hcomp]
theorem Tryz.eq2424 (a b : Int) (w : World) : (binOp .eql 38 (.iface 59 (.int .i64 a)) (.iface 59 (.int .i64 b))).run Tryz.prog w = .ok (.bool (a == b)) w := by
  obtain ⟨i, hi, hc⟩ : ∃ i, Tryz.prog.info? 59 = some i ∧ i.comparable = true := by
    have h : (Tryz.prog.info? 59).any (·.comparable) = true := by kernel_rfl
    cases hi : Tryz.prog.info? 59 with
    | none => rw [hi] at h; cases h
    | some i => rw [hi] at h; exact ⟨i, rfl, h⟩
  exact run_eql_iface_int w a b Tryz.underlying38 Tryz.underlying59 hi hc
theorem Tryz.eq3024 (a b : Value) (w : World) : (binOp .eql 38 (.iface 96 a) (.iface 59 b)).run Tryz.prog w = .ok (.bool false) w := run_eql_iface_types 96 59 a b Tryz.underlying38 (by decide) w

set_option maxHeartbeats 4000000 in
/-- the inner errors.is, over a chain that ends in a number. -/
theorem is_num (ps : List (Int × Int)) (n m : Int) (v : Value) (w : World) (hv : IsErr w (.iface 59 (.int .i64 n)) ps v) :
    Calls Tryz.prog 64 #[v, .iface 59 (.int .i64 m), .bool true] w fun ev w' => ev = .returned (.bool (n == m)) ∧ w' = w := by
  have q1 := Tryz.eq2424
  have q2 := Tryz.eq3024
  have g0 := Tryz.noIs24
  have g1 := Tryz.noIs30
  have g2 := Tryz.un30
  have g3 := Tryz.methodUnwrap
  have g4 := Tryz.noUn24
  have g5 := Tryz.noUns24
  go_enter Tryz.func64, Tryz.ntmps64
  go_wp2
  go_loop [0] (fun u => ∃ qs : List (Int × Int), qs.length ≤ ps.length ∧ IsErr w (.iface 59 (.int .i64 n)) qs u) (fun u => depthOf w ps.length u)
  case atStart => exact ⟨ps, Nat.le_refl _, hv⟩
  case round =>
    obtain ⟨qs, hl, hq⟩ := hrel
    have hd := depth_isErr (fun m => depth24 w m _) ps.length hq hl
    cases qs with
    | nil =>
      obtain rfl := hq
      clear hd
      cases hnm : (n == m)
      · go_wp2
        go_ret
        exact ⟨rfl, rfl⟩
      · go_wp2
        go_ret
        exact ⟨rfl, rfl⟩
    | cons q qs =>
      obtain ⟨b, u', rfl, hb, hr⟩ := hq
      have hc : w.cell? ⟨b, 2, none⟩ = some u' := (cell_of_fault hb).2.2
      have hd' := depth_isErr (fun m => depth24 w m _) ps.length hr (by simp at hl; omega)
      have HD : Hid (depthOf w ps.length u' < depthOf w ps.length (.iface 96 (.pointer (some ⟨b, 0, none⟩)))) := by show _ < _; rw [hd, hd']; simp
      clear hd hd'
      have HR : Hid (IsErr w (.iface 59 (.int .i64 n)) qs u') := hr
      obtain ⟨T, x, rfl⟩ : ∃ T x, u' = .iface T x := by
        cases qs with
        | nil => exact ⟨59, _, hr⟩
        | cons p' qs' => obtain ⟨_, _, e, _⟩ := hr; exact ⟨_, _, e⟩
      clear hr
      go_wp2_with (go_at_call 172; refine (unwrap_fault b _ _ hc).mono ?_; rintro e w' ⟨rfl, rfl⟩)
      go_round
      case rel => exact ⟨qs, by simp at hl; omega, HR.out⟩
      case measure => exact HD.out

theorem Tryz.c96 (w : World) : (callFunc 179 #[.agg #[.pointer (some ⟨1, 59, none⟩)]]).run Tryz.prog w = .ok (.value (.bool true)) w := by
  rw [x96, Tryz.comparable24]; rfl

set_option maxHeartbeats 4000000 in
/-- errors.Is at a number, of an error that is there, by the inner call. -/
theorem is_outer (v x : Value) (T : Nat) (m : Int) (w : World) (b : Bool) (hv : v = .iface T x)
    (hin : Calls Tryz.prog 64 #[v, .iface 59 (.int .i64 m), .bool true] w fun ev w' => ev = .returned (.bool b) ∧ w' = w) :
    Calls Tryz.prog 35 #[v, .iface 59 (.int .i64 m)] w fun ev w' => ev = .returned (.bool b) ∧ w' = w := by
  subst hv
  have h33 := x33
  have f1 := Tryz.typeOf24
  have f2 := Tryz.methodComparable
  have f3 := Tryz.c96
  have HIN : Hid (Calls Tryz.prog 64 #[.iface T x, .iface 59 (.int .i64 m), .bool true] w fun ev w' => ev = .returned (.bool b) ∧ w' = w) := hin
  clear hin
  go_enter Tryz.func35, Tryz.ntmps35
  go_wp2_with (go_at_call 64; refine HIN.out.mono ?_; rintro e w' ⟨rfl, rfl⟩)
  go_ret
  exact ⟨rfl, rfl⟩

/-- errors.Is at a number, over a chain that ends in a number. -/
theorem errorsIs_num (ps : List (Int × Int)) (n m : Int) (v : Value) (w : World) (hv : IsErr w (.iface 59 (.int .i64 n)) ps v) :
    Calls Tryz.prog 35 #[v, .iface 59 (.int .i64 m)] w fun ev w' => ev = .returned (.bool (n == m)) ∧ w' = w := by
  have h := is_num ps n m v w hv
  cases ps with
  | nil => exact is_outer v _ 59 m w _ hv h
  | cons p ps => obtain ⟨b, u, e, _⟩ := hv; exact is_outer v _ 96 m w _ e h
end Go.Proofs.YtbkclhaonbjobaaGreatDoor
