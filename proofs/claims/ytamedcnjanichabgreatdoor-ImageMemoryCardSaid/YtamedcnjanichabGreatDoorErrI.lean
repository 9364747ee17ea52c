/- errors.Is at a number over a chain of faults that ends in a number or in nothing. -/
import Derived.Test.YtamedcnjanichabGreatDoorErrD
namespace Go.Proofs.YtamedcnjanichabGreatDoor
open Go.RowKit Go.Extern

theorem run_equalIn_iface_int {P : Program} (w : World) (d : Nat) {ti tn : TypeId} {ms : Array (String × TypeId)} {i : TypeInfo} {k : IntKind} (a b : Int)
    (hi : P.underlying ti = some (.interface ms)) (hn : P.underlying tn = some (.int k)) (hinfo : P.info? tn = some i) (hcomp : i.comparable = true) :
    (Op.equalIn (d + 2) ti (.iface tn (.int k a)) (.iface tn (.int k b))).run P w = .ok (a == b) w := by
  simp [Op.equalIn, run_underlying hi, run_underlying hn, typeInfo, hinfo, hcomp]
theorem run_eql_iface_int {P : Program} (w : World) {ti tn : TypeId} {ms : Array (String × TypeId)} {i : TypeInfo} {k : IntKind} (a b : Int)
    (hi : P.underlying ti = some (.interface ms)) (hn : P.underlying tn = some (.int k)) (hinfo : P.info? tn = some i) (hcomp : i.comparable = true) :
    (binOp .eql ti (.iface tn (.int k a)) (.iface tn (.int k b))).run P w = .ok (.bool (a == b)) w := by
  simp only [binOp]
  simp [Op.equal, Op.maxDepth, run_equalIn_iface_int w 9998 a b hi hn hinfo hcomp]
theorem Tryz.eq2424 (a b : Int) (w : World) : (binOp .eql 30 (.iface 76 (.int .i64 a)) (.iface 76 (.int .i64 b))).run Tryz.prog w = .ok (.bool (a == b)) w := by
  obtain ⟨i, hi, hc⟩ : ∃ i, Tryz.prog.info? 76 = some i ∧ i.comparable = true := by
    have h : (Tryz.prog.info? 76).any (·.comparable) = true := by kernel_rfl
    cases hi : Tryz.prog.info? 76 with
    | none => rw [hi] at h; cases h
    | some i => rw [hi] at h; exact ⟨i, rfl, h⟩
  exact run_eql_iface_int w a b Tryz.underlying30 Tryz.underlying76 hi hc
theorem Tryz.eq3024 (a b : Value) (w : World) : (binOp .eql 30 (.iface 73 a) (.iface 76 b)).run Tryz.prog w = .ok (.bool false) w := run_eql_iface_types 73 76 a b Tryz.underlying30 (by decide) w

theorem Tryz.c96 (w : World) : (callFunc 121 #[.agg #[.pointer (some ⟨2, 76, none⟩)]]).run Tryz.prog w = .ok (.value (.bool true)) w := by
  rw [x96, Tryz.comparable24]; rfl

end Go.Proofs.YtamedcnjanichabGreatDoor
