/- hier.Ends. -/
import Derived.Test.YtodilocmfdeehaaGreatDoorHrI
namespace Go.Proofs.YtodilocmfdeehaaGreatDoor.Hi
open Go.RowKit Go.Extern Go.Shelf

attribute [local go_sem] Oper.semAt_some

theorem chk_ok {h : Hr} (hc : chk h = (0, [])) : h.node.length ≤ 65536 ∧ h.up.length + h.dn.length ≤ 1048576 ∧ h.upF.length = h.node.length + 1 ∧ h.dnF.length = h.node.length + 1 ∧ FOk h.upF h.up.length ∧ FOk h.dnF h.dn.length ∧ cn h.node = (0, []) ∧ cl h.node.length (stds h) = (0, []) := by
  unfold chk at hc
  split at hc
  · simp at hc
  · rename_i h1
    split at hc
    · simp at hc
    · rename_i h2
      simp only [not_or, Nat.not_lt] at h1
      simp only [not_or, ne_eq, Decidable.not_not] at h2
      obtain ⟨e1, hc⟩ := orE_ok.1 hc
      obtain ⟨e2, hc⟩ := orE_ok.1 hc
      obtain ⟨e3, e4⟩ := orE_ok.1 hc
      exact ⟨h1.1, h1.2, h2.1, h2.2, (cf_ok (by omega)).1 e1, (cf_ok (by omega)).1 e2, e3, e4⟩
/-- what Ends answers of a hierarchy in form. -/
def endsE (h : Hr) (i : Int) : Int × Int × (Int × List (Int × Int)) := if 0 ≤ i ∧ i < ((stds h).length : Int) then (((sd (stds h) i.toNat).tail : Int), ((sd (stds h) i.toNat).head : Int), (0, [])) else (0, 0, (1, []))
/-- while Ends looks for the link. -/
structure ENI (w : World) (v : HV) (h : Hr) (z : Nat) (i : Int) (r1 r2 r3 : Value) (Wc : World) : Prop where
  bi : Boxed Wc (z + 1) 3 (.int .i64 i)
  b1 : Boxed Wc (z + 1 + 1) 3 r1
  b2 : Boxed Wc (z + 1 + 1 + 1) 3 r2
  b3 : Boxed Wc (z + 1 + 1 + 1 + 1) 30 r3
  bx : Wc.heap[z]? = some (.cells (cellsH v h) 25)
  bl : Below z w Wc
end Go.Proofs.YtodilocmfdeehaaGreatDoor.Hi
