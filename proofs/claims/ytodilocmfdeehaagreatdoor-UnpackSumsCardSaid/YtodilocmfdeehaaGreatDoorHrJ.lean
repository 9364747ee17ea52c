/- hier.Ends. -/
import Derived.Test.YtodilocmfdeehaaGreatDoorHrI
namespace Go.Proofs.YtodilocmfdeehaaGreatDoor.Hi
open Go.RowKit Go.Extern Go.Shelf

attribute [local go_sem] Oper.semAt_some

theorem chk_ok {h : Hr} (hc : chk h = (0, [])) : h.node.length ≤ 65536 ∧ h.up.length + h.dn.length ≤ 1048576 ∧ h.upF.length = h.node.length + 1 ∧ h.dnF.length = h.node.length + 1 ∧ FOk h.upF h.up.length ∧ FOk h.dnF h.dn.length ∧ cn h.node = (0, []) ∧ cl h.node.length (stds h) = (0, []) := by
  unfold chk at hc
  split at hc
  · simp at hc
  · rename_i h1
    split at hc
    · simp at hc
    · rename_i h2
      simp only [not_or, Nat.not_lt] at h1
      simp only [not_or, ne_eq, Decidable.not_not] at h2
      obtain ⟨e1, hc⟩ := orE_ok.1 hc
      obtain ⟨e2, hc⟩ := orE_ok.1 hc
      obtain ⟨e3, e4⟩ := orE_ok.1 hc
      exact ⟨h1.1, h1.2, h2.1, h2.2, (cf_ok (by omega)).1 e1, (cf_ok (by omega)).1 e2, e3, e4⟩
/-- what Ends answers of a hierarchy in form. -/
def endsE (h : Hr) (i : Int) : Int × Int × (Int × List (Int × Int)) := if 0 ≤ i ∧ i < ((stds h).length : Int) then (((sd (stds h) i.toNat).tail : Int), ((sd (stds h) i.toNat).head : Int), (0, [])) else (0, 0, (1, []))
/-- while Ends looks for the link. -/
structure ENI (w : World) (v : HV) (h : Hr) (z : Nat) (i : Int) (r1 r2 r3 : Value) (Wc : World) : Prop where
  bi : Boxed Wc (z + 1) 3 (.int .i64 i)
  b1 : Boxed Wc (z + 1 + 1) 3 r1
  b2 : Boxed Wc (z + 1 + 1 + 1) 3 r2
  b3 : Boxed Wc (z + 1 + 1 + 1 + 1) 30 r3
  bx : Wc.heap[z]? = some (.cells (cellsH v h) 25)
  bl : Below z w Wc
theorem ENI.below {w : World} {v : HV} {h : Hr} {z : Nat} {i : Int} {r1 r2 r3 : Value} {A C : World} {B : Nat} (g : ENI w v h z i r1 r2 r3 A) (hb : Below B A C) (hB : z + 1 + 1 + 1 + 1 < B) : ENI w v h z i r1 r2 r3 C :=
  ⟨(hb.block _ (by omega)).trans g.bi, (hb.block _ (by omega)).trans g.b1, (hb.block _ (by omega)).trans g.b2, (hb.block _ (by omega)).trans g.b3, (hb.block _ (by omega)).trans g.bx, g.bl.trans (hb.mono (by omega))⟩

theorem ENI.set3 {w : World} {v : HV} {h : Hr} {z : Nat} {i : Int} {r1 r2 r3 : Value} {A : World} (g : ENI w v h z i r1 r2 r3 A) (x1 x2 x3 : Value) : ENI w v h z i x1 x2 x3 (((A.setCell ⟨z + 1 + 1, 0, none⟩ x1).setCell ⟨z + 1 + 1 + 1, 0, none⟩ x2).setCell ⟨z + 1 + 1 + 1 + 1, 0, none⟩ x3) := by
  have ne : ∀ k, k ≠ z + 1 + 1 → k ≠ z + 1 + 1 + 1 → k ≠ z + 1 + 1 + 1 + 1 → (((A.setCell ⟨z + 1 + 1, 0, none⟩ x1).setCell ⟨z + 1 + 1 + 1, 0, none⟩ x2).setCell ⟨z + 1 + 1 + 1 + 1, 0, none⟩ x3).heap[k]? = A.heap[k]? := fun k h1 h2 h3 => (Below.heap_setCell _ _ _ _ h3).trans ((Below.heap_setCell _ _ _ _ h2).trans (Below.heap_setCell _ _ _ _ h1))
  refine ⟨(ne _ (by omega) (by omega) (by omega)).trans g.bi, ?_, ?_, ?_, (ne _ (by omega) (by omega) (by omega)).trans g.bx, ?_⟩
  · exact ((g.b1.set x1).other (by omega) _).other (by omega) _
  · exact ((g.b2.other (by omega) _).set x2).other (by omega) _
  · exact (((g.b3.other (by omega) _).other (by omega) _)).set x3
  · exact ((g.bl.setCell (p := ⟨z + 1 + 1, 0, none⟩) (by show z ≤ z + 1 + 1; omega) _).setCell (p := ⟨z + 1 + 1 + 1, 0, none⟩) (by show z ≤ z + 1 + 1 + 1; omega) _).setCell (p := ⟨z + 1 + 1 + 1 + 1, 0, none⟩) (by show z ≤ z + 1 + 1 + 1 + 1; omega) _
theorem keeps_set3 {Tn : Obj → Prop} {B z : Nat} {W A : World} (h : KeepsT Tn B W A) (hB : z + 1 + 1 + 1 + 1 < B) (x1 x2 x3 : Value) : KeepsT Tn B W (((A.setCell ⟨z + 1 + 1, 0, none⟩ x1).setCell ⟨z + 1 + 1 + 1, 0, none⟩ x2).setCell ⟨z + 1 + 1 + 1 + 1, 0, none⟩ x3) :=
  ((h.setCell (p := ⟨z + 1 + 1, 0, none⟩) (Or.inl (by show z + 1 + 1 < B; omega)) _).setCell (p := ⟨z + 1 + 1 + 1, 0, none⟩) (Or.inl (by show z + 1 + 1 + 1 < B; omega)) _).setCell (p := ⟨z + 1 + 1 + 1 + 1, 0, none⟩) (Or.inl hB) _
theorem keepsT_below {Tn : Obj → Prop} {B : Nat} {A C : World} (h : Below A.heap.size A C) : KeepsT Tn B A C := ⟨h.size, fun _ _ _ hk _ => (h.block _ (some_lt hk)).trans hk⟩
end Go.Proofs.YtodilocmfdeehaaGreatDoor.Hi
