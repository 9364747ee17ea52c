/- hier.Same and the reference's Same, whatever the two hierarchies. (gensame.py) -/
import Derived.Test.YtlehlghagddogaaGreatDoorHrY
namespace Go.Proofs.YtlehlghagddogaaGreatDoor.Hi
open Go.RowKit Go.Extern

attribute [local go_sem] Oper.semAt_some

theorem btrH' {Z a b : World} (h : Below Z.heap.size Z a) (g : Below a.heap.size a b) : Below Z.heap.size Z b := h.trans (g.mono h.size)
/-- no list is longer than memory. -/
structure Short (a : Hr) : Prop where
  node : a.node.length ≤ 1152921504606846976
  upF : a.upF.length ≤ 1152921504606846976
  up : a.up.length ≤ 1152921504606846976
  dnF : a.dnF.length ≤ 1152921504606846976
  dn : a.dn.length ≤ 1152921504606846976
theorem same_hr (a b : Hr) : decide (a = b) = (decide (a.node = b.node) && decide (a.upF = b.upF) && decide (a.up = b.up) && decide (a.dnF = b.dnF) && decide (a.dn = b.dn)) := by
  obtain ⟨a0, a1, a2, a3, a4⟩ := a
  obtain ⟨b0, b1, b2, b3, b4⟩ := b
  rw [Bool.eq_iff_iff]
  simp [and_assoc]
theorem same_hr2 (a b : Hr) : decide (a = b) = (decide (a.node = b.node) && decide (a.upF = b.upF) && decide (a.dnF = b.dnF) && decide (a.up = b.up) && decide (a.dn = b.dn)) := by
  rw [same_hr]
  cases decide (a.node = b.node) <;> cases decide (a.upF = b.upF) <;> cases decide (a.up = b.up) <;> cases decide (a.dnF = b.dnF) <;> rfl

end Go.Proofs.YtlehlghagddogaaGreatDoor.Hi
