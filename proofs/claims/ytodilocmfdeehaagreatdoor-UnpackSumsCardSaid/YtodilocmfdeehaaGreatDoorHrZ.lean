/- hier.Same and the reference's Same, whatever the two hierarchies. (gensame.py) -/
import Derived.Test.YtodilocmfdeehaaGreatDoorHrY
namespace Go.Proofs.YtodilocmfdeehaaGreatDoor.Hi
open Go.RowKit Go.Extern

attribute [local go_sem] Oper.semAt_some

theorem btrH' {Z a b : World} (h : Below Z.heap.size Z a) (g : Below a.heap.size a b) : Below Z.heap.size Z b := h.trans (g.mono h.size)
/-- no list is longer than memory. -/
structure Short (a : Hr) : Prop where
  node : a.node.length ≤ 1152921504606846976
  upF : a.upF.length ≤ 1152921504606846976
  up : a.up.length ≤ 1152921504606846976
  dnF : a.dnF.length ≤ 1152921504606846976
  dn : a.dn.length ≤ 1152921504606846976
end Go.Proofs.YtodilocmfdeehaaGreatDoor.Hi
