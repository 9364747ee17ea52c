/- slices.Equal at words and links, and the reference's SameWords and SameLinks: whatever the two lists. (geneq.py) -/
import Derived.Test.YtodilocmfdeehaaGreatDoorHrG
import Derived.Deep.QuietTactic
import Derived.BigQuiet
namespace Go.Proofs.YtodilocmfdeehaaGreatDoor.Hi
open Go.RowKit Go.Extern

attribute [local go_sem] Oper.semAt_some

theorem HasWs.at {w : World} {ao : Option Addr} {n cap : Nat} {L : List Nat} (h : HasWs w (.slice ao n cap) L) {j : Nat} {l : Nat} (hj : L[j]? = some l) : l < 4294967296 ∧ ∃ b off, ao = some ⟨b, off, none⟩ ∧ b < w.heap.size ∧ w.cell? ⟨b, off + j, none⟩ = some (.int .u32 (l : Int)) := by
  obtain ⟨ao', cap', e, _, hc⟩ := h
  injection e with e1 e2 e3
  subst e1
  exact hc j l hj

end Go.Proofs.YtodilocmfdeehaaGreatDoor.Hi
