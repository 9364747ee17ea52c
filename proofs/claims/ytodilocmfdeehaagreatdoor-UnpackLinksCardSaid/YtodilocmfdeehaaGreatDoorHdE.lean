/- viaductref10.link: the error of a link. -/
import Derived.Test.YtodilocmfdeehaaGreatDoorHdD
import Derived.Test.YtodilocmfdeehaaGreatDoorHsF
namespace Go.Proofs.YtodilocmfdeehaaGreatDoor.Hi
open Go.RowKit Go.Extern Go.Shelf

attribute [local go_sem] Oper.semAt_some

theorem lk_res {W : World} {z : Nat} {x0 x1 : Value} {tmps : Array Value} (h1 : W.heap[z]? = some (.cells #[x0, x1] 36)) (t2 : tmps[6]?.getD undef = .pointer (some ⟨z, 0, none⟩)) :
    (results Tryz.f51 tmps).run Tryz.prog W = .ok (.agg #[x0, x1]) W := by
  have c0 : W.cell? ⟨z, 0, none⟩ = some x0 := by simp [World.cell?, h1]
  have c1 : W.cell? ⟨z, 1, none⟩ = some x1 := by simp [World.cell?, h1]
  simp [results, Tryz.results51, go_sem, t2, c0, c1]
theorem four_cells {w : World} {b : Nat} {T : TypeId} {a0 a1 a2 a3 : Value} (h : w.heap[b]? = some (.cells #[a0, a1, a2, a3] T)) : (w.cell? ⟨b, 0, none⟩ = some a0 ∧ w.cell? ⟨b, 1, none⟩ = some a1 ∧ w.cell? ⟨b, 2, none⟩ = some a2 ∧ w.cell? ⟨b, 3, none⟩ = some a3) ∧ w.frozen? ⟨b, 0, none⟩ = false ∧ w.frozen? ⟨b, 1, none⟩ = false ∧ w.frozen? ⟨b, 2, none⟩ = false ∧ w.frozen? ⟨b, 3, none⟩ = false := by simp [World.cell?, World.frozen?, h]

end Go.Proofs.YtodilocmfdeehaaGreatDoor.Hi
