/- slices.Insert of one half into a row of one's own that is full, ahead of its end; and the three together. -/
import Derived.Test.YtcfpkbmeblfhoaaOvJ
namespace Go.Proofs.Ytcfpkbmeblfhoaa
open Go.RowKit Go.Extern Go.Sort

attribute [local go_sem] Oper.semAt_some

theorem infoH3' : (Try.prog.info? 57).map (fun i => (i.zero.map (fun z => z.cells.size), i.size, i.bytes)) = some (some 3, 3, 24) := by kernel_rfl
theorem infoH3 : ∃ i z, Try.prog.info? 57 = some i ∧ i.zero = some z ∧ z.cells.size = 3 ∧ i.size = 3 ∧ i.bytes = 24 := by
  have h := infoH3'
  cases hq : Try.prog.info? 57 with
  | none => rw [hq] at h; simp at h
  | some i =>
    rw [hq] at h
    cases hz : i.zero with
    | none => simp [hz] at h
    | some z => simp [hz] at h; exact ⟨i, z, rfl, hz, h.1, h.2.1, h.2.2⟩
theorem setRow_size (W : World) (x : Nat) (y : Array Value) : (W.setRow x y).heap.size = W.heap.size := by simp [World.setRow]
theorem zeroCells_size (z : Array Value) (k : Nat) : (Builtin.zeroCells z k).size = k * z.size := by
  unfold Builtin.zeroCells
  simp
end Go.Proofs.Ytcfpkbmeblfhoaa
