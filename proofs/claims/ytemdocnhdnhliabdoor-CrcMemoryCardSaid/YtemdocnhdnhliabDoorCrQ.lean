/- the law CrcMemory, walked: bytes that are handed in stay as they are; what is sealed is new memory. -/
import Derived.Test.YtemdocnhdnhliabDoorCrO
import Derived.Test.YtemdocnhdnhliabDoorCrG2
import Derived.Test.YtemdocnhdnhliabDoorCrH
namespace Go.Proofs.YtemdocnhdnhliabDoor
open Go.RowKit Go.Extern Cr

attribute [local go_sem] Oper.semAt_some u32_signed u32_max

/-- the three rows that the law holds. -/
structure M3 (w wr : World) (n X ga gb ca cb : Nat) (F A S : List Nat) : Prop where
  below : Below w.heap.size w wr
  x : wr.ownsRow w.heap.size 5 1 (.slice (some ⟨X, 0, none⟩) (n + 8) (n + 8)) (n + 8) (bv F)
  a : wr.ownsRow w.heap.size 5 1 (.slice (some ⟨ga, 0, none⟩) (n + 4) ca) (n + 4) (bv A)
  b : wr.ownsRow w.heap.size 5 1 (.slice (some ⟨gb, 0, none⟩) (n + 4) cb) (n + 4) (bv S)
  xa : X ≠ ga
  xb : X ≠ gb
  ab : ga ≠ gb
section
variable {w wr : World} {n X ga gb ca cb : Nat} {F A S : List Nat}
theorem M3.setX (h : M3 w wr n X ga gb ca cb F A S) (i x : Nat) : M3 w (wr.setCell ⟨X, i, none⟩ (.int .u8 (x : Int))) n X ga gb ca cb (F.set i x) A S := by
  have hX := (h.x.lt X rfl).1
  refine ⟨below_set h.below hX _ _, bown_set h.x x, bown_keep h.a fun k hk => ?_, bown_keep h.b fun k hk => ?_, h.xa, h.xb, h.ab⟩
  · obtain rfl : k = ga := (Option.some.inj hk).symm
    exact Below.heap_setCell _ _ _ _ (Ne.symm h.xa)
  · obtain rfl : k = gb := (Option.some.inj hk).symm
    exact Below.heap_setCell _ _ _ _ (Ne.symm h.xb)
theorem M3.setA (h : M3 w wr n X ga gb ca cb F A S) (i x : Nat) : M3 w (wr.setCell ⟨ga, i, none⟩ (.int .u8 (x : Int))) n X ga gb ca cb F (A.set i x) S := by
  have hX := (h.a.lt ga rfl).1
  refine ⟨below_set h.below hX _ _, bown_keep h.x fun k hk => ?_, bown_set h.a x, bown_keep h.b fun k hk => ?_, h.xa, h.xb, h.ab⟩
  · obtain rfl : k = X := (Option.some.inj hk).symm
    exact Below.heap_setCell _ _ _ _ h.xa
  · obtain rfl : k = gb := (Option.some.inj hk).symm
    exact Below.heap_setCell _ _ _ _ (Ne.symm h.ab)
theorem M3.keep {wx : World} (h : M3 w wr n X ga gb ca cb F A S) (hb : Below wr.heap.size wr wx) : M3 w wx n X ga gb ca cb F A S := ⟨h.below.trans (hb.mono h.below.size), bown_below h.x hb, bown_below h.a hb, bown_below h.b hb, h.xa, h.xb, h.ab⟩
end
end Go.Proofs.YtemdocnhdnhliabDoor
