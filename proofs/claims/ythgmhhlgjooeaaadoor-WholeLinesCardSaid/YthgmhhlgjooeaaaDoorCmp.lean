/- cmp.Compare, cmp.Or at two numbers, normal's byEnds, isLoop and its two closures: what they answer; blocks are laid and draws are made, nothing else turns. -/
import Derived.Test.YthgmhhlgjooeaaaDoorErrA
import Derived.Deep.RegionWith
import Derived.Deep.RegionHeld
import Derived.Deep.QuietTactic
import Derived.BigQuiet
import Derived.Sort.Grow
namespace Go.Proofs.YthgmhhlgjooeaaaDoor
open Go.RowKit Go.Extern Go.Sort

/-- blocks laid and draws made, nothing else. -/
def Laid (W w' : World) : Prop := ∃ q os, w' = grow (W.drewN q) os
theorem Laid.refl (W : World) : Laid W W := ⟨0, #[], by simp [grow, World.drewN]⟩
theorem Laid.alloc {W w : World} (h : Laid W w) (o : Obj) : Laid W (w.alloc o) := by
  obtain ⟨q, os, rfl⟩ := h
  exact ⟨q, os.push o, by rw [alloc_eq_grow, grow_grow]; simp [grow]⟩
theorem Laid.drew {W w : World} (h : Laid W w) : Laid W w.drew := by
  obtain ⟨q, os, rfl⟩ := h
  exact ⟨q + 1, os, rfl⟩
theorem Laid.trans {W w w' : World} (h : Laid W w) (k : Laid w w') : Laid W w' := by
  obtain ⟨q, os, rfl⟩ := h
  obtain ⟨q', os', rfl⟩ := k
  exact ⟨q + q', os ++ os', by simp [grow, World.drewN, Nat.add_assoc, Array.append_assoc]⟩
theorem Laid.block {W w : World} (h : Laid W w) {k : Nat} (hk : k < W.heap.size) : w.heap[k]? = W.heap[k]? := by
  obtain ⟨q, os, rfl⟩ := h
  simp [grow, World.drewN, Array.getElem?_append, hk]
theorem Laid.size {W w : World} (h : Laid W w) : W.heap.size ≤ w.heap.size := by
  obtain ⟨q, os, rfl⟩ := h
  simp [grow, World.drewN]
theorem Laid.below {W w : World} (h : Laid W w) : Below W.heap.size W w := by
  obtain ⟨q, os, rfl⟩ := h
  exact ⟨rfl, rfl, rfl, by simp [grow, World.drewN], fun k hk => by simp [grow, World.drewN, Array.getElem?_append, hk]⟩

theorem heap_new (w : World) (o : Obj) : (w.alloc o).heap[w.heap.size]? = some o := by show (w.heap.push _)[w.heap.size]? = _; simp

/-- what cmp.Compare tells. -/
def cmpI (a b : Int) : Int := if a < b then -1 else if b < a then 1 else 0
/-- what cmp.Or tells of two numbers. -/
def orI (a b : Int) : Int := if a = 0 then b else a

/-- how arcs stand by their ends, and wholly. -/
def endsI (a b : Int × Int × Int) : Int := orI (cmpI a.1 b.1) (cmpI a.2.1 b.2.1)
def arcI (a b : Int × Int × Int) : Int := orI (endsI a b) (cmpI a.2.2 b.2.2)
def arcV (a : Int × Int × Int) : Value := .agg #[.int .i64 a.1, .int .i64 a.2.1, .int .i64 a.2.2]

end Go.Proofs.YthgmhhlgjooeaaaDoor
