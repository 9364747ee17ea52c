/- an overlay's Remove. -/
import Derived.Test.YtcfpkbmeblfhoaaOvX
import Derived.BigRegion
namespace Go.Proofs.Ytcfpkbmeblfhoaa
open Go.RowKit Go.Extern Go.Sort

attribute [local go_sem] Oper.semAt_some
section
variable {w w' : World} {PX : Nat → Option Obj} {B pb ab n : Nat} {sb : Bool → Nat} {bs : List Bool} {R : Bool → Nat → Rw} {nodes arcs : Int}
theorem bC_set (bs : List Bool) (m : Nat) (b : Bool) : (bC bs).setIfInBounds m (.bool b) = bC (bs.set m b) := by
  unfold bC
  rw [List.setIfInBounds_toArray, List.map_set]
theorem OvMem.setFlag (h : OvMem PX w B pb ab sb n bs R nodes arcs) (m : Nat) (b : Bool) : OvMem PX (w.setCell ⟨ab, m, none⟩ (.bool b)) B pb ab sb n (bs.set m b) R nodes arcs ∧ Below B w (w.setCell ⟨ab, m, none⟩ (.bool b)) := by
  refine ⟨⟨(heap_setCell_other _ _ _ _ (h.ne false).2.2).trans h.box, ?_, fun s => (heap_setCell_other _ _ _ _ (Ne.symm (h.ne s).1)).trans (h.row s), by rw [List.length_set]; exact h.bl, h.big, fun s u hu => own_set (h.own s u hu) (h.far s hu).2.1 _, h.low, h.two, fun X o hX => ⟨(heap_setCell_other _ _ _ _ (h.prot X o hX).2.2.1).trans (h.prot X o hX).1, (h.prot X o hX).2⟩, h.apart⟩, ?_⟩
  · rw [hsc_same _ h.al, bC_set]
  · exact (Below.refl B w).setCell (p := ⟨ab, m, none⟩) h.low.2.1 _
theorem OvMem.setNodes (h : OvMem PX w B pb ab sb n bs R nodes arcs) (a : Int) : OvMem PX (w.setCell ⟨pb, 3, none⟩ (.int .i64 a)) B pb ab sb n bs R a arcs ∧ Below B w (w.setCell ⟨pb, 3, none⟩ (.int .i64 a)) := by
  refine ⟨⟨?_, (heap_setCell_other _ _ _ _ (Ne.symm (h.ne false).2.2)).trans h.al, fun s => (heap_setCell_other _ _ _ _ (Ne.symm (h.ne s).2.1)).trans (h.row s), h.bl, h.big, fun s u hu => own_set (h.own s u hu) (h.far s hu).1 _, h.low, h.two, fun X o hX => ⟨(heap_setCell_other _ _ _ _ (h.prot X o hX).2.1).trans (h.prot X o hX).1, (h.prot X o hX).2⟩, h.apart⟩, ?_⟩
  · rw [hsc_same _ h.box]
    rfl
  · exact (Below.refl B w).setCell (p := ⟨pb, 3, none⟩) h.low.1 _
/-- a row that holds nothing. -/
def nilR : Rw := (.slice none 0 0, [], 0)
theorem OvMem.clear (h : OvMem PX w B pb ab sb n bs R nodes arcs) (s : Bool) {u : Nat} (hu : u < n) : OvMem PX ((w.setCell ⟨sb s, u * 2, none⟩ (.slice none 0 0)).setCell ⟨sb s, u * 2 + 1, none⟩ (.int .i64 0)) B pb ab sb n bs (updS R s u nilR) nodes arcs ∧ Below B w ((w.setCell ⟨sb s, u * 2, none⟩ (.slice none 0 0)).setCell ⟨sb s, u * 2 + 1, none⟩ (.int .i64 0)) := by
  refine h.moved (s := s) hu (v' := .slice none 0 0) (gn' := 0) (l' := []) ⟨rfl, rfl, rfl, by simp, fun k hk h1 h2 => ?_, ?_, fun k hk => by cases hk⟩ (World.ownsRow_nil _ _ _ _)
  · rw [heap_setCell_other _ _ _ _ h1, heap_setCell_other _ _ _ _ h1]
  · rw [hsc_same _ (hsc_same _ (h.row s))]
    rfl
theorem OvMem.rowCells (h : OvMem PX w B pb ab sb n bs R nodes arcs) (s : Bool) {u : Nat} (hu : u < n) : w.cell? ⟨sb s, u * 2, none⟩ = some (R s u).1 ∧ w.cell? ⟨sb s, u * 2 + 1, none⟩ = some (.int .i64 ((R s u).2.2 : Nat)) ∧ sb s < w.heap.size ∧ w.frozen? ⟨sb s, u * 2, none⟩ = false ∧ w.frozen? ⟨sb s, u * 2 + 1, none⟩ = false :=
  ⟨by simp [World.cell?, h.row s, (h.rc s hu).1], by simp [World.cell?, h.row s, (h.rc s hu).2], lt_of_get (h.row s), by simp [World.frozen?, h.row s], by simp [World.frozen?, h.row s]⟩

end
end Go.Proofs.Ytcfpkbmeblfhoaa
