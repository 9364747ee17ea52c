/- The normal list of arcs: what is sorted and compacted is what putting arc by arc into a list makes. -/
import Derived.Test.YtnkfggccahohpabCheck
namespace Go.Proofs.Ytnkfggccahohpab
open Go.RowKit Go.Extern Go.Sort

/-- an arc's ends stand ahead of another's. -/
def lessA (a b : Int × Int × Int) : Prop := a.1 < b.1 ∨ a.1 = b.1 ∧ a.2.1 < b.2.1
instance (a b : Int × Int × Int) : Decidable (lessA a b) := by unfold lessA; infer_instance
/-- parallel arcs. -/
def sameA (a b : Int × Int × Int) : Prop := a.1 = b.1 ∧ a.2.1 = b.2.1
instance (a b : Int × Int × Int) : Decidable (sameA a b) := by unfold sameA; infer_instance
theorem endsI_zero (a b : Int × Int × Int) : endsI a b = 0 ↔ sameA a b := by
  unfold endsI orI cmpI sameA
  by_cases h0 : a.1 < b.1 <;> by_cases h1 : b.1 < a.1 <;> by_cases h2 : a.2.1 < b.2.1 <;> by_cases h3 : b.2.1 < a.2.1 <;> simp [h0, h1, h2, h3] <;> omega
theorem endsI_neg (a b : Int × Int × Int) : endsI a b < 0 ↔ lessA a b := by
  unfold endsI orI cmpI lessA
  by_cases h0 : a.1 < b.1 <;> by_cases h1 : b.1 < a.1 <;> by_cases h2 : a.2.1 < b.2.1 <;> by_cases h3 : b.2.1 < a.2.1 <;> simp [h0, h1, h2, h3] <;> omega
theorem sameA_less {a b c : Int × Int × Int} (h : sameA a b) (h2 : lessA b c) : lessA a c := by unfold sameA lessA at *; omega
theorem less_trans {a b c : Int × Int × Int} (h : lessA a b) (h2 : lessA b c) : lessA a c := by unfold lessA at *; omega
theorem less_not_same {a b : Int × Int × Int} (h : lessA a b) : ¬ sameA a b ∧ ¬ sameA b a ∧ ¬ lessA b a := by unfold lessA sameA at *; omega
theorem less_total {a b : Int × Int × Int} (h : ¬ lessA a b) (h2 : ¬ sameA a b) : lessA b a := by unfold lessA sameA at *; omega
theorem sameA.symm {a b : Int × Int × Int} (h : sameA a b) : sameA b a := ⟨h.1.symm, h.2.symm⟩
theorem sameA.trans {a b c : Int × Int × Int} (h : sameA a b) (h2 : sameA b c) : sameA a c := ⟨h.1.trans h2.1, h.2.trans h2.2⟩
theorem arc_ext {a b : Int × Int × Int} (h : sameA a b) (hw : a.2.2 = b.2.2) : a = b := by
  obtain ⟨a0, a1, a2⟩ := a
  obtain ⟨b0, b1, b2⟩ := b
  obtain ⟨h1, h2⟩ := h
  simp only at h1 h2 hw
  rw [h1, h2, hw]

/-- a list that rises. -/
def RiseA (l : List (Int × Int × Int)) : Prop := l.Pairwise lessA
theorem rise_same {l : List (Int × Int × Int)} (h : RiseA l) {a b : Int × Int × Int} (ha : a ∈ l) (hb : b ∈ l) (hs : sameA a b) : a = b := by
  induction l with
  | nil => cases ha
  | cons x r ih =>
    obtain ⟨h1, h2⟩ := List.pairwise_cons.1 h
    rcases List.mem_cons.1 ha with rfl | ha' <;> rcases List.mem_cons.1 hb with rfl | hb'
    · rfl
    · exact absurd hs (less_not_same (h1 b hb')).1
    · exact absurd hs.symm (less_not_same (h1 a ha')).1
    · exact ih h2 ha' hb'
theorem rise_ext : ∀ {l r : List (Int × Int × Int)}, RiseA l → RiseA r → (∀ x, x ∈ l ↔ x ∈ r) → l = r
  | [], [], _, _, _ => rfl
  | [], y :: r, _, _, h => absurd ((h y).2 (by simp)) (by simp)
  | x :: l, [], _, _, h => absurd ((h x).1 (by simp)) (by simp)
  | x :: l, y :: r, hl, hr, h => by
    obtain ⟨a1, a2⟩ := List.pairwise_cons.1 hl
    obtain ⟨b1, b2⟩ := List.pairwise_cons.1 hr
    have e : x = y := by
      rcases List.mem_cons.1 ((h x).1 (by simp)) with e | hx
      · exact e
      · rcases List.mem_cons.1 ((h y).2 (by simp)) with e | hy
        · exact e.symm
        · exact absurd (a1 y hy) (less_not_same (b1 x hx)).2.2
    subst e
    refine congrArg _ (rise_ext a2 b2 fun z => ⟨fun hz => ?_, fun hz => ?_⟩)
    · rcases List.mem_cons.1 ((h z).1 (List.mem_cons_of_mem _ hz)) with e | hz'
      · subst e; exact absurd ⟨rfl, rfl⟩ (less_not_same (a1 z hz)).1
      · exact hz'
    · rcases List.mem_cons.1 ((h z).2 (List.mem_cons_of_mem _ hz)) with e | hz'
      · subst e; exact absurd ⟨rfl, rfl⟩ (less_not_same (b1 z hz)).1
      · exact hz'

end Go.Proofs.Ytnkfggccahohpab
