/- Three lists laid side by side by a region that draws its order: whichever comes first, what follows is one. -/
import Derived.Test.YtgfmalimnbgdeaaDoorCsrLen
namespace Go.Proofs.YtgfmalimnbgdeaaDoor
open Go.RowKit Go.Extern

section
variable {P : Program} {md : Region.Mode} {ops : Array Oper} {Q : Exit → Act → World → Prop} {S : World → Prop}
/-- an operation that lays a list of its own. -/
def Lays (P : Program) (ops : Array Oper) (o : Oper) (c : Array Value) (T : TypeId) (n : Nat) (a : Act) : Prop := Region.wanted o (yielded ops a.tmps) = true ∧ ∀ wx, (execOp a.eval o).run P wx = .ok (.value (.slice (some ⟨wx.heap.size, 0, none⟩) n n)) (wx.alloc (.cells c T))
theorem Lays.put {o oj : Oper} {c : Array Value} {T : TypeId} {n : Nat} {a : Act} (h : Lays P ops o c T n a) (hap : oj.apart ops o = true) (hs : ∀ cs b, o.op ≠ .select cs b) (u : Value) : Lays P ops o c T n (a.put oj.dst u) := by
  obtain ⟨h1, h2, h3⟩ := Oper.apart_spec hap
  refine ⟨by rw [wanted_put o a oj.dst u h1]; exact h.1, fun wx => ?_⟩
  rw [execOp_put o hs a oj.dst u h1]
  exact h.2 wx
theorem Lays.op {i : Nat} {o : Oper} {c : Array Value} {T : TypeId} {n : Nat} {a : Act} {w : World} {K : Act → World → Prop} (ho : ops[i]? = some o) (h : Lays P ops o c T n a) (hK : K (a.put o.dst (.slice (some ⟨w.heap.size, 0, none⟩) n n)) (w.alloc (.cells c T))) : wpOp P ops Q i K a w := by
  unfold wpOp
  simp only [ho]
  rw [if_pos h.1]
  refine .inl ?_
  unfold Oper.wp
  rw [h.2 w]
  exact hK
theorem heap3 (w : World) (x y z : Obj) (k : Nat) : (((w.alloc x).alloc y).alloc z).heap[k]? = if k = w.heap.size + 1 + 1 then some z else if k = w.heap.size + 1 then some y else if k = w.heap.size then some x else w.heap[k]? := by
  show (((w.heap.push _).push _).push _)[k]? = _
  rw [Array.getElem?_push, Array.getElem?_push, Array.getElem?_push]
  simp
theorem below3 (w : World) (x y z : Obj) : Below w.heap.size w (((w.alloc x).alloc y).alloc z) := (((Below.refl _ w).alloc (Nat.le_refl _) _).alloc (by simp) _).alloc (by simp <;> omega) _
theorem wpAnyH_two {i j : Nat} {oi oj : Oper} {ci cj : Array Value} {Ti Tj : TypeId} {ni nj : Nat} {fuel : Nat} {listed : Array Bool} {a : Act} {w : World}
    (hi : ops[i]? = some oi) (hj : ops[j]? = some oj) (r0 : Region.ready md ops listed = [i, j]) (ri : Region.ready md ops (listed.setIfInBounds i true) = [j]) (rj : Region.ready md ops (listed.setIfInBounds j true) = [i]) (hij : i ≠ j)
    (aij : oi.apart ops oj = true) (aji : oj.apart ops oi = true) (si : ∀ cs b, oi.op ≠ .select cs b) (sj : ∀ cs b, oj.op ≠ .select cs b)
    (Li : Lays P ops oi ci Ti ni a) (Lj : Lays P ops oj cj Tj nj a) (hS : ∀ wx, Below w.heap.size w wx → S wx)
    (h1 : wpAnyH P md ops Q S fuel ((listed.setIfInBounds i true).setIfInBounds j true) ((a.put oi.dst (.slice (some ⟨w.heap.size, 0, none⟩) ni ni)).put oj.dst (.slice (some ⟨w.heap.size + 1, 0, none⟩) nj nj)) ((w.alloc (.cells ci Ti)).alloc (.cells cj Tj)))
    (h2 : wpAnyH P md ops Q S fuel ((listed.setIfInBounds i true).setIfInBounds j true) ((a.put oi.dst (.slice (some ⟨w.heap.size + 1, 0, none⟩) ni ni)).put oj.dst (.slice (some ⟨w.heap.size, 0, none⟩) nj nj)) ((w.alloc (.cells cj Tj)).alloc (.cells ci Ti))) :
    wpAnyH P md ops Q S (fuel + 1 + 1) listed a w := by
  have e1 : ∀ o : Obj, (w.alloc o).heap.size = w.heap.size + 1 := fun o => by simp
  refine wpAnyH_all r0 (by simp) fun x hx => ?_
  rcases (show x = i ∨ x = j by simpa using hx) with rfl | rfl
  · refine Li.op hi ⟨hS _ ((Below.refl _ w).alloc (Nat.le_refl _) _), ?_⟩
    refine wpAnyH_all ri (by simp) fun y hy => ?_
    obtain rfl : y = j := by simpa using hy
    refine (Lj.put aij sj _).op hj ⟨hS _ (((Below.refl _ w).alloc (Nat.le_refl _) _).alloc (by simp) _), ?_⟩
    rw [e1]
    exact h1
  · refine Lj.op hj ⟨hS _ ((Below.refl _ w).alloc (Nat.le_refl _) _), ?_⟩
    refine wpAnyH_all rj (by simp) fun y hy => ?_
    obtain rfl : y = i := by simpa using hy
    refine (Li.put aji si _).op hi ⟨hS _ (((Below.refl _ w).alloc (Nat.le_refl _) _).alloc (by simp) _), ?_⟩
    rw [e1, ← Act.put_comm a _ _ (Oper.apart_spec aij).2.1, Array.setIfInBounds_comm _ _ (Ne.symm hij)]
    exact h2
/-- three lists, in any order. -/
theorem wpAnyH_three {i j k : Nat} {oi oj ok : Oper} {ci cj ck : Array Value} {T : TypeId} {ni nj nk : Nat} {fuel : Nat} {listed : Array Bool} {a : Act} {w : World}
    (hi : ops[i]? = some oi) (hj : ops[j]? = some oj) (hk : ops[k]? = some ok) (r0 : Region.ready md ops listed = [i, j, k])
    (ri : Region.ready md ops (listed.setIfInBounds i true) = [j, k]) (rj : Region.ready md ops (listed.setIfInBounds j true) = [i, k]) (rk : Region.ready md ops (listed.setIfInBounds k true) = [i, j])
    (rij : Region.ready md ops ((listed.setIfInBounds i true).setIfInBounds j true) = [k]) (rik : Region.ready md ops ((listed.setIfInBounds i true).setIfInBounds k true) = [j]) (rjk : Region.ready md ops ((listed.setIfInBounds j true).setIfInBounds k true) = [i])
    (hd : i ≠ j ∧ i ≠ k ∧ j ≠ k) (aij : oi.apart ops oj = true) (aji : oj.apart ops oi = true) (aik : oi.apart ops ok = true) (aki : ok.apart ops oi = true) (ajk : oj.apart ops ok = true) (akj : ok.apart ops oj = true)
    (si : ∀ cs b, oi.op ≠ .select cs b) (sj : ∀ cs b, oj.op ≠ .select cs b) (sk : ∀ cs b, ok.op ≠ .select cs b)
    (Li : Lays P ops oi ci T ni a) (Lj : Lays P ops oj cj T nj a) (Lk : Lays P ops ok ck T nk a) (hS : ∀ wx, Below w.heap.size w wx → S wx)
    (h : ∀ b1 b2 b3 w', w'.heap[b1]? = some (.cells ci T) → w'.heap[b2]? = some (.cells cj T) → w'.heap[b3]? = some (.cells ck T) → Below w.heap.size w w' →
      wpAnyH P md ops Q S fuel (((listed.setIfInBounds i true).setIfInBounds j true).setIfInBounds k true) (((a.put oi.dst (.slice (some ⟨b1, 0, none⟩) ni ni)).put oj.dst (.slice (some ⟨b2, 0, none⟩) nj nj)).put ok.dst (.slice (some ⟨b3, 0, none⟩) nk nk)) w') :
    wpAnyH P md ops Q S (fuel + 1 + 1 + 1) listed a w := by
  obtain ⟨d1, d2, d3⟩ := hd
  have e1 : ∀ o : Obj, (w.alloc o).heap.size = w.heap.size + 1 := fun o => by simp
  have pji := (Oper.apart_spec aji).2.1
  have pki := (Oper.apart_spec aki).2.1
  have pkj := (Oper.apart_spec akj).2.1
  have hS1 : ∀ o, ∀ wx, Below (w.alloc o).heap.size (w.alloc o) wx → S wx := fun o wx hx => hS wx (((Below.refl _ w).alloc (Nat.le_refl _) _).trans (hx.mono (by simp)))
  have rji : Region.ready md ops ((listed.setIfInBounds j true).setIfInBounds i true) = [k] := by rw [Array.setIfInBounds_comm _ _ (Ne.symm d1)]; exact rij
  have rki : Region.ready md ops ((listed.setIfInBounds k true).setIfInBounds i true) = [j] := by rw [Array.setIfInBounds_comm _ _ (Ne.symm d2)]; exact rik
  have rkj : Region.ready md ops ((listed.setIfInBounds k true).setIfInBounds j true) = [i] := by rw [Array.setIfInBounds_comm _ _ (Ne.symm d3)]; exact rjk
  have hh : ∀ x y z : Obj, (((w.alloc x).alloc y).alloc z).heap[w.heap.size]? = some x ∧ (((w.alloc x).alloc y).alloc z).heap[w.heap.size + 1]? = some y ∧ (((w.alloc x).alloc y).alloc z).heap[w.heap.size + 1 + 1]? = some z := fun x y z => by
    refine ⟨?_, ?_, ?_⟩
    · rw [heap3, if_neg (by omega), if_neg (by omega), if_pos rfl]
    · rw [heap3, if_neg (by omega), if_pos rfl]
    · rw [heap3, if_pos rfl]
  refine wpAnyH_all r0 (by simp) fun x hx => ?_
  rcases (show x = i ∨ x = j ∨ x = k by simpa using hx) with rfl | rfl | rfl
  · refine Li.op hi ⟨hS _ ((Below.refl _ w).alloc (Nat.le_refl _) _), ?_⟩
    refine wpAnyH_two hj hk ri rij rik d3 ajk akj sj sk (Lj.put aij sj _) (Lk.put aik sk _) (hS1 _) ?_ ?_
    · rw [e1]
      have g := hh (.cells ci T) (.cells cj T) (.cells ck T)
      exact h _ _ _ _ g.1 g.2.1 g.2.2 (below3 _ _ _ _)
    · rw [e1]
      have g := hh (.cells ci T) (.cells ck T) (.cells cj T)
      exact h _ _ _ _ g.1 g.2.2 g.2.1 (below3 _ _ _ _)
  · refine Lj.op hj ⟨hS _ ((Below.refl _ w).alloc (Nat.le_refl _) _), ?_⟩
    refine wpAnyH_two hi hk rj rji rjk d2 aik aki si sk (Li.put aji si _) (Lk.put ajk sk _) (hS1 _) ?_ ?_
    · rw [e1, Array.setIfInBounds_comm _ _ (Ne.symm d1), Act.put_comm a _ _ pji]
      have g := hh (.cells cj T) (.cells ci T) (.cells ck T)
      exact h _ _ _ _ g.2.1 g.1 g.2.2 (below3 _ _ _ _)
    · rw [e1, Array.setIfInBounds_comm _ _ (Ne.symm d1), Act.put_comm a _ _ pji]
      have g := hh (.cells cj T) (.cells ck T) (.cells ci T)
      exact h _ _ _ _ g.2.2 g.1 g.2.1 (below3 _ _ _ _)
  · refine Lk.op hk ⟨hS _ ((Below.refl _ w).alloc (Nat.le_refl _) _), ?_⟩
    refine wpAnyH_two hi hj rk rki rkj d1 aij aji si sj (Li.put aki si _) (Lj.put akj sj _) (hS1 _) ?_ ?_
    · rw [e1, Array.setIfInBounds_comm _ _ (Ne.symm d2), Array.setIfInBounds_comm (xs := listed.setIfInBounds i true) _ _ (Ne.symm d3), Act.put_comm a _ _ pki, Act.put_comm (a.put oi.dst _) _ _ pkj]
      have g := hh (.cells ck T) (.cells ci T) (.cells cj T)
      exact h _ _ _ _ g.2.1 g.2.2 g.1 (below3 _ _ _ _)
    · rw [e1, Array.setIfInBounds_comm _ _ (Ne.symm d2), Array.setIfInBounds_comm (xs := listed.setIfInBounds i true) _ _ (Ne.symm d3), Act.put_comm a _ _ pki, Act.put_comm (a.put oi.dst _) _ _ pkj]
      have g := hh (.cells ck T) (.cells cj T) (.cells ci T)
      exact h _ _ _ _ g.2.2 g.2.1 g.1 (below3 _ _ _ _)
end
end Go.Proofs.YtgfmalimnbgdeaaDoor
