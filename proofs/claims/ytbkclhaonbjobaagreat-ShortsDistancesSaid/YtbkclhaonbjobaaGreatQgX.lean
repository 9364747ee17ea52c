/- viaductref11's Lives, Len, Weight, DocPut. viaductref11's Put and Remove. viaductref11's Remove. -/
import Derived.Test.YtbkclhaonbjobaaGreatQfX
import Derived.Test.YtbkclhaonbjobaaGreatDocCheck
import Derived.Laws.OwnMore
namespace Go.Proofs.YtbkclhaonbjobaaGreat
open Go.RowKit Go.Extern Go.Sort

attribute [local go_sem] Oper.semAt_some

/-- flags in memory. -/
def HasFl (w : World) (lv : Value) (bs : List Bool) : Prop := ∃ ao cap, lv = .slice ao bs.length cap ∧ ∀ m, m < bs.length → ∃ g, ao = some ⟨g, 0, none⟩ ∧ g < w.heap.size ∧ w.cell? ⟨g, m, none⟩ = some (.bool (liv bs m))
theorem HasFl.keep {w w' : World} {lv : Value} {bs : List Bool} (h : HasFl w lv bs) (hb : Below w.heap.size w w') : HasFl w' lv bs := by
  obtain ⟨ao, cap, e, hc⟩ := h
  refine ⟨ao, cap, e, fun m hm => ?_⟩
  obtain ⟨g, e1, hl, h0⟩ := hc m hm
  exact ⟨g, e1, Nat.lt_of_lt_of_le hl hb.size, (hb.cell (p := ⟨g, _, none⟩) hl).trans h0⟩
theorem HasFl.at {w : World} {ao : Option Addr} {n cap : Nat} {bs : List Bool} (h : HasFl w (.slice ao n cap) bs) {m : Nat} (hm : m < bs.length) : ∃ g, ao = some ⟨g, 0, none⟩ ∧ g < w.heap.size ∧ w.cell? ⟨g, m, none⟩ = some (.bool (liv bs m)) := by
  obtain ⟨ao', cap', e, hc⟩ := h
  injection e with e1 e2 e3
  subst e1
  exact hc m hm
theorem bel_one (w : World) (X : Obj) : Below w.heap.size w (w.alloc X) := (Below.refl _ w).alloc (Nat.le_refl _) _

/-- the weight of the arc between two nodes. -/
def wtA (zs : List A4) (x y : Int) : Option Int := (findA zs x y).map (·.2.2.1)
theorem two_new (w : World) (X Y : Obj) : ((w.alloc X).alloc Y).heap[w.heap.size]? = some X ∧ ((w.alloc X).alloc Y).heap[w.heap.size + 1]? = some Y ∧ Below w.heap.size w ((w.alloc X).alloc Y) := by
  refine ⟨?_, ?_, ((Below.refl _ w).alloc (Nat.le_refl _) _).alloc (by simp) _⟩
  · rw [Below.heap_alloc _ _ _ (by simp)]; exact heap_new _ _
  · have h := heap_new (w.alloc X) Y
    simpa using h

end Go.Proofs.YtbkclhaonbjobaaGreat

namespace Go.Proofs.YtbkclhaonbjobaaGreat
open Go.RowKit Go.Extern Go.Sort

attribute [local go_sem] Oper.semAt_some

/-- Put's memory: the overlay's box, the arc's, the answer's, the new overlay's, and its arcs. -/
structure PM (bo : Option Addr) (bl bc : Nat) (ov : Value) (a : A4) (w0 w : World) (X p1 p2 p3 B : Nat) (lv : Value) (L : List A4) : Prop where
  o : w.heap[X]? = some (.cells #[.slice bo bl bc, ov] 44 (0, 0))
  a : w.heap[p1]? = some (.cells #[.int .i64 a.1, .int .i64 a.2.1, .int .u64 a.2.2.1, .int .i64 a.2.2.2] 51 (0, 0))
  r : w.heap[p2]? = some (.cells #[.slice none 0 0, .slice none 0 0] 44 (0, 0))
  p : w.heap[p3]? = some (.cells #[.slice bo bl bc, lv] 44 (0, 0))
  own : w.ownsRow B 51 4 lv L.length (flatA4 L)
  bel : Below X w0 w
  ord : X < p1 ∧ p1 < p2 ∧ p2 < p3 ∧ p3 < B ∧ B ≤ w.heap.size
section
variable {bo : Option Addr} {bl bc X p1 p2 p3 B : Nat} {ov : Value} {a : A4} {w0 w : World} {lv : Value} {L : List A4}
end
/-- what a Put leaves of the others. -/
def restZ (zs : List A4) (a : A4) : List A4 := zs.filter fun x => !(x.1 == a.1 && x.2.1 == a.2.1)
/-- there is such an arc that is no dearer; each such arc is dearer. -/
def CheapZ (zs : List A4) (a : A4) : Prop := ∃ z ∈ zs, z.1 = a.1 ∧ z.2.1 = a.2.1 ∧ z.2.2.1 ≤ a.2.2.1
def DearZ (zs : List A4) (a : A4) : Prop := ∀ z ∈ zs, z.1 = a.1 → z.2.1 = a.2.1 → a.2.2.1 < z.2.2.1
end Go.Proofs.YtbkclhaonbjobaaGreat

namespace Go.Proofs.YtbkclhaonbjobaaGreat
open Go.RowKit Go.Extern Go.Sort

attribute [local go_sem] Oper.semAt_some

theorem rowX_keep {w w' : World} {base e size n : Nat} {xs : List Value} {v : Value} (h : w.ownsRow base e size v n xs) (hk : ∀ g, v.ownBlock = some g → w'.heap[g]? = w.heap[g]?) : w'.ownsRow base e size v n xs := by
  obtain ⟨h1, h2⟩ := h
  refine ⟨h1, ?_⟩
  rcases h2 with h2 | ⟨g, cap, cur, e, hb, hh, r⟩
  · exact Or.inl h2
  · subst e
    exact Or.inr ⟨g, cap, cur, rfl, hb, (hk g rfl).trans hh, r⟩
theorem rowX_base {w : World} {base base' e size n : Nat} {xs : List Value} {v : Value} (h : w.ownsRow base e size v n xs) (hb : base' ≤ base) : w.ownsRow base' e size v n xs := by
  obtain ⟨h1, h2⟩ := h
  refine ⟨h1, ?_⟩
  rcases h2 with h2 | ⟨g, cap, cur, e, h3, r⟩
  · exact Or.inl h2
  · exact Or.inr ⟨g, cap, cur, e, Nat.le_trans hb h3, r⟩
/-- Remove's memory: the overlay's box, the answer's, the new overlay's, its flags and its arcs. -/
structure RM (fv ov : Value) (n : Nat) (fs : List Value) (w0 w : World) (X p1 p2 fb fc B : Nat) (lv : Value) (L : List A4) : Prop where
  o : w.heap[X]? = some (.cells #[fv, ov] 44 (0, 0))
  r : w.heap[p1]? = some (.cells #[.slice none 0 0, .slice none 0 0] 44 (0, 0))
  p : w.heap[p2]? = some (.cells #[.slice (some ⟨fb, 0, none⟩) n fc, lv] 44 (0, 0))
  fl : w.ownsRow X 4 1 (.slice (some ⟨fb, 0, none⟩) n fc) n fs
  own : w.ownsRow B 51 4 lv L.length (flatA4 L)
  bel : Below X w0 w
  ord : X < p1 ∧ p1 < p2 ∧ p2 < fb ∧ fb < B ∧ B ≤ w.heap.size
section
variable {n X p1 p2 fb fc B : Nat} {fv ov : Value} {fs : List Value} {w0 w : World} {lv : Value} {L : List A4}
end
theorem remZ_len (zs : List A4) (x : Int) : (remZ zs x).length ≤ zs.length := List.length_filter_le _ _

end Go.Proofs.YtbkclhaonbjobaaGreat
