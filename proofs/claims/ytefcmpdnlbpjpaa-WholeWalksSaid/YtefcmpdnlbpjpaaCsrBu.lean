/- csr.Build of a right graph: the arrays of its normal graph, in new memory. -/
import Derived.Test.YtefcmpdnlbpjpaaCsrM
import Derived.Test.YtefcmpdnlbpjpaaIntRow
import Derived.Deep.DeepCutAuto
import Derived.Deep.RegionHeld
import Derived.Deep.RegionHeld3
import Derived.BigRegion
namespace Go.Proofs.Ytefcmpdnlbpjpaa
open Go.RowKit Go.Extern

attribute [local go_sem] Oper.semAt_some

theorem infoI : (Try.prog.info? 3).map (fun i => (i.zero, i.size, i.bytes)) = some (some (.int .i64 0), 1, 8) := by kernel_rfl

/-- three rows of numbers and the box that names them; nothing of old turned. -/
structure BuI (w2 : World) (n m F T V C : Nat) (ff ft fv : Nat → Int) (wr : World) : Prop where
  f : IntRow wr F (n + 1) ff
  t : IntRow wr T m ft
  v : IntRow wr V m fv
  c : wr.heap[C]? = some (.cells #[.slice (some ⟨F, 0, none⟩) (n + 1) (n + 1), .slice (some ⟨T, 0, none⟩) m m, .slice (some ⟨V, 0, none⟩) m m] 27)
  low : w2.heap.size ≤ F ∧ w2.heap.size ≤ T ∧ w2.heap.size ≤ V ∧ w2.heap.size ≤ C
  ne : F ≠ T ∧ F ≠ V ∧ T ≠ V ∧ F ≠ C ∧ T ≠ C ∧ V ≠ C
  below : Below w2.heap.size w2 wr
section
variable {w2 wr wn : World} {n m F T V C : Nat} {ff ft fv : Nat → Int}
theorem BuI.keep (h : BuI w2 n m F T V C ff ft fv wr) (hb : Below wr.heap.size wr wn) : BuI w2 n m F T V C ff ft fv wn :=
  ⟨h.f.keep (hb.block _ h.f.lt), h.t.keep (hb.block _ h.t.lt), h.v.keep (hb.block _ h.v.lt), (hb.block _ (lt_of_get h.c)).trans h.c, h.low, h.ne, h.below.trans (hb.mono h.below.size)⟩
theorem BuI.setF (h : BuI w2 n m F T V C ff ft fv wr) (u : Nat) (x : Int) : BuI w2 n m F T V C (fun i => if i = u then x else ff i) ft fv (wr.setCell ⟨F, u, none⟩ (.int .i64 x)) :=
  ⟨h.f.set u x, h.t.other (fun e => h.ne.1 e.symm) u _, h.v.other (fun e => h.ne.2.1 e.symm) u _, (heap_setCell_other _ _ _ _ (fun e => h.ne.2.2.2.1 e.symm)).trans h.c, h.low, h.ne, h.below.setCell (p := ⟨F, u, none⟩) h.low.1 _⟩
theorem BuI.setT (h : BuI w2 n m F T V C ff ft fv wr) (u : Nat) (x : Int) : BuI w2 n m F T V C ff (fun i => if i = u then x else ft i) fv (wr.setCell ⟨T, u, none⟩ (.int .i64 x)) :=
  ⟨h.f.other h.ne.1 u _, h.t.set u x, h.v.other (fun e => h.ne.2.2.1 e.symm) u _, (heap_setCell_other _ _ _ _ (fun e => h.ne.2.2.2.2.1 e.symm)).trans h.c, h.low, h.ne, h.below.setCell (p := ⟨T, u, none⟩) h.low.2.1 _⟩
theorem BuI.setV (h : BuI w2 n m F T V C ff ft fv wr) (u : Nat) (x : Int) : BuI w2 n m F T V C ff ft (fun i => if i = u then x else fv i) (wr.setCell ⟨V, u, none⟩ (.int .i64 x)) :=
  ⟨h.f.other h.ne.2.1 u _, h.t.other h.ne.2.2.1 u _, h.v.set u x, (heap_setCell_other _ _ _ _ (fun e => h.ne.2.2.2.2.2 e.symm)).trans h.c, h.low, h.ne, h.below.setCell (p := ⟨V, u, none⟩) h.low.2.2.1 _⟩
theorem BuI.congr {gf gt gv : Nat → Int} (h : BuI w2 n m F T V C ff ft fv wr) (ef : ∀ u, u < n + 1 → ff u = gf u) (et : ∀ u, u < m → ft u = gt u) (ev : ∀ u, u < m → fv u = gv u) : BuI w2 n m F T V C gf gt gv wr :=
  ⟨h.f.congr ef, h.t.congr et, h.v.congr ev, h.c, h.low, h.ne, h.below⟩
end
/-- the rows after k arcs. -/
def ffA (zs : List (Int × Int × Int)) (k u : Nat) : Int := if u = 0 then 0 else fromAt (zs.take k) (u - 1)
def ftA (zs : List (Int × Int × Int)) (k i : Nat) : Int := if i < k then (tos zs).getD i 0 else 0
def fvA (zs : List (Int × Int × Int)) (k i : Nat) : Int := if i < k then (weights zs).getD i 0 else 0
/-- the numbers after k nodes. -/
def ffB (zs : List (Int × Int × Int)) (k u : Nat) : Int := if u ≤ k then firstAt zs u else fromAt zs (u - 1)
theorem BuI.arc {w2 wr : World} {n F T V C k : Nat} {zs : List (Int × Int × Int)} {p : Nat} {q r : Int} (h : BuI w2 n zs.length F T V C (fun i => if i = p + 1 then ffA zs k (p + 1) + 1 else ffA zs k i) (fun i => if i = k then q else ftA zs k i) (fun i => if i = k then r else fvA zs k i) wr) (ha : zs[k]? = some ((p : Int), q, r)) :
    BuI w2 n zs.length F T V C (ffA zs (k + 1)) (ftA zs (k + 1)) (fvA zs (k + 1)) wr := by
  refine h.congr (fun u _ => ?_) (fun u _ => ?_) (fun u _ => ?_)
  · unfold ffA
    rw [fromAt_next ha]
    by_cases h0 : u = 0
    · rw [if_neg (by omega), if_pos h0, if_pos h0]
    · by_cases e : u = p + 1
      · subst e
        rw [if_pos rfl, if_neg (by omega), if_neg (by omega), Nat.add_sub_cancel, if_pos rfl]
        omega
      · rw [if_neg e, if_neg h0, if_neg h0, if_neg (by show ¬ (p : Int) = ((u - 1 : Nat) : Int); omega)]
        rfl
  · unfold ftA
    by_cases e : u = k
    · subst e
      rw [if_pos rfl, if_pos (by omega), List.getD_eq_getElem?_getD, tos_at ha]
      rfl
    · rw [if_neg e]
      by_cases h1 : u < k
      · rw [if_pos h1, if_pos (by omega)]
      · rw [if_neg h1, if_neg (by omega)]
  · unfold fvA
    by_cases e : u = k
    · subst e
      rw [if_pos rfl, if_pos (by omega), List.getD_eq_getElem?_getD, weights_at ha]
      rfl
    · rw [if_neg e]
      by_cases h1 : u < k
      · rw [if_pos h1, if_pos (by omega)]
      · rw [if_neg h1, if_neg (by omega)]
theorem BuI.zero {w2 wr : World} {n m F T V C : Nat} (zs : List (Int × Int × Int)) (h : BuI w2 n m F T V C (fun _ => 0) (fun _ => 0) (fun _ => 0) wr) : BuI w2 n m F T V C (ffA zs 0) (ftA zs 0) (fvA zs 0) wr := by
  refine h.congr (fun u _ => ?_) (fun u _ => ?_) (fun u _ => ?_)
  · unfold ffA
    split
    · rfl
    · rw [List.take_zero]; rfl
  · unfold ftA; rw [if_neg (by omega)]
  · unfold fvA; rw [if_neg (by omega)]
theorem BuI.turn {w2 wr : World} {n F T V C : Nat} {zs : List (Int × Int × Int)} {ft fv : Nat → Int} (hz : firstAt zs 0 = 0) (h : BuI w2 n zs.length F T V C (ffA zs zs.length) ft fv wr) : BuI w2 n zs.length F T V C (ffB zs 0) ft fv wr := by
  refine h.congr (fun u _ => ?_) (fun _ _ => rfl) (fun _ _ => rfl)
  unfold ffA ffB
  rw [List.take_length]
  by_cases h0 : u = 0
  · rw [if_pos h0, if_pos (by omega), h0, hz]; rfl
  · rw [if_neg h0, if_neg (by omega)]
theorem BuI.node {w2 wr : World} {n F T V C k : Nat} {zs : List (Int × Int × Int)} {ft fv : Nat → Int} (h : BuI w2 n zs.length F T V C (ffB zs k) ft fv wr) : BuI w2 n zs.length F T V C (ffB zs (k + 1)) ft fv (wr.setCell ⟨F, k + 1, none⟩ (.int .i64 (ffB zs k (k + 1) + ffB zs k k))) := by
  refine (h.setF (k + 1) _).congr (fun u _ => ?_) (fun _ _ => rfl) (fun _ _ => rfl)
  unfold ffB
  by_cases e : u = k + 1
  · subst e
    rw [if_pos rfl, if_neg (by omega), if_pos (Nat.le_refl _), if_pos (Nat.le_refl _), firstAt_succ, Nat.add_sub_cancel]
    omega
  · rw [if_neg e]
    by_cases h1 : u ≤ k
    · rw [if_pos h1, if_pos (by omega)]
    · rw [if_neg h1, if_neg (by omega)]
theorem ffA_bound (zs : List (Int × Int × Int)) (k u : Nat) : 0 ≤ ffA zs k u ∧ ffA zs k u ≤ zs.length := by
  unfold ffA
  have := fromAt_le (zs.take k) (u - 1)
  rw [List.length_take] at this
  split <;> omega
theorem ffB_bound (zs : List (Int × Int × Int)) (k u : Nat) : 0 ≤ ffB zs k u ∧ ffB zs k u ≤ zs.length := by
  unfold ffB
  have h1 := firstAt_le zs u
  have h2 := fromAt_le zs (u - 1)
  split <;> omega
end Go.Proofs.Ytefcmpdnlbpjpaa
