/- A matrix in memory. -/
import Derived.Test.YthgmhhlgjooeaaaGreatDoorDsM
import Derived.Test.YthgmhhlgjooeaaaGreatDoorWjF
import Derived.Deep.RegionHeld3
import Derived.Deep.OwnRows
import Derived.Laws.OwnMore
namespace Go.Proofs.YthgmhhlgjooeaaaGreatDoor.Ds
open Go.RowKit Go.Extern

/-- a graph in its box. -/
structure Gr (wx : World) (b : Nat) (N : Int) (ao : Option Addr) (n cap : Nat) (xs : List (Int × Int × Int)) : Prop where
  box : wx.heap[b]? = some (.cells #[.int .i64 N, .slice ao n cap] 24)
  arcs : HasArcs wx (.slice ao n cap) xs
section
variable {w wx w' : World} {b : Nat} {N : Int} {ao : Option Addr} {n cap : Nat} {xs : List (Int × Int × Int)}
theorem below_draws' {B : Nat} {a w : World} (h : Below B a w) (q : Nat) : Below B a (w.drewN q) := ⟨h.os, h.tape, h.output, h.size, h.block⟩
theorem Gr.keep (h : Gr wx b N ao n cap xs) (hb : Below wx.heap.size wx w') : Gr w' b N ao n cap xs := ⟨(hb.block _ (lt_of_get h.box)).trans h.box, h.arcs.keep hb⟩
theorem Gr.cells (h : Gr wx b N ao n cap xs) : wx.cell? ⟨b, 0, none⟩ = some (.int .i64 N) ∧ wx.cell? ⟨b, 1, none⟩ = some (.slice ao n cap) ∧ b < wx.heap.size := ⟨by simp [World.cell?, h.box], by simp [World.cell?, h.box], lt_of_get h.box⟩
theorem Gr.new (N : Int) (h : HasArcs wx (.slice ao n cap) xs) : Gr (wx.alloc (.cells #[.int .i64 N, .slice ao n cap] 24)) wx.heap.size N ao n cap xs ∧ Below wx.heap.size wx (wx.alloc (.cells #[.int .i64 N, .slice ao n cap] 24)) := by
  have hb : Below wx.heap.size wx (wx.alloc (.cells #[.int .i64 N, .slice ao n cap] 24)) := (Below.refl _ wx).alloc (Nat.le_refl _) _
  exact ⟨⟨heap_new _ _, h.keep hb⟩, hb⟩
end

attribute [local go_sem] Oper.semAt_some

theorem hs_same {w : World} {b o : Nat} {c : Array Value} {t : TypeId} (v : Value) (h : w.heap[b]? = some (.cells c t)) : (w.setCell ⟨b, o, none⟩ v).heap[b]? = some (.cells (c.setIfInBounds o v) t) := by
  simp only [World.setCell, Array.getElem?_modify]
  rw [if_pos trivial, h]
  rfl
theorem row_cell {w : World} {b : Nat} {c : Array Value} {t : TypeId} (h : w.heap[b]? = some (.cells c t)) (o : Nat) : w.cell? ⟨b, o, none⟩ = c[o]? ∧ w.frozen? ⟨b, o, none⟩ = false := by
  simp [World.cell?, World.frozen?, h]

/-- a row of values, told by places. -/
def rowV (n : Nat) (s : Nat → Value) : List Value := (List.range n).map s
theorem rowV_get (n : Nat) (s : Nat → Value) {i : Nat} (h : i < n) : (rowV n s)[i]? = some (s i) := by
  unfold rowV
  rw [List.getElem?_map, List.getElem?_range h]
  rfl
theorem rowV_ext {n : Nat} {s t : Nat → Value} (h : ∀ i, i < n → s i = t i) : rowV n s = rowV n t := by
  unfold rowV
  apply List.map_congr_left
  intro i hi
  exact h i (List.mem_range.1 hi)
theorem rowV_set (n : Nat) (s : Nat → Value) (i : Nat) (v : Value) : (rowV n s).set i v = rowV n (fun j => if j = i then v else s j) := by
  apply List.ext_getElem?
  intro j
  by_cases hj : j < n
  · rw [rowV_get n _ hj]
    by_cases e : j = i
    · subst e
      rw [if_pos rfl, List.getElem?_set_self (by unfold rowV; simpa using hj)]
    · rw [if_neg e, List.getElem?_set_ne (Ne.symm e), rowV_get n _ hj]
  · rw [List.getElem?_eq_none (by unfold rowV; simpa using hj), List.getElem?_eq_none (by unfold rowV; simpa using hj)]
theorem made_row (z : Value) (n : Nat) : madeCells #[z] n = (rowV n fun _ => z).toArray := by
  apply Array.ext'
  rw [toList_madeCells_one]
  apply List.ext_getElem?
  intro j
  by_cases hj : j < n
  · rw [rowV_get n _ hj, List.getElem?_replicate, if_pos hj]
  · rw [List.getElem?_eq_none (by simpa using hj), List.getElem?_eq_none (by unfold rowV; simpa using hj)]

def rowS (n m : Nat) (rs : Nat → Nat) : Nat → Value := fun i => if i < m then .slice (some ⟨rs i, 0, none⟩) n n else .slice none 0 0
/-- a matrix in memory, the first m of its rows laid. -/
structure MatP (B : Nat) (wx : World) (db n m : Nat) (rs : Nat → Nat) (f : Mx) : Prop where
  top : wx.heap[db]? = some (.cells (rowV n (rowS n m rs)).toArray 85)
  row : ∀ i, i < m → wx.heap[rs i]? = some (.cells (rowV n (fun j => .int .u64 (f i j))).toArray 86)
  far : ∀ i, i < m → rs i ≠ db
  inj : ∀ i j, i < m → j < m → rs i = rs j → i = j
  base : B ≤ db ∧ ∀ i, i < m → B ≤ rs i
section
variable {B : Nat} {wx w' : World} {db n m : Nat} {rs : Nat → Nat} {f g : Mx}
theorem MatP.keep (h : MatP B wx db n m rs f) (hb : Below wx.heap.size wx w') : MatP B w' db n m rs f :=
  ⟨(hb.block _ (lt_of_get h.top)).trans h.top, fun i hi => (hb.block _ (lt_of_get (h.row i hi))).trans (h.row i hi), h.far, h.inj, h.base⟩
theorem MatP.ext (h : MatP B wx db n m rs f) (e : ∀ i j, i < m → j < n → f i j = g i j) : MatP B wx db n m rs g :=
  ⟨h.top, fun i hi => by rw [h.row i hi, rowV_ext (t := fun j => .int .u64 (g i j)) fun j hj => by rw [e i j hi hj]], h.far, h.inj, h.base⟩
theorem MatP.at (h : MatP B wx db n m rs f) {i : Nat} (hi : i < m) (hn : m ≤ n) : wx.cell? ⟨db, i, none⟩ = some (.slice (some ⟨rs i, 0, none⟩) n n) ∧ wx.frozen? ⟨db, i, none⟩ = false ∧ db < wx.heap.size := by
  refine ⟨(row_cell h.top i).1.trans ?_, (row_cell h.top i).2, lt_of_get h.top⟩
  rw [List.getElem?_toArray, rowV_get n _ (by omega)]
  unfold rowS
  rw [if_pos hi]
theorem MatP.cell (h : MatP B wx db n m rs f) {i j : Nat} (hi : i < m) (hj : j < n) : wx.cell? ⟨rs i, j, none⟩ = some (.int .u64 (f i j)) ∧ wx.frozen? ⟨rs i, j, none⟩ = false ∧ rs i < wx.heap.size := by
  refine ⟨(row_cell (h.row i hi) j).1.trans ?_, (row_cell (h.row i hi) j).2, lt_of_get (h.row i hi)⟩
  rw [List.getElem?_toArray, rowV_get n _ hj]
theorem MatP.set (h : MatP B wx db n m rs f) {i : Nat} (hi : i < m) (j : Nat) (v : Int) : MatP B (wx.setCell ⟨rs i, j, none⟩ (.int .u64 v)) db n m rs (upd2 f i j v) := by
  refine ⟨(heap_setCell_other _ _ _ _ (Ne.symm (h.far i hi))).trans h.top, fun a ha => ?_, h.far, h.inj, h.base⟩
  by_cases e : a = i
  · subst e
    rw [hs_same _ (h.row a ha), List.setIfInBounds_toArray, rowV_set]
    congr 3
    apply rowV_ext
    intro b _
    unfold upd2
    by_cases e : b = j
    · rw [if_pos e, if_pos ⟨rfl, e⟩]
    · rw [if_neg e, if_neg (fun g => e g.2)]
  · rw [heap_setCell_other _ _ _ _ (fun g => e (h.inj a i ha hi g)), h.row a ha]
    congr 3
    unfold upd2
    apply rowV_ext
    intro b _
    rw [if_neg (fun g => e g.1)]
theorem MatP.new (w : World) (n : Nat) (rs : Nat → Nat) (f : Mx) : MatP w.heap.size (w.alloc (.cells (madeCells #[.slice none 0 0] n) 85)) w.heap.size n 0 rs f := by
  refine ⟨?_, fun i hi => absurd hi (Nat.not_lt_zero _), fun i hi => absurd hi (Nat.not_lt_zero _), fun i _ hi => absurd hi (Nat.not_lt_zero _), Nat.le_refl _, fun i hi => absurd hi (Nat.not_lt_zero _)⟩
  rw [heap_new, made_row]
  rfl
/-- one row more. -/
theorem MatP.more (h : MatP B wx db n m rs f) (hB : B ≤ wx.heap.size) {W : World} (h1 : W.heap[db]? = some (.cells ((rowV n (rowS n m rs)).toArray.setIfInBounds m (.slice (some ⟨wx.heap.size, 0, none⟩) n n)) 85)) (h2 : W.heap[wx.heap.size]? = some (.cells (madeCells #[.int .u64 0] n) 86)) (h3 : ∀ k, k < wx.heap.size → k ≠ db → W.heap[k]? = wx.heap[k]?) : MatP B W db n (m + 1) (fun i => if i = m then wx.heap.size else rs i) (fun i j => if i = m then 0 else f i j) := by
  refine ⟨?_, fun i hi => ?_, fun i hi => ?_, fun i j hi hj e => ?_, h.base.1, fun i hi => ?_⟩
  · rw [h1, List.setIfInBounds_toArray, rowV_set]
    congr 3
    apply rowV_ext
    intro i _
    unfold rowS
    by_cases e : i = m
    · rw [if_pos e, if_pos (by omega)]
      simp [e]
    · rw [if_neg e]
      by_cases g : i < m
      · rw [if_pos g, if_pos (by omega)]
        simp [e]
      · rw [if_neg g, if_neg (by omega)]
  · by_cases e : i = m
    · simp only [if_pos e]
      rw [h2, made_row]
    · simp only [if_neg e]
      have hl := lt_of_get (h.row i (by omega))
      rw [h3 _ hl (h.far i (by omega))]
      exact h.row i (by omega)
  · by_cases e : i = m
    · simp only [if_pos e]
      have := lt_of_get h.top
      omega
    · simp only [if_neg e]
      exact h.far i (by omega)
  · by_cases e1 : i = m
    · by_cases e2 : j = m
      · omega
      · simp only [if_pos e1, if_neg e2] at e
        have := lt_of_get (h.row j (by omega))
        omega
    · by_cases e2 : j = m
      · simp only [if_pos e2, if_neg e1] at e
        have := lt_of_get (h.row i (by omega))
        omega
      · simp only [if_neg e1, if_neg e2] at e
        exact h.inj i j (by omega) (by omega) e
  · by_cases e : i = m
    · simp only [if_pos e]; exact hB
    · simp only [if_neg e]; exact h.base.2 i (by omega)
end
end Go.Proofs.YthgmhhlgjooeaaaGreatDoor.Ds
