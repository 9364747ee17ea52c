/- The law's own lists beside the heap: the least keys, what is in; how many are in. -/
import Derived.Test.YtkeniogcjhmikaaAwake
namespace Go.Proofs.Ytkeniogcjhmikaa
open Go.RowKit

/-- how many are in. -/
def cnt : List Bool → Nat
  | [] => 0
  | b :: r => (if b then 1 else 0) + cnt r
theorem cnt_le : ∀ bs : List Bool, cnt bs ≤ bs.length
  | [] => Nat.le_refl _
  | b :: r => by have := cnt_le r; unfold cnt; rw [List.length_cons]; split <;> omega
theorem cnt_add : ∀ (bs : List Bool) (d : Nat), bs[d]? = some false → cnt (bs.set d true) = cnt bs + 1
  | [], d, h => by simp at h
  | b :: r, 0, h => by simp at h; subst h; simp [cnt]; omega
  | b :: r, d + 1, h => by have := cnt_add r d (by simpa using h); rw [List.set_cons_succ]; unfold cnt; rw [this]; omega
theorem cnt_same : ∀ (bs : List Bool) (d : Nat), bs[d]? = some true → cnt (bs.set d true) = cnt bs
  | [], d, h => by simp at h
  | b :: r, 0, h => by simp at h; subst h; simp [cnt]
  | b :: r, d + 1, h => by have := cnt_same r d (by simpa using h); rw [List.set_cons_succ]; unfold cnt; rw [this]
theorem cnt_sub : ∀ (bs : List Bool) (d : Nat), bs[d]? = some true → cnt (bs.set d false) + 1 = cnt bs
  | [], d, h => by simp at h
  | b :: r, 0, h => by simp at h; subst h; simp [cnt]; omega
  | b :: r, d + 1, h => by have := cnt_sub r d (by simpa using h); rw [List.set_cons_succ]; unfold cnt; omega
theorem cnt_zero : ∀ (bs : List Bool) (d : Nat), cnt bs = 0 → bs[d]? ≠ some true
  | [], d, _ => by simp
  | b :: r, 0, h => by intro e; simp at e; subst e; simp [cnt] at h
  | b :: r, d + 1, h => by have := cnt_zero r d (by unfold cnt at h; omega); simpa using this
theorem cnt_pos : ∀ bs : List Bool, 0 < cnt bs → ∃ d : Nat, bs[d]? = some true
  | [], h => by simp [cnt] at h
  | true :: r, _ => ⟨0, rfl⟩
  | false :: r, h => by
    obtain ⟨d, hd⟩ := cnt_pos r (by simpa [cnt] using h)
    exact ⟨d + 1, by simpa using hd⟩
theorem cnt_none (n : Nat) : cnt (List.replicate n false) = 0 := by
  induction n with
  | zero => rfl
  | succ n ih => rw [List.replicate_succ]; unfold cnt; rw [ih]; rfl

/-- what the two lists say of the heap. -/
def Rel (n : Nat) (f : Int → Option Int) (ls : List Int) (bs : List Bool) : Prop := ∀ d : Nat, d < n → (bs[d]? = some true → ∃ k, ls[d]? = some k ∧ f d = some k) ∧ (bs[d]? = some false → f d = none)
theorem Rel.put {n : Nat} {f : Int → Option Int} {ls : List Int} {bs : List Bool} (h : Rel n f ls bs) (hl : ls.length = n) (hb : bs.length = n) {d : Nat} (hd : d < n) (k : Int) : Rel n (upd f d (some k)) (ls.set d k) (bs.set d true) := by
  intro e he
  by_cases hed : e = d
  · subst hed
    refine ⟨fun _ => ⟨k, set_same _ (by omega), upd_at _ _ _⟩, fun h' => ?_⟩
    rw [set_same _ (by omega)] at h'
    cases h'
  · rw [set_other _ hed, set_other _ hed, upd_off _ _ (by omega)]
    exact h e he
theorem Rel.out {n : Nat} {f : Int → Option Int} {ls : List Int} {bs : List Bool} (h : Rel n f ls bs) (hb : bs.length = n) {d : Nat} (hd : d < n) : Rel n (upd f d none) ls (bs.set d false) := by
  intro e he
  by_cases hed : e = d
  · subst hed
    refine ⟨fun h' => ?_, fun _ => upd_at _ _ _⟩
    rw [set_same _ (by omega)] at h'
    cases h'
  · rw [set_other _ hed, upd_off _ _ (by omega)]
    exact h e he
theorem Rel.new (n : Nat) (ls : List Int) : Rel n (fun _ => none) ls (List.replicate n false) := fun d hd => ⟨(fun h => by rw [List.getElem?_replicate, if_pos hd] at h; cases h), fun _ => rfl⟩

/-- the heap and the two lists in memory. -/
structure SM (w0 wr : World) (hb wb lb ib n : Nat) (sv : Value) (f : Int → Option Int) (ls : List Int) (bs : List Bool) : Prop where
  heap : IsHeap wr hb wb n sv f
  lrow : wr.heap[lb]? = some (.cells (ls.map (Value.int .u64)).toArray 33)
  irow : wr.heap[ib]? = some (.cells (bs.map Value.bool).toArray 4)
  ll : ls.length = n
  il : bs.length = n
  nl : lb ≠ hb ∧ lb ≠ wb ∧ some lb ≠ sv.ownBlock
  ni : ib ≠ hb ∧ ib ≠ wb ∧ some ib ≠ sv.ownBlock
  li : lb ≠ ib
  base : w0.heap.size ≤ hb ∧ w0.heap.size ≤ wb ∧ w0.heap.size ≤ lb ∧ w0.heap.size ≤ ib ∧ ∀ k, sv.ownBlock = some k → w0.heap.size ≤ k
  below : Below w0.heap.size w0 wr

section
variable {w0 wr : World} {hb wb lb ib n : Nat} {sv : Value} {f : Int → Option Int} {ls : List Int} {bs : List Bool}
theorem SM.op {w' : World} {sv' : Value} {f' : Int → Option Int} (h : SM w0 wr hb wb lb ib n sv f ls bs) (h' : IsHeap w' hb wb n sv' f') (hf : Fr hb wb sv sv' wr w') : SM w0 w' hb wb lb ib n sv' f' ls bs := by
  have l1 := lt_of_get h.lrow
  have l2 := lt_of_get h.irow
  refine ⟨h', (hf.block lb l1 h.nl.1 h.nl.2.1 h.nl.2.2).trans h.lrow, (hf.block ib l2 h.ni.1 h.ni.2.1 h.ni.2.2).trans h.irow, h.ll, h.il, ⟨h.nl.1, h.nl.2.1, fun e => h.nl.2.2 (hf.own lb l1 e.symm).symm⟩, ⟨h.ni.1, h.ni.2.1, fun e => h.ni.2.2 (hf.own ib l2 e.symm).symm⟩, h.li, ⟨h.base.1, h.base.2.1, h.base.2.2.1, h.base.2.2.2.1, fun k e => ?_⟩, h.below.trans (hf.below h.below.size h.base.1 h.base.2.1 h.base.2.2.2.2)⟩
  rcases Nat.lt_or_ge k wr.heap.size with hk | hk
  · exact h.base.2.2.2.2 k (hf.own k hk e)
  · exact Nat.le_trans h.below.size hk
theorem SM.later {w' : World} (h : SM w0 wr hb wb lb ib n sv f ls bs) (hb' : Below wr.heap.size wr w') : SM w0 w' hb wb lb ib n sv f ls bs := h.op (h.heap.below hb') (Fr.of_below hb')
theorem SM.drew (h : SM w0 wr hb wb lb ib n sv f ls bs) : SM w0 wr.drew hb wb lb ib n sv f ls bs := h.later ((Below.refl _ _).drew)
theorem SM.putL (h : SM w0 wr hb wb lb ib n sv f ls bs) (d : Nat) (k : Int) : SM w0 (wr.setCell ⟨lb, d, none⟩ (.int .u64 k)) hb wb lb ib n sv f (ls.set d k) bs := by
  have hk : ∀ j, j ≠ lb → (wr.setCell ⟨lb, d, none⟩ (.int .u64 k)).heap[j]? = wr.heap[j]? := fun j hj => heap_setCell_other _ _ _ _ hj
  refine ⟨h.heap.keep (fun j _ hj => hk j ?_), ?_, (hk ib (Ne.symm h.li)).trans h.irow, by rw [List.length_set]; exact h.ll, h.il, h.nl, h.ni, h.li, h.base, h.below.setCell (p := ⟨lb, d, none⟩) h.base.2.2.1 _⟩
  · rcases hj with rfl | rfl | hj
    · exact Ne.symm h.nl.1
    · exact Ne.symm h.nl.2.1
    · exact fun e => h.nl.2.2 (by rw [← e]; exact hj.symm)
  · rw [heap_setCell_same _ h.lrow]
    congr 2
    rw [List.setIfInBounds_toArray, List.map_set]
theorem SM.putI (h : SM w0 wr hb wb lb ib n sv f ls bs) (d : Nat) (b : Bool) : SM w0 (wr.setCell ⟨ib, d, none⟩ (.bool b)) hb wb lb ib n sv f ls (bs.set d b) := by
  have hk : ∀ j, j ≠ ib → (wr.setCell ⟨ib, d, none⟩ (.bool b)).heap[j]? = wr.heap[j]? := fun j hj => heap_setCell_other _ _ _ _ hj
  refine ⟨h.heap.keep (fun j _ hj => hk j ?_), (hk lb h.li).trans h.lrow, ?_, h.ll, by rw [List.length_set]; exact h.il, h.nl, h.ni, h.li, h.base, h.below.setCell (p := ⟨ib, d, none⟩) h.base.2.2.2.1 _⟩
  · rcases hj with rfl | rfl | hj
    · exact Ne.symm h.ni.1
    · exact Ne.symm h.ni.2.1
    · exact fun e => h.ni.2.2 (by rw [← e]; exact hj.symm)
  · rw [heap_setCell_same _ h.irow]
    congr 2
    rw [List.setIfInBounds_toArray, List.map_set]
theorem SM.lcell (h : SM w0 wr hb wb lb ib n sv f ls bs) {d : Nat} {k : Int} (hd : ls[d]? = some k) : wr.cell? ⟨lb, d, none⟩ = some (.int .u64 k) ∧ wr.frozen? ⟨lb, d, none⟩ = false := by
  refine ⟨(cells_at h.lrow d).1.trans ?_, (cells_at h.lrow d).2⟩
  simp [hd]
theorem SM.icell (h : SM w0 wr hb wb lb ib n sv f ls bs) {d : Nat} {b : Bool} (hd : bs[d]? = some b) : wr.cell? ⟨ib, d, none⟩ = some (.bool b) ∧ wr.frozen? ⟨ib, d, none⟩ = false := by
  refine ⟨(cells_at h.irow d).1.trans ?_, (cells_at h.irow d).2⟩
  simp [hd]
end

/-- a list of numbers in memory. -/
def HasNums (mk : Int → Value) (w : World) (v : Value) (xs : List Int) : Prop := ∃ ao cap, v = .slice ao xs.length cap ∧ ∀ j x, xs[j]? = some x → ∃ b off, ao = some ⟨b, off, none⟩ ∧ b < w.heap.size ∧ w.cell? ⟨b, off + j, none⟩ = some (mk x)
theorem HasNums.keep {mk : Int → Value} {w w' : World} {v : Value} {xs : List Int} (h : HasNums mk w v xs) (hb : Below w.heap.size w w') : HasNums mk w' v xs := by
  obtain ⟨ao, cap, e, hc⟩ := h
  refine ⟨ao, cap, e, fun j x hj => ?_⟩
  obtain ⟨b, off, ea, hl, hcell⟩ := hc j x hj
  exact ⟨b, off, ea, Nat.lt_of_lt_of_le hl hb.size, (hb.cell (p := ⟨b, off + j, none⟩) hl).trans hcell⟩
theorem HasNums.at {mk : Int → Value} {w : World} {ao : Option Addr} {cap : Nat} {xs : List Int} (h : HasNums mk w (.slice ao xs.length cap) xs) {j : Nat} {x : Int} (hj : xs[j]? = some x) : ∃ b off, ao = some ⟨b, off, none⟩ ∧ b < w.heap.size ∧ w.cell? ⟨b, off + j, none⟩ = some (mk x) := by
  obtain ⟨ao', cap', e, hc⟩ := h
  cases e
  exact hc j x hj
end Go.Proofs.Ytkeniogcjhmikaa
