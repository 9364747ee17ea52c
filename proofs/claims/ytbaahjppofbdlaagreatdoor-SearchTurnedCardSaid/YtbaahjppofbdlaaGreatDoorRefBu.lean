/- viaductref05.Build: three rows that grow, side by side. -/
import Derived.Test.YtbaahjppofbdlaaGreatDoorIntRow
import Derived.Test.YtbaahjppofbdlaaGreatDoorCsrOps
import Derived.Deep.AppendLies
import Derived.Deep.RegionLaw
import Derived.OwnWalk
namespace Go.Proofs.YtbaahjppofbdlaaGreatDoor
open Go.RowKit Go.Extern

theorem infoJ : (Tryz.prog.info? 3).map (fun i => (i.zero, i.size, i.bytes)) = some (some (.int .i64 0), 1, 8) := by kernel_rfl
/-- numbers as cells. -/
def iv (l : List Int) : List Value := l.map (Value.int .i64)
theorem iv_len (l : List Int) : (iv l).length = l.length * 1 := by simp [iv]
theorem iv_append (l r : List Int) : iv (l ++ r) = iv l ++ iv r := by simp [iv]
theorem iown_keep {w w' : World} {B n : Nat} {v : Value} {xs : List Value} (h : w.ownsRow B 3 1 v n xs) (hk : ∀ k, v.ownBlock = some k → w'.heap[k]? = w.heap[k]?) : w'.ownsRow B 3 1 v n xs := by
  obtain ⟨h1, h2⟩ := h
  refine ⟨h1, ?_⟩
  rcases h2 with h2 | ⟨g, cap, cur, e, hb, hh, r⟩
  · exact Or.inl h2
  · subst e
    exact Or.inr ⟨g, cap, cur, rfl, hb, (hk g rfl).trans hh, r⟩
theorem iown_not_box {w : World} {B n b : Nat} {v : Value} {xs : List Value} {c : Array Value} {T : TypeId} (h : w.ownsRow B 3 1 v n xs) (hb : w.heap[b]? = some (.cells c T)) (hT : T ≠ 3) : v.ownBlock ≠ some b := by
  rcases h.2 with ⟨rfl, _⟩ | ⟨g, cap, cur, rfl, _, hg, _⟩
  · intro e; cases e
  · intro e
    have e' : g = b := Option.some.inj e
    subst e'
    rw [hb] at hg
    injection hg with hg
    injection hg with h1 h2
    exact hT h2
theorem iown_slice {w : World} {B n : Nat} {v : Value} {xs : List Value} (h : w.ownsRow B 3 1 v n xs) : ∃ ao cap, v = .slice ao n cap := by
  rcases h.2 with ⟨h, h'⟩ | ⟨g, cap, cur, h, _⟩
  · exact ⟨none, 0, by rw [h']; exact h⟩
  · exact ⟨_, cap, h⟩
theorem ints_of_iown {w : World} {B : Nat} {v : Value} {l : List Int} (h : w.ownsRow B 3 1 v l.length (iv l)) : HasInts w v l := by
  rcases h.2 with ⟨e, h0⟩ | ⟨g, cap, cur, rfl, hg, hh, _⟩
  · have : l = [] := List.eq_nil_of_length_eq_zero h0
    subst this
    exact ⟨none, 0, e, fun j p hj => by simp at hj⟩
  · refine ⟨_, cap, rfl, fun j a hj => ⟨g, 0, rfl, lt_of_get hh, ?_⟩⟩
    have hlt := (List.getElem?_eq_some_iff.1 hj).1
    rw [Nat.zero_add]
    exact (h.cellAt j (by omega)).trans (by simp [iv, hj])
/-- two rows that share no block. -/
def Apart (a b : Value) : Prop := ∀ k, a.ownBlock = some k → b.ownBlock ≠ some k
theorem Apart.symm {a b : Value} (h : Apart a b) : Apart b a := fun k hk e => h k e hk
/-- three rows that grow, the box that names them, and the boxes of old. -/
structure RB (w : World) (c1 c2 : Value) (F T V : List Int) (fv tv vv : Value) (wr : World) : Prop where
  f : wr.ownsRow (w.heap.size + 1 + 1) 3 1 fv F.length (iv F)
  t : wr.ownsRow (w.heap.size + 1 + 1) 3 1 tv T.length (iv T)
  v : wr.ownsRow (w.heap.size + 1 + 1) 3 1 vv V.length (iv V)
  ft : Apart fv tv
  fx : Apart fv vv
  tx : Apart tv vv
  c : wr.heap[w.heap.size + 1 + 1 + 1]? = some (.cells #[fv, tv, vv] 55)
  g : wr.heap[w.heap.size]? = some (.cells #[c1, c2] 24)
  r : wr.heap[w.heap.size + 1]? = some (.cells #[.slice none 0 0, .slice none 0 0, .slice none 0 0] 55)
  below : Below w.heap.size w wr
theorem RB.keep {w wr wn : World} {c1 c2 : Value} {F T V : List Int} {fv tv vv : Value} (h : RB w c1 c2 F T V fv tv vv wr) (hb : Below wr.heap.size wr wn) : RB w c1 c2 F T V fv tv vv wn :=
  ⟨iown_keep h.f fun k hk => hb.block _ (h.f.lt k hk).2, iown_keep h.t fun k hk => hb.block _ (h.t.lt k hk).2, iown_keep h.v fun k hk => hb.block _ (h.v.lt k hk).2, h.ft, h.fx, h.tx, (hb.block _ (lt_of_get h.c)).trans h.c, (hb.block _ (lt_of_get h.g)).trans h.g, (hb.block _ (lt_of_get h.r)).trans h.r, h.below.trans (hb.mono h.below.size)⟩
/-- a number behind the row F. -/
theorem RB.appF {w wr wx w1 : World} {c1 c2 : Value} {F T V : List Int} {fv tv vv : Value} {x : Int} {g cap H : Nat} (h0 : RB w c1 c2 F T V fv tv vv wr) (hx : Below wr.heap.size wr wx) (hown : w1.ownsRow (w.heap.size + 1 + 1) 3 1 (.slice (some ⟨g, 0, none⟩) (F.length + 1) cap) (F.length + 1) (iv F ++ [.int .i64 x])) (hgr : wx.grownBy w1 fv.ownBlock) (hat : fv.ownBlock = some g ∨ g = H) (hH : wx.heap.size = H) :
    RB w c1 c2 (F ++ [x]) T V (.slice (some ⟨g, 0, none⟩) (F.length + 1) cap) tv vv (w1.setCell ⟨w.heap.size + 1 + 1 + 1, 0, none⟩ (.slice (some ⟨g, 0, none⟩) (F.length + 1) cap)) := by
  have h := h0.keep hx
  have nb : fv.ownBlock ≠ some (w.heap.size + 1 + 1 + 1) := iown_not_box h.f h.c (by decide)
  have hc1 := (hgr.block _ (lt_of_get h.c) (fun e => nb e.symm)).trans h.c
  have hgb := (hgr.block _ (lt_of_get h.g) (fun e => by have := (h.f.lt _ e.symm).1; omega)).trans h.g
  have hrb := (hgr.block _ (lt_of_get h.r) (fun e => by have := (h.f.lt _ e.symm).1; omega)).trans h.r
  have ng : (Value.slice (some ⟨g, 0, none⟩) (F.length + 1) cap).ownBlock ≠ some (w.heap.size + 1 + 1 + 1) := iown_not_box hown hc1 (by decide)
  have keepO : ∀ {u : Value} {n : Nat} {xs : List Value}, wx.ownsRow (w.heap.size + 1 + 1) 3 1 u n xs → Apart u fv → (w1.setCell ⟨w.heap.size + 1 + 1 + 1, 0, none⟩ (.slice (some ⟨g, 0, none⟩) (F.length + 1) cap)).ownsRow (w.heap.size + 1 + 1) 3 1 u n xs := fun {u n xs} hu ha => iown_keep hu fun k hk => by
    have hkc : k ≠ w.heap.size + 1 + 1 + 1 := fun e => iown_not_box hu h.c (by decide) (by rw [hk, e])
    rw [heap_setCell_other _ _ _ _ hkc]
    exact hgr.block k (hu.lt k hk).2 (fun e => ha k hk e.symm)
  have apartO : ∀ {u : Value} {n : Nat} {xs : List Value}, wx.ownsRow (w.heap.size + 1 + 1) 3 1 u n xs → Apart u fv → Apart u (.slice (some ⟨g, 0, none⟩) (F.length + 1) cap) := fun {u n xs} hu ha k hk e => by
    have e' : g = k := Option.some.inj e
    subst e'
    rcases hat with h' | h'
    · exact ha g hk h'
    · have := (hu.lt g hk).2
      omega
  refine ⟨(by rw [List.length_append, iv_append]; exact iown_keep hown fun k hk => heap_setCell_other _ _ _ _ (fun e => ng (by rw [hk, e]))), keepO h.t h.ft.symm, keepO h.v h.fx.symm, (apartO h.t h.ft.symm).symm, (apartO h.v h.fx.symm).symm, h.tx, ?_, ?_, ?_, ?_⟩
  · exact (Go.heap_setCell_same _ _ 0 _ _ _ hc1).trans rfl
  · exact (heap_setCell_other _ _ _ _ (by show w.heap.size ≠ w.heap.size + 1 + 1 + 1; omega)).trans hgb
  · exact (heap_setCell_other _ _ _ _ (by show w.heap.size + 1 ≠ w.heap.size + 1 + 1 + 1; omega)).trans hrb
  · refine Below.setCell (p := ⟨w.heap.size + 1 + 1 + 1, 0, none⟩) ?_ (by show w.heap.size ≤ w.heap.size + 1 + 1 + 1; omega) _
    exact h.below.trans ⟨hgr.os, hgr.tape, hgr.output, hgr.size, fun j hj => hgr.block j (Nat.lt_of_lt_of_le hj h.below.size) (fun e => by have := (h.f.lt _ e.symm).1; omega)⟩
/-- a number behind the row T. -/
theorem RB.appT {w wr wx w1 : World} {c1 c2 : Value} {F T V : List Int} {fv tv vv : Value} {x : Int} {g cap H : Nat} (h0 : RB w c1 c2 F T V fv tv vv wr) (hx : Below wr.heap.size wr wx) (hown : w1.ownsRow (w.heap.size + 1 + 1) 3 1 (.slice (some ⟨g, 0, none⟩) (T.length + 1) cap) (T.length + 1) (iv T ++ [.int .i64 x])) (hgr : wx.grownBy w1 tv.ownBlock) (hat : tv.ownBlock = some g ∨ g = H) (hH : wx.heap.size = H) :
    RB w c1 c2 F (T ++ [x]) V fv (.slice (some ⟨g, 0, none⟩) (T.length + 1) cap) vv (w1.setCell ⟨w.heap.size + 1 + 1 + 1, 1, none⟩ (.slice (some ⟨g, 0, none⟩) (T.length + 1) cap)) := by
  have h := h0.keep hx
  have nb : tv.ownBlock ≠ some (w.heap.size + 1 + 1 + 1) := iown_not_box h.t h.c (by decide)
  have hc1 := (hgr.block _ (lt_of_get h.c) (fun e => nb e.symm)).trans h.c
  have hgb := (hgr.block _ (lt_of_get h.g) (fun e => by have := (h.t.lt _ e.symm).1; omega)).trans h.g
  have hrb := (hgr.block _ (lt_of_get h.r) (fun e => by have := (h.t.lt _ e.symm).1; omega)).trans h.r
  have ng : (Value.slice (some ⟨g, 0, none⟩) (T.length + 1) cap).ownBlock ≠ some (w.heap.size + 1 + 1 + 1) := iown_not_box hown hc1 (by decide)
  have keepO : ∀ {u : Value} {n : Nat} {xs : List Value}, wx.ownsRow (w.heap.size + 1 + 1) 3 1 u n xs → Apart u tv → (w1.setCell ⟨w.heap.size + 1 + 1 + 1, 1, none⟩ (.slice (some ⟨g, 0, none⟩) (T.length + 1) cap)).ownsRow (w.heap.size + 1 + 1) 3 1 u n xs := fun {u n xs} hu ha => iown_keep hu fun k hk => by
    have hkc : k ≠ w.heap.size + 1 + 1 + 1 := fun e => iown_not_box hu h.c (by decide) (by rw [hk, e])
    rw [heap_setCell_other _ _ _ _ hkc]
    exact hgr.block k (hu.lt k hk).2 (fun e => ha k hk e.symm)
  have apartO : ∀ {u : Value} {n : Nat} {xs : List Value}, wx.ownsRow (w.heap.size + 1 + 1) 3 1 u n xs → Apart u tv → Apart u (.slice (some ⟨g, 0, none⟩) (T.length + 1) cap) := fun {u n xs} hu ha k hk e => by
    have e' : g = k := Option.some.inj e
    subst e'
    rcases hat with h' | h'
    · exact ha g hk h'
    · have := (hu.lt g hk).2
      omega
  refine ⟨keepO h.f h.ft, (by rw [List.length_append, iv_append]; exact iown_keep hown fun k hk => heap_setCell_other _ _ _ _ (fun e => ng (by rw [hk, e]))), keepO h.v h.tx.symm, apartO h.f h.ft, h.fx, (apartO h.v h.tx.symm).symm, ?_, ?_, ?_, ?_⟩
  · exact (Go.heap_setCell_same _ _ 1 _ _ _ hc1).trans rfl
  · exact (heap_setCell_other _ _ _ _ (by show w.heap.size ≠ w.heap.size + 1 + 1 + 1; omega)).trans hgb
  · exact (heap_setCell_other _ _ _ _ (by show w.heap.size + 1 ≠ w.heap.size + 1 + 1 + 1; omega)).trans hrb
  · refine Below.setCell (p := ⟨w.heap.size + 1 + 1 + 1, 1, none⟩) ?_ (by show w.heap.size ≤ w.heap.size + 1 + 1 + 1; omega) _
    exact h.below.trans ⟨hgr.os, hgr.tape, hgr.output, hgr.size, fun j hj => hgr.block j (Nat.lt_of_lt_of_le hj h.below.size) (fun e => by have := (h.t.lt _ e.symm).1; omega)⟩
/-- a number behind the row V. -/
theorem RB.appV {w wr wx w1 : World} {c1 c2 : Value} {F T V : List Int} {fv tv vv : Value} {x : Int} {g cap H : Nat} (h0 : RB w c1 c2 F T V fv tv vv wr) (hx : Below wr.heap.size wr wx) (hown : w1.ownsRow (w.heap.size + 1 + 1) 3 1 (.slice (some ⟨g, 0, none⟩) (V.length + 1) cap) (V.length + 1) (iv V ++ [.int .i64 x])) (hgr : wx.grownBy w1 vv.ownBlock) (hat : vv.ownBlock = some g ∨ g = H) (hH : wx.heap.size = H) :
    RB w c1 c2 F T (V ++ [x]) fv tv (.slice (some ⟨g, 0, none⟩) (V.length + 1) cap) (w1.setCell ⟨w.heap.size + 1 + 1 + 1, 2, none⟩ (.slice (some ⟨g, 0, none⟩) (V.length + 1) cap)) := by
  have h := h0.keep hx
  have nb : vv.ownBlock ≠ some (w.heap.size + 1 + 1 + 1) := iown_not_box h.v h.c (by decide)
  have hc1 := (hgr.block _ (lt_of_get h.c) (fun e => nb e.symm)).trans h.c
  have hgb := (hgr.block _ (lt_of_get h.g) (fun e => by have := (h.v.lt _ e.symm).1; omega)).trans h.g
  have hrb := (hgr.block _ (lt_of_get h.r) (fun e => by have := (h.v.lt _ e.symm).1; omega)).trans h.r
  have ng : (Value.slice (some ⟨g, 0, none⟩) (V.length + 1) cap).ownBlock ≠ some (w.heap.size + 1 + 1 + 1) := iown_not_box hown hc1 (by decide)
  have keepO : ∀ {u : Value} {n : Nat} {xs : List Value}, wx.ownsRow (w.heap.size + 1 + 1) 3 1 u n xs → Apart u vv → (w1.setCell ⟨w.heap.size + 1 + 1 + 1, 2, none⟩ (.slice (some ⟨g, 0, none⟩) (V.length + 1) cap)).ownsRow (w.heap.size + 1 + 1) 3 1 u n xs := fun {u n xs} hu ha => iown_keep hu fun k hk => by
    have hkc : k ≠ w.heap.size + 1 + 1 + 1 := fun e => iown_not_box hu h.c (by decide) (by rw [hk, e])
    rw [heap_setCell_other _ _ _ _ hkc]
    exact hgr.block k (hu.lt k hk).2 (fun e => ha k hk e.symm)
  have apartO : ∀ {u : Value} {n : Nat} {xs : List Value}, wx.ownsRow (w.heap.size + 1 + 1) 3 1 u n xs → Apart u vv → Apart u (.slice (some ⟨g, 0, none⟩) (V.length + 1) cap) := fun {u n xs} hu ha k hk e => by
    have e' : g = k := Option.some.inj e
    subst e'
    rcases hat with h' | h'
    · exact ha g hk h'
    · have := (hu.lt g hk).2
      omega
  refine ⟨keepO h.f h.fx, keepO h.t h.tx, (by rw [List.length_append, iv_append]; exact iown_keep hown fun k hk => heap_setCell_other _ _ _ _ (fun e => ng (by rw [hk, e]))), h.ft, apartO h.f h.fx, apartO h.t h.tx, ?_, ?_, ?_, ?_⟩
  · exact (Go.heap_setCell_same _ _ 2 _ _ _ hc1).trans rfl
  · exact (heap_setCell_other _ _ _ _ (by show w.heap.size ≠ w.heap.size + 1 + 1 + 1; omega)).trans hgb
  · exact (heap_setCell_other _ _ _ _ (by show w.heap.size + 1 ≠ w.heap.size + 1 + 1 + 1; omega)).trans hrb
  · refine Below.setCell (p := ⟨w.heap.size + 1 + 1 + 1, 2, none⟩) ?_ (by show w.heap.size ≤ w.heap.size + 1 + 1 + 1; omega) _
    exact h.below.trans ⟨hgr.os, hgr.tape, hgr.output, hgr.size, fun j hj => hgr.block j (Nat.lt_of_lt_of_le hj h.below.size) (fun e => by have := (h.v.lt _ e.symm).1; omega)⟩
end Go.Proofs.YtbaahjppofbdlaaGreatDoor
