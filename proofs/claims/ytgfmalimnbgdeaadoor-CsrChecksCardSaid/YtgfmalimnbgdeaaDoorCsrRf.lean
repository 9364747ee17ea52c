/- viaductref05.Build: three rows that grow, side by side. viaductref05.Row and Node at right arrays. viaductref05.Graph at right arrays: the list of arcs. viaductref05.DocGraph and DocRow, by what DocCheck tells. viaductref05.DocRow, by what DocCheck tells. viaductref05.DocFind, by what DocRow answers. csr.Find where there is no arc and To is nil. viaductref02.TwinInts, viaductref05.Twin and the law's own 'to': arrays copied into new memory. -/
import Derived.Test.YtgfmalimnbgdeaaDoorIntRow
import Derived.Test.YtgfmalimnbgdeaaDoorCsrOps
import Derived.Deep.AppendLies
import Derived.Deep.RegionLaw
import Derived.OwnWalk
import Derived.Test.YtgfmalimnbgdeaaDoorCsrRo
import Derived.Test.YtgfmalimnbgdeaaDoorCsrDc
import Derived.Test.YtgfmalimnbgdeaaDoorCsrFi
namespace Go.Proofs.YtgfmalimnbgdeaaDoor
open Go.RowKit Go.Extern

theorem infoJ : (Tryd.prog.info? 3).map (fun i => (i.zero, i.size, i.bytes)) = some (some (.int .i64 0), 1, 8) := by kernel_rfl
/-- numbers as cells. -/
def iv (l : List Int) : List Value := l.map (Value.int .i64)
theorem iv_len (l : List Int) : (iv l).length = l.length * 1 := by simp [iv]
theorem iv_append (l r : List Int) : iv (l ++ r) = iv l ++ iv r := by simp [iv]
theorem iown_keep {w w' : World} {B n : Nat} {v : Value} {xs : List Value} (h : w.ownsRow B 3 1 v n xs) (hk : ∀ k, v.ownBlock = some k → w'.heap[k]? = w.heap[k]?) : w'.ownsRow B 3 1 v n xs := by
  obtain ⟨h1, h2⟩ := h
  refine ⟨h1, ?_⟩
  rcases h2 with h2 | ⟨g, cap, cur, e, hb, hh, r⟩
  · exact Or.inl h2
  · subst e
    exact Or.inr ⟨g, cap, cur, rfl, hb, (hk g rfl).trans hh, r⟩
theorem iown_not_box {w : World} {B n b : Nat} {v : Value} {xs : List Value} {c : Array Value} {T : TypeId} (h : w.ownsRow B 3 1 v n xs) (hb : w.heap[b]? = some (.cells c T)) (hT : T ≠ 3) : v.ownBlock ≠ some b := by
  rcases h.2 with ⟨rfl, _⟩ | ⟨g, cap, cur, rfl, _, hg, _⟩
  · intro e; cases e
  · intro e
    have e' : g = b := Option.some.inj e
    subst e'
    rw [hb] at hg
    injection hg with hg
    injection hg with h1 h2
    exact hT h2
theorem iown_slice {w : World} {B n : Nat} {v : Value} {xs : List Value} (h : w.ownsRow B 3 1 v n xs) : ∃ ao cap, v = .slice ao n cap := by
  rcases h.2 with ⟨h, h'⟩ | ⟨g, cap, cur, h, _⟩
  · exact ⟨none, 0, by rw [h']; exact h⟩
  · exact ⟨_, cap, h⟩
theorem ints_of_iown {w : World} {B : Nat} {v : Value} {l : List Int} (h : w.ownsRow B 3 1 v l.length (iv l)) : HasInts w v l := by
  rcases h.2 with ⟨e, h0⟩ | ⟨g, cap, cur, rfl, hg, hh, _⟩
  · have : l = [] := List.eq_nil_of_length_eq_zero h0
    subst this
    exact ⟨none, 0, e, fun j p hj => by simp at hj⟩
  · refine ⟨_, cap, rfl, fun j a hj => ⟨g, 0, rfl, lt_of_get hh, ?_⟩⟩
    have hlt := (List.getElem?_eq_some_iff.1 hj).1
    rw [Nat.zero_add]
    exact (h.cellAt j (by omega)).trans (by simp [iv, hj])
/-- two rows that share no block. -/
def Apart (a b : Value) : Prop := ∀ k, a.ownBlock = some k → b.ownBlock ≠ some k
theorem Apart.symm {a b : Value} (h : Apart a b) : Apart b a := fun k hk e => h k e hk
/-- three rows that grow, the box that names them, and the boxes of old. -/
structure RB (w : World) (c1 c2 : Value) (F T V : List Int) (fv tv vv : Value) (wr : World) : Prop where
  f : wr.ownsRow (w.heap.size + 1 + 1) 3 1 fv F.length (iv F)
  t : wr.ownsRow (w.heap.size + 1 + 1) 3 1 tv T.length (iv T)
  v : wr.ownsRow (w.heap.size + 1 + 1) 3 1 vv V.length (iv V)
  ft : Apart fv tv
  fx : Apart fv vv
  tx : Apart tv vv
  c : wr.heap[w.heap.size + 1 + 1 + 1]? = some (.cells #[fv, tv, vv] 34)
  g : wr.heap[w.heap.size]? = some (.cells #[c1, c2] 24)
  r : wr.heap[w.heap.size + 1]? = some (.cells #[.slice none 0 0, .slice none 0 0, .slice none 0 0] 34)
  below : Below w.heap.size w wr
theorem RB.keep {w wr wn : World} {c1 c2 : Value} {F T V : List Int} {fv tv vv : Value} (h : RB w c1 c2 F T V fv tv vv wr) (hb : Below wr.heap.size wr wn) : RB w c1 c2 F T V fv tv vv wn :=
  ⟨iown_keep h.f fun k hk => hb.block _ (h.f.lt k hk).2, iown_keep h.t fun k hk => hb.block _ (h.t.lt k hk).2, iown_keep h.v fun k hk => hb.block _ (h.v.lt k hk).2, h.ft, h.fx, h.tx, (hb.block _ (lt_of_get h.c)).trans h.c, (hb.block _ (lt_of_get h.g)).trans h.g, (hb.block _ (lt_of_get h.r)).trans h.r, h.below.trans (hb.mono h.below.size)⟩
/-- a number behind the row F. -/
theorem RB.appF {w wr wx w1 : World} {c1 c2 : Value} {F T V : List Int} {fv tv vv : Value} {x : Int} {g cap H : Nat} (h0 : RB w c1 c2 F T V fv tv vv wr) (hx : Below wr.heap.size wr wx) (hown : w1.ownsRow (w.heap.size + 1 + 1) 3 1 (.slice (some ⟨g, 0, none⟩) (F.length + 1) cap) (F.length + 1) (iv F ++ [.int .i64 x])) (hgr : wx.grownBy w1 fv.ownBlock) (hat : fv.ownBlock = some g ∨ g = H) (hH : wx.heap.size = H) :
    RB w c1 c2 (F ++ [x]) T V (.slice (some ⟨g, 0, none⟩) (F.length + 1) cap) tv vv (w1.setCell ⟨w.heap.size + 1 + 1 + 1, 0, none⟩ (.slice (some ⟨g, 0, none⟩) (F.length + 1) cap)) := by
  have h := h0.keep hx
  have nb : fv.ownBlock ≠ some (w.heap.size + 1 + 1 + 1) := iown_not_box h.f h.c (by decide)
  have hc1 := (hgr.block _ (lt_of_get h.c) (fun e => nb e.symm)).trans h.c
  have hgb := (hgr.block _ (lt_of_get h.g) (fun e => by have := (h.f.lt _ e.symm).1; omega)).trans h.g
  have hrb := (hgr.block _ (lt_of_get h.r) (fun e => by have := (h.f.lt _ e.symm).1; omega)).trans h.r
  have ng : (Value.slice (some ⟨g, 0, none⟩) (F.length + 1) cap).ownBlock ≠ some (w.heap.size + 1 + 1 + 1) := iown_not_box hown hc1 (by decide)
  have keepO : ∀ {u : Value} {n : Nat} {xs : List Value}, wx.ownsRow (w.heap.size + 1 + 1) 3 1 u n xs → Apart u fv → (w1.setCell ⟨w.heap.size + 1 + 1 + 1, 0, none⟩ (.slice (some ⟨g, 0, none⟩) (F.length + 1) cap)).ownsRow (w.heap.size + 1 + 1) 3 1 u n xs := fun {u n xs} hu ha => iown_keep hu fun k hk => by
    have hkc : k ≠ w.heap.size + 1 + 1 + 1 := fun e => iown_not_box hu h.c (by decide) (by rw [hk, e])
    rw [heap_setCell_other _ _ _ _ hkc]
    exact hgr.block k (hu.lt k hk).2 (fun e => ha k hk e.symm)
  have apartO : ∀ {u : Value} {n : Nat} {xs : List Value}, wx.ownsRow (w.heap.size + 1 + 1) 3 1 u n xs → Apart u fv → Apart u (.slice (some ⟨g, 0, none⟩) (F.length + 1) cap) := fun {u n xs} hu ha k hk e => by
    have e' : g = k := Option.some.inj e
    subst e'
    rcases hat with h' | h'
    · exact ha g hk h'
    · have := (hu.lt g hk).2
      omega
  refine ⟨(by rw [List.length_append, iv_append]; exact iown_keep hown fun k hk => heap_setCell_other _ _ _ _ (fun e => ng (by rw [hk, e]))), keepO h.t h.ft.symm, keepO h.v h.fx.symm, (apartO h.t h.ft.symm).symm, (apartO h.v h.fx.symm).symm, h.tx, ?_, ?_, ?_, ?_⟩
  · exact (Go.heap_setCell_same _ _ 0 _ _ _ hc1).trans rfl
  · exact (heap_setCell_other _ _ _ _ (by show w.heap.size ≠ w.heap.size + 1 + 1 + 1; omega)).trans hgb
  · exact (heap_setCell_other _ _ _ _ (by show w.heap.size + 1 ≠ w.heap.size + 1 + 1 + 1; omega)).trans hrb
  · refine Below.setCell (p := ⟨w.heap.size + 1 + 1 + 1, 0, none⟩) ?_ (by show w.heap.size ≤ w.heap.size + 1 + 1 + 1; omega) _
    exact h.below.trans ⟨hgr.os, hgr.tape, hgr.output, hgr.size, fun j hj => hgr.block j (Nat.lt_of_lt_of_le hj h.below.size) (fun e => by have := (h.f.lt _ e.symm).1; omega)⟩
/-- a number behind the row T. -/
theorem RB.appT {w wr wx w1 : World} {c1 c2 : Value} {F T V : List Int} {fv tv vv : Value} {x : Int} {g cap H : Nat} (h0 : RB w c1 c2 F T V fv tv vv wr) (hx : Below wr.heap.size wr wx) (hown : w1.ownsRow (w.heap.size + 1 + 1) 3 1 (.slice (some ⟨g, 0, none⟩) (T.length + 1) cap) (T.length + 1) (iv T ++ [.int .i64 x])) (hgr : wx.grownBy w1 tv.ownBlock) (hat : tv.ownBlock = some g ∨ g = H) (hH : wx.heap.size = H) :
    RB w c1 c2 F (T ++ [x]) V fv (.slice (some ⟨g, 0, none⟩) (T.length + 1) cap) vv (w1.setCell ⟨w.heap.size + 1 + 1 + 1, 1, none⟩ (.slice (some ⟨g, 0, none⟩) (T.length + 1) cap)) := by
  have h := h0.keep hx
  have nb : tv.ownBlock ≠ some (w.heap.size + 1 + 1 + 1) := iown_not_box h.t h.c (by decide)
  have hc1 := (hgr.block _ (lt_of_get h.c) (fun e => nb e.symm)).trans h.c
  have hgb := (hgr.block _ (lt_of_get h.g) (fun e => by have := (h.t.lt _ e.symm).1; omega)).trans h.g
  have hrb := (hgr.block _ (lt_of_get h.r) (fun e => by have := (h.t.lt _ e.symm).1; omega)).trans h.r
  have ng : (Value.slice (some ⟨g, 0, none⟩) (T.length + 1) cap).ownBlock ≠ some (w.heap.size + 1 + 1 + 1) := iown_not_box hown hc1 (by decide)
  have keepO : ∀ {u : Value} {n : Nat} {xs : List Value}, wx.ownsRow (w.heap.size + 1 + 1) 3 1 u n xs → Apart u tv → (w1.setCell ⟨w.heap.size + 1 + 1 + 1, 1, none⟩ (.slice (some ⟨g, 0, none⟩) (T.length + 1) cap)).ownsRow (w.heap.size + 1 + 1) 3 1 u n xs := fun {u n xs} hu ha => iown_keep hu fun k hk => by
    have hkc : k ≠ w.heap.size + 1 + 1 + 1 := fun e => iown_not_box hu h.c (by decide) (by rw [hk, e])
    rw [heap_setCell_other _ _ _ _ hkc]
    exact hgr.block k (hu.lt k hk).2 (fun e => ha k hk e.symm)
  have apartO : ∀ {u : Value} {n : Nat} {xs : List Value}, wx.ownsRow (w.heap.size + 1 + 1) 3 1 u n xs → Apart u tv → Apart u (.slice (some ⟨g, 0, none⟩) (T.length + 1) cap) := fun {u n xs} hu ha k hk e => by
    have e' : g = k := Option.some.inj e
    subst e'
    rcases hat with h' | h'
    · exact ha g hk h'
    · have := (hu.lt g hk).2
      omega
  refine ⟨keepO h.f h.ft, (by rw [List.length_append, iv_append]; exact iown_keep hown fun k hk => heap_setCell_other _ _ _ _ (fun e => ng (by rw [hk, e]))), keepO h.v h.tx.symm, apartO h.f h.ft, h.fx, (apartO h.v h.tx.symm).symm, ?_, ?_, ?_, ?_⟩
  · exact (Go.heap_setCell_same _ _ 1 _ _ _ hc1).trans rfl
  · exact (heap_setCell_other _ _ _ _ (by show w.heap.size ≠ w.heap.size + 1 + 1 + 1; omega)).trans hgb
  · exact (heap_setCell_other _ _ _ _ (by show w.heap.size + 1 ≠ w.heap.size + 1 + 1 + 1; omega)).trans hrb
  · refine Below.setCell (p := ⟨w.heap.size + 1 + 1 + 1, 1, none⟩) ?_ (by show w.heap.size ≤ w.heap.size + 1 + 1 + 1; omega) _
    exact h.below.trans ⟨hgr.os, hgr.tape, hgr.output, hgr.size, fun j hj => hgr.block j (Nat.lt_of_lt_of_le hj h.below.size) (fun e => by have := (h.t.lt _ e.symm).1; omega)⟩
/-- a number behind the row V. -/
theorem RB.appV {w wr wx w1 : World} {c1 c2 : Value} {F T V : List Int} {fv tv vv : Value} {x : Int} {g cap H : Nat} (h0 : RB w c1 c2 F T V fv tv vv wr) (hx : Below wr.heap.size wr wx) (hown : w1.ownsRow (w.heap.size + 1 + 1) 3 1 (.slice (some ⟨g, 0, none⟩) (V.length + 1) cap) (V.length + 1) (iv V ++ [.int .i64 x])) (hgr : wx.grownBy w1 vv.ownBlock) (hat : vv.ownBlock = some g ∨ g = H) (hH : wx.heap.size = H) :
    RB w c1 c2 F T (V ++ [x]) fv tv (.slice (some ⟨g, 0, none⟩) (V.length + 1) cap) (w1.setCell ⟨w.heap.size + 1 + 1 + 1, 2, none⟩ (.slice (some ⟨g, 0, none⟩) (V.length + 1) cap)) := by
  have h := h0.keep hx
  have nb : vv.ownBlock ≠ some (w.heap.size + 1 + 1 + 1) := iown_not_box h.v h.c (by decide)
  have hc1 := (hgr.block _ (lt_of_get h.c) (fun e => nb e.symm)).trans h.c
  have hgb := (hgr.block _ (lt_of_get h.g) (fun e => by have := (h.v.lt _ e.symm).1; omega)).trans h.g
  have hrb := (hgr.block _ (lt_of_get h.r) (fun e => by have := (h.v.lt _ e.symm).1; omega)).trans h.r
  have ng : (Value.slice (some ⟨g, 0, none⟩) (V.length + 1) cap).ownBlock ≠ some (w.heap.size + 1 + 1 + 1) := iown_not_box hown hc1 (by decide)
  have keepO : ∀ {u : Value} {n : Nat} {xs : List Value}, wx.ownsRow (w.heap.size + 1 + 1) 3 1 u n xs → Apart u vv → (w1.setCell ⟨w.heap.size + 1 + 1 + 1, 2, none⟩ (.slice (some ⟨g, 0, none⟩) (V.length + 1) cap)).ownsRow (w.heap.size + 1 + 1) 3 1 u n xs := fun {u n xs} hu ha => iown_keep hu fun k hk => by
    have hkc : k ≠ w.heap.size + 1 + 1 + 1 := fun e => iown_not_box hu h.c (by decide) (by rw [hk, e])
    rw [heap_setCell_other _ _ _ _ hkc]
    exact hgr.block k (hu.lt k hk).2 (fun e => ha k hk e.symm)
  have apartO : ∀ {u : Value} {n : Nat} {xs : List Value}, wx.ownsRow (w.heap.size + 1 + 1) 3 1 u n xs → Apart u vv → Apart u (.slice (some ⟨g, 0, none⟩) (V.length + 1) cap) := fun {u n xs} hu ha k hk e => by
    have e' : g = k := Option.some.inj e
    subst e'
    rcases hat with h' | h'
    · exact ha g hk h'
    · have := (hu.lt g hk).2
      omega
  refine ⟨keepO h.f h.fx, keepO h.t h.tx, (by rw [List.length_append, iv_append]; exact iown_keep hown fun k hk => heap_setCell_other _ _ _ _ (fun e => ng (by rw [hk, e]))), h.ft, apartO h.f h.fx, apartO h.t h.tx, ?_, ?_, ?_, ?_⟩
  · exact (Go.heap_setCell_same _ _ 2 _ _ _ hc1).trans rfl
  · exact (heap_setCell_other _ _ _ _ (by show w.heap.size ≠ w.heap.size + 1 + 1 + 1; omega)).trans hgb
  · exact (heap_setCell_other _ _ _ _ (by show w.heap.size + 1 ≠ w.heap.size + 1 + 1 + 1; omega)).trans hrb
  · refine Below.setCell (p := ⟨w.heap.size + 1 + 1 + 1, 2, none⟩) ?_ (by show w.heap.size ≤ w.heap.size + 1 + 1 + 1; omega) _
    exact h.below.trans ⟨hgr.os, hgr.tape, hgr.output, hgr.size, fun j hj => hgr.block j (Nat.lt_of_lt_of_le hj h.below.size) (fun e => by have := (h.v.lt _ e.symm).1; omega)⟩
end Go.Proofs.YtgfmalimnbgdeaaDoor

namespace Go.Proofs.YtgfmalimnbgdeaaDoor
open Go.RowKit Go.Extern

attribute [local go_sem] Oper.semAt_some

set_option maxRecDepth 100000 in
set_option maxHeartbeats 4000000 in
theorem rRow_calls (n : Nat) (zs : List (Int × Int × Int)) (fo to wo : Option Addr) (fc tc wc : Nat) (w : World) (hz : Fine n zs) (h : CsrIn w n zs fo to wo fc tc wc) (v : Nat) (hv : v < n) :
    Calls Tryd.prog 49 #[.agg #[.slice fo (n + 1) fc, .slice to zs.length tc, .slice wo zs.length wc], .int .i64 v] w fun e w' => ∃ lo lc, e = .returned (.slice lo (theRow zs v).length lc) ∧ w'.ownsRow w.heap.size 63 3 (.slice lo (theRow zs v).length lc) (theRow zs v).length (flatC (theRow zs v)) ∧ Below w.heap.size w w' := by
  unfold theRow
  obtain ⟨fb, fof, rfl, hl, hc⟩ := h.first
  have hN := hz.few
  have hM := hz.short
  obtain ⟨W0, hW0⟩ : ∃ W0, w.alloc (.cells #[.slice (some ⟨fb, fof, none⟩) (n + 1) fc, .slice to zs.length tc, .slice wo zs.length wc] 34) = W0 := ⟨_, rfl⟩
  have HW0 : Hid (w.alloc (.cells #[.slice (some ⟨fb, fof, none⟩) (n + 1) fc, .slice to zs.length tc, .slice wo zs.length wc] 34) = W0) := hW0
  have hB0 : Below w.heap.size w W0 := by rw [← hW0]; exact (Below.refl _ w).alloc (Nat.le_refl _) _
  have HBX : Hid (W0.heap[w.heap.size]? = some (.cells #[.slice (some ⟨fb, fof, none⟩) (n + 1) fc, .slice to zs.length tc, .slice wo zs.length wc] 34)) := by rw [← hW0]; exact heap_new _ _
  have HB : Hid (Below w.heap.size w W0) := hB0
  have HK : Hid (∀ wx, Below w.heap.size w wx → wx.heap[w.heap.size]? = some (.cells #[.slice (some ⟨fb, fof, none⟩) (n + 1) fc, .slice to zs.length tc, .slice wo zs.length wc] 34) → (wx.cell? ⟨w.heap.size, 0, none⟩ = some (.slice (some ⟨fb, fof, none⟩) (n + 1) fc) ∧ wx.cell? ⟨w.heap.size, 1, none⟩ = some (.slice to zs.length tc) ∧ wx.cell? ⟨w.heap.size, 2, none⟩ = some (.slice wo zs.length wc)) ∧ w.heap.size < wx.heap.size ∧ fb < wx.heap.size ∧ (∀ v, v ≤ n → wx.cell? ⟨fb, fof + v, none⟩ = some (.int .i64 (firstAt zs v)))) := fun wx hx hg =>
    ⟨box3 hg, lt_of_get hg, Nat.lt_of_lt_of_le hl hx.size, fun v hv => (hx.cell (p := ⟨fb, _, none⟩) hl).trans (hc v hv)⟩
  have HAR : Hid (∀ (i : Nat) (a : Int × Int × Int), zs[i]? = some a → ∃ tb tof wb wof, to = some ⟨tb, tof, none⟩ ∧ wo = some ⟨wb, wof, none⟩ ∧ ∀ wx, Below w.heap.size w wx → tb < wx.heap.size ∧ wb < wx.heap.size ∧ wx.cell? ⟨tb, tof + i, none⟩ = some (.int .i64 a.2.1) ∧ wx.cell? ⟨wb, wof + i, none⟩ = some (.int .i64 a.2.2)) := fun i a ha => by
    obtain ⟨tb, tof, wb, wof, e1, e2, ht, hw, hA⟩ := h.arc (by have := (List.getElem?_eq_some_iff.1 ha).1; omega)
    exact ⟨tb, tof, wb, wof, e1, e2, fun wx hx => ⟨Nat.lt_of_lt_of_le ht hx.size, Nat.lt_of_lt_of_le hw hx.size, (hx.cell (p := ⟨tb, _, none⟩) ht).trans (hA i a ha).1, (hx.cell (p := ⟨wb, _, none⟩) hw).trans (hA i a ha).2⟩⟩
  have HZ : Hid (Fine n zs) := hz
  have hxy : firstAt zs v ≤ firstAt zs (v + 1) := firstAt_mono zs (by omega)
  have hyl : firstAt zs (v + 1) ≤ zs.length := firstAt_le _ _
  have HFX : Hid (rowOf zs v (firstAt zs v) = []) := rowOf_none zs v
  obtain ⟨x, hx⟩ : ∃ x, firstAt zs v = x := ⟨_, rfl⟩
  obtain ⟨y, hy⟩ : ∃ y, firstAt zs (v + 1) = y := ⟨_, rfl⟩
  have HX : Hid (firstAt zs v = x ∧ firstAt zs (v + 1) = y) := ⟨hx, hy⟩
  rw [hx, hy] at hxy
  rw [hy] at hyl
  rw [hy]
  rw [hx] at HFX
  have e1 : (v : Int) < (n : Int) + 1 := by omega
  have e2 : (v : Int) + 1 < (n : Int) + 1 := by omega
  have e3 : (0 : Int) ≤ (v : Int) := by omega
  have e4 : (0 : Int) ≤ (v : Int) + 1 := by omega
  have e5 : IntKind.i64.wrap ((v : Int) + 1) = (v : Int) + 1 := by rw [IntKind.wrap_i64] <;> omega
  have q0 : w.cell? ⟨fb, fof + v, none⟩ = some (.int .i64 x) := by rw [← hx]; exact hc v (by omega)
  have ql : fb < w.heap.size := hl
  clear hB0 hW0 h hc hz hl hx hy
  go_enter Tryd.func49, Tryd.ntmps49
  go_wp2_with fail
  rw [HW0.out]
  go_loopw [5, 6] (fun av iv wr => ∃ (i : Nat) (so : Option Addr) (sc : Nat), x ≤ i ∧ i ≤ y ∧ iv = .int .i64 i ∧ av = .slice so (rowOf zs v i).length sc ∧ wr.ownsRow w.heap.size 63 3 (.slice so (rowOf zs v i).length sc) (rowOf zs v i).length (flatC (rowOf zs v i)) ∧ Below w.heap.size w wr ∧ wr.heap[w.heap.size]? = some (.cells #[.slice (some ⟨fb, fof, none⟩) (n + 1) fc, .slice to zs.length tc, .slice wo zs.length wc] 34)) (fun _ iv _ => y - (intOf iv).toNat)
  case atStart =>
    have h := HFX.out
    refine ⟨x, none, 0, Nat.le_refl _, hxy, rfl, ?_, ?_, HB.out, HBX.out⟩
    · rw [h]; rfl
    · rw [h]; exact World.ownsRow_nil _ _ _ _
  case round =>
    obtain ⟨i, so, sc, hi1, hi2, rfl, rfl, hO, hb, hbx⟩ := hrel
    have HOW : Hid (type_of% hO) := hO
    have HBW : Hid (Below w.heap.size w wr) := hb
    have HBB : Hid (type_of% hbx) := hbx
    obtain ⟨⟨c0, c1, c2⟩, cs, cf, hc⟩ := HK.out wr hb hbx
    have q1 := hc (v + 1) (by omega)
    rw [HX.out.2] at q1
    have HLL : Hid ((rowOf zs v i).length ≤ 524288) := by
      show _ ≤ _
      have := rowOf_len (zs := zs) v i
      omega
    clear hO hb hbx hc q0 ql
    by_cases hiy : i < y
    · obtain ⟨a, ha⟩ : ∃ a, zs[i]? = some a := ⟨zs[i], List.getElem?_eq_getElem (by omega)⟩
      obtain ⟨tb, tof, wb, wof, rfl, rfl, hA⟩ := HAR.out i a ha
      obtain ⟨lt, lw, t0, w0⟩ := hA wr HBW.out
      have HR : Hid (a.1 = (v : Int) ∧ rowOf zs v (i + 1) = rowOf zs v i ++ [a]) := ⟨HZ.out.row ha (by rw [HX.out.1]; exact hi1) (by rw [HX.out.2]; exact hiy), rowOf_next ha (by rw [HX.out.1]; exact hi1)⟩
      have i1 : (i : Int) < (zs.length : Int) := by omega
      have i2 : (0 : Int) ≤ (i : Int) := by omega
      obtain ⟨a0, a1, a2⟩ := a
      have hR := HR.out
      obtain ⟨hr0, hr1⟩ := hR
      simp only at hr0 t0 w0
      subst hr0
      have HR1 : Hid (rowOf zs v (i + 1) = rowOf zs v i ++ [((v : Int), a1, a2)]) := hr1
      clear HR hr1 hA ha
      obtain ⟨L, hL⟩ : ∃ L, rowOf zs v i = L := ⟨_, rfl⟩
      have HRL : Hid (rowOf zs v (i + 1) = L ++ [((v : Int), a1, a2)]) := by show _ = _; rw [HR1.out, ← hL]
      rw [hL] at HOW HLL ⊢
      clear hL HR1
      go_wp2_with fail
      go_region_law (first
        | (refine step_append_arcs rfl _ _ rfl w.heap.size (.slice so L.length sc) L rfl (rowC_keep HOW.out ((Below.refl _ wr).drew.alloc (Nat.le_refl _) _)) ⟨wr.heap.size, 0, none⟩ 1 [((v : Int), a1, a2)] rfl (arcs_one wr.drew ((v : Int), a1, a2) 63) (by have := HLL.out; simp only [List.length_cons, List.length_nil]; omega) (by have := HBW.out.size; simp; omega) ?_; intro v3 w3 hown3 hgr3; have HO3 : Hid (type_of% hown3) := hown3; have HG3 : Hid (type_of% hgr3) := hgr3; clear hown3 hgr3))
      all_goals
        obtain ⟨po, pc, hv3⟩ := rowC_slice HO3.out
        subst hv3
        have HN : Hid (w3.ownsRow w.heap.size 63 3 (.slice po (rowOf zs v (i + 1)).length pc) (rowOf zs v (i + 1)).length (flatC (rowOf zs v (i + 1))) ∧ Below w.heap.size w w3 ∧ w3.heap[w.heap.size]? = some (.cells #[.slice (some ⟨fb, fof, none⟩) (n + 1) fc, .slice (some ⟨tb, tof, none⟩) zs.length tc, .slice (some ⟨wb, wof, none⟩) zs.length wc] 34)) := by
          have hal : Below wr.heap.size wr (wr.drew.alloc (.cells #[.int .i64 v, .int .i64 a1, .int .i64 a2] 63)) := (Below.refl _ wr).drew.alloc (Nat.le_refl _) _
          have hbx2 := (hal.block _ (lt_of_get HBB.out)).trans HBB.out
          refine ⟨by rw [HRL.out]; exact HO3.out, below_grown (HBW.out.trans (hal.mono HBW.out.size)) (rowC_keep HOW.out hal) HG3.out (Nat.le_trans HBW.out.size hal.size), ?_⟩
          exact (HG3.out.block _ (lt_of_get hbx2) (own_not_box (rowC_keep HOW.out hal) hbx2 (by decide))).trans hbx2
        have HLE : Hid ((rowOf zs v (i + 1)).length = L.length + 1) := by show _ = _; rw [HRL.out, List.length_append]; rfl
        clear HO3 HG3
        go_wp2
        go_roundw
        case rel => exact ⟨i + 1, po, pc, by omega, by omega, by go_num, by rw [HLE.out], HN.out.1, HN.out.2.1, HN.out.2.2⟩
        case measure => simp [intOf]; omega
    · obtain rfl : i = y := by omega
      go_wp2
      go_ret
      exact ⟨_, _, rfl, HOW.out, HBW.out⟩

set_option maxHeartbeats 1000000 in
theorem rNode_calls (fo to wo : Option Addr) (n fc tl tc wl wc : Nat) (hn : n ≤ 4611686018427387904) (v : Int) (w : World) : Calls Tryd.prog 48 #[.agg #[.slice fo (n + 1) fc, .slice to tl tc, .slice wo wl wc], .int .i64 v] w fun e w' => e = .returned (.bool (decide (0 ≤ v ∧ v < (n : Int)))) ∧ Below w.heap.size w w' := by
  have HB : Hid (Below w.heap.size w (w.alloc (.cells #[.slice fo (n + 1) fc, .slice to tl tc, .slice wo wl wc] 34))) := (Below.refl _ w).alloc (Nat.le_refl _) _
  have hw : IntKind.i64.wrap (((n + 1 : Nat) : Int) - 1) = (n : Int) := by rw [IntKind.wrap_i64] <;> omega
  by_cases h0 : 0 ≤ v
  · rw [show decide (0 ≤ v ∧ v < (n : Int)) = decide (v < (n : Int)) by simp [h0]]
    go_enter Tryd.func48, Tryd.ntmps48
    go_wp2
    go_ret
    exact ⟨rfl, HB.out⟩
  · rw [decide_eq_false (fun h => h0 h.1)]
    go_enter Tryd.func48, Tryd.ntmps48
    go_wp2
    go_ret
    exact ⟨rfl, HB.out⟩
end Go.Proofs.YtgfmalimnbgdeaaDoor

namespace Go.Proofs.YtgfmalimnbgdeaaDoor
open Go.RowKit Go.Extern

attribute [local go_sem] Oper.semAt_some

theorem own_cap {w : World} {base n c : Nat} {o : Option Addr} {xs : List Value} (h : w.ownsRow base 63 3 (.slice o n c) n xs) : o = none → c = 0 := by
  rcases h.2 with ⟨h, _⟩ | ⟨g, cap, cur, h, _⟩
  · injection h with _ _ h
    exact fun _ => h
  · injection h with h
    intro e
    rw [e] at h
    cases h
/-- a list of arcs, nil or not, behind a row of one's own, as one step of a region that draws. -/
theorem step_append_any {w : World} {ops : Array Oper} {o : Oper} {a : Act} {K : Act → World → Prop} {Q : Exit → Act → World → Prop} {E : Prop} (hg : o.guard = none) (s x : Operand)
    (ho : o.op = .call { callee := .builtin .append, args := #[s, x], argTypes := #[22, 22] }) (base : Nat) (v : Value) (L : List (Int × Int × Int)) (hs : a.eval s = v) (hown : w.ownsRow base 63 3 v L.length (flatC L))
    (ao : Option Addr) (ac : Nat) (xs : List (Int × Int × Int)) (hx : a.eval x = .slice ao xs.length ac) (hl : HasArcs w (.slice ao xs.length ac) xs) (hno : ao = none → ac = 0) (hlen : L.length + xs.length ≤ 1048576) (hbase : base ≤ w.heap.size)
    (h : ∀ v' w', w'.ownsRow base 63 3 v' (L ++ xs).length (flatC (L ++ xs)) → w.grownBy w' v.ownBlock → K (a.put o.dst v') w') :
    if Region.wanted o (yielded ops a.tmps) = true then Oper.wp Tryd.prog o a w K Q else E := by
  cases ao with
  | some ad => exact step_append_arcs hg s x ho base v L hs hown ad ac xs hx hl hlen hbase h
  | none =>
    have hc := hno rfl
    subst hc
    have hx0 : xs = [] := by
      cases xs with
      | nil => rfl
      | cons q r => obtain ⟨b, off, e, _⟩ := hl.at (k := 0) (a := q) rfl; cases e
    subst hx0
    have hx' : a.eval x = .slice none 0 0 := hx
    have hw : Region.wanted o (yielded ops a.tmps) = true := by simp [Region.wanted, hg]
    rw [if_pos hw]
    obtain ⟨i0, hi, hz0, hz1, hz2⟩ : ∃ i, Tryd.prog.info? 63 = some i ∧ i.zero = some (.agg #[.int .i64 0, .int .i64 0, .int .i64 0]) ∧ i.size = 3 ∧ i.bytes = 24 := by
      have h := Tryd.infoC
      cases hi : Tryd.prog.info? 63 with
      | none => rw [hi] at h; cases h
      | some i => rw [hi] at h; simp at h; exact ⟨i, rfl, h.1, h.2.1, h.2.2⟩
    have hrun := run_append_owned_none (P := Tryd.prog) (w := w) base 22 o.type 63 i0 3 Tryd.underlying22 hi v L.length (flatC L) hown
    unfold Oper.wp
    simp [execOp, ho, resolve, invoke, builtin, hs, hx', hrun, Result.andThen]
    exact h v w (by simpa using hown) ⟨rfl, rfl, rfl, Nat.le_refl _, fun _ _ _ => rfl⟩
/-- the boxes and the row of a call of Graph. -/
structure RG (w : World) (c0 c1 c2 : Value) (n : Nat) (L : List (Int × Int × Int)) (so : Option Addr) (sc : Nat) (wr : World) : Prop where
  below : Below w.heap.size w wr
  box : wr.heap[w.heap.size]? = some (.cells #[c0, c1, c2] 34)
  res : wr.heap[w.heap.size + 1]? = some (.cells #[.int .i64 0, .slice none 0 0] 24)
  g : wr.heap[w.heap.size + 1 + 1]? = some (.cells #[.int .i64 n, .slice so L.length sc] 24)
  own : wr.ownsRow w.heap.size 63 3 (.slice so L.length sc) L.length (flatC L)
theorem RG.keep {w wr wx : World} {c0 c1 c2 : Value} {n : Nat} {L : List (Int × Int × Int)} {so : Option Addr} {sc : Nat} (h : RG w c0 c1 c2 n L so sc wr) (hb : Below wr.heap.size wr wx) : RG w c0 c1 c2 n L so sc wx :=
  ⟨btr h.below hb, (hb.block _ (lt_of_get h.box)).trans h.box, (hb.block _ (lt_of_get h.res)).trans h.res, (hb.block _ (lt_of_get h.g)).trans h.g, rowC_keep h.own hb⟩
theorem RG.put {w wr wx : World} {c0 c1 c2 : Value} {n : Nat} {L M : List (Int × Int × Int)} {so po : Option Addr} {sc pc : Nat} (h : RG w c0 c1 c2 n L so sc wr) (hown : wx.ownsRow w.heap.size 63 3 (.slice po M.length pc) M.length (flatC M)) (hgr : wr.grownBy wx (Value.slice so L.length sc).ownBlock) :
    (wx.heap[w.heap.size + 1 + 1]? = some (.cells #[.int .i64 n, .slice so L.length sc] 24) ∧ wx.heap[w.heap.size]? = some (.cells #[c0, c1, c2] 34)) ∧ RG w c0 c1 c2 n M po pc (wx.setCell ⟨w.heap.size + 1 + 1, 1, none⟩ (.slice po M.length pc)) := by
  have g1 := (hgr.block _ (lt_of_get h.box) (own_not_box h.own h.box (by decide))).trans h.box
  have g2 := (hgr.block _ (lt_of_get h.res) (own_not_box h.own h.res (by decide))).trans h.res
  have g3 := (hgr.block _ (lt_of_get h.g) (own_not_box h.own h.g (by decide))).trans h.g
  refine ⟨⟨g3, g1⟩, ?_, ?_, ?_, ?_, ?_⟩
  · exact (below_grown h.below h.own hgr h.below.size).setCell (p := ⟨w.heap.size + 1 + 1, 1, none⟩) (by show w.heap.size ≤ w.heap.size + 1 + 1; omega) _
  · exact (heap_setCell_other _ _ _ _ (by show w.heap.size ≠ w.heap.size + 1 + 1; omega)).trans g1
  · exact (heap_setCell_other _ _ _ _ (by show w.heap.size + 1 ≠ w.heap.size + 1 + 1; omega)).trans g2
  · exact (Go.heap_setCell_same _ _ 1 _ _ _ g3).trans rfl
  · exact own_far hown g3 (by decide) (fun g hg => heap_setCell_other _ _ _ _ hg) (Nat.le_refl _)

set_option maxRecDepth 100000 in
set_option maxHeartbeats 4000000 in
theorem rGraph_calls (n : Nat) (zs : List (Int × Int × Int)) (fo to wo : Option Addr) (fc tc wc : Nat) (w : World) (hz : Fine n zs) (h : CsrIn w n zs fo to wo fc tc wc) :
    Calls Tryd.prog 46 #[.agg #[.slice fo (n + 1) fc, .slice to zs.length tc, .slice wo zs.length wc]] w fun e w' => ∃ lo lc, e = .returned (.agg #[.int .i64 n, .slice lo zs.length lc]) ∧ w'.ownsRow w.heap.size 63 3 (.slice lo zs.length lc) zs.length (flatC zs) ∧ Below w.heap.size w w' := by
  have hN := hz.few
  have hM := hz.short
  have HRW : Hid (∀ wx, Below w.heap.size w wx → ∀ v : Nat, v < n → Calls Tryd.prog 49 #[.agg #[.slice fo (n + 1) fc, .slice to zs.length tc, .slice wo zs.length wc], .int .i64 v] wx fun e w' => ∃ lo lc, e = .returned (.slice lo (theRow zs v).length lc) ∧ w'.ownsRow wx.heap.size 63 3 (.slice lo (theRow zs v).length lc) (theRow zs v).length (flatC (theRow zs v)) ∧ Below wx.heap.size wx w') := fun wx hx v hv => rRow_calls n zs fo to wo fc tc wc wx hz (h.keep hx) v hv
  have HZE : Hid (zs.take (firstAt zs 0) = [] ∧ zs.take (firstAt zs n) = zs) := ⟨by rw [hz.zero]; rfl, by rw [hz.top, List.take_length]⟩
  have hw1 : IntKind.i64.wrap (((n + 1 : Nat) : Int) - 1) = (n : Int) := by rw [IntKind.wrap_i64] <;> omega
  have HS : Hid (RG w (.slice fo (n + 1) fc) (.slice to zs.length tc) (.slice wo zs.length wc) n [] none 0 (((w.alloc (.cells #[.slice fo (n + 1) fc, .slice to zs.length tc, .slice wo zs.length wc] 34)).alloc (.cells #[.int .i64 0, .slice none 0 0] 24)).alloc (.cells #[.int .i64 n, .slice none 0 0] 24))) := by
    have hh : ∀ k, (((w.alloc (.cells #[.slice fo (n + 1) fc, .slice to zs.length tc, .slice wo zs.length wc] 34)).alloc (.cells #[.int .i64 0, .slice none 0 0] 24)).alloc (.cells #[.int .i64 n, .slice none 0 0] 24)).heap[k]? = if k = w.heap.size + 1 + 1 then some (.cells #[.int .i64 n, .slice none 0 0] 24) else if k = w.heap.size + 1 then some (.cells #[.int .i64 0, .slice none 0 0] 24) else if k = w.heap.size then some (.cells #[.slice fo (n + 1) fc, .slice to zs.length tc, .slice wo zs.length wc] 34) else w.heap[k]? := fun k => by
      show (((w.heap.push _).push _).push _)[k]? = _
      rw [Array.getElem?_push, Array.getElem?_push, Array.getElem?_push]
      simp
    refine ⟨(((Below.refl _ w).alloc (Nat.le_refl _) _).alloc (by simp) _).alloc (by simp <;> omega) _, ?_, ?_, ?_, World.ownsRow_nil _ _ _ _⟩
    · rw [hh, if_neg (by omega), if_neg (by omega), if_pos rfl]
    · rw [hh, if_neg (by omega), if_pos rfl]
    · rw [hh, if_pos rfl]; rfl
  clear hz h
  go_enter Tryd.func46, Tryd.ntmps46
  go_wp2_with fail
  generalize (((w.alloc (.cells #[.slice fo (n + 1) fc, .slice to zs.length tc, .slice wo zs.length wc] 34)).alloc (.cells #[.int .i64 0, .slice none 0 0] 24)).alloc (.cells #[.int .i64 n, .slice none 0 0] 24)) = W0 at *
  go_loopw [4] (fun nv wr => ∃ k : Nat, k ≤ n ∧ nv = .int .i64 k ∧ ∃ so sc, RG w (.slice fo (n + 1) fc) (.slice to zs.length tc) (.slice wo zs.length wc) n (zs.take (firstAt zs k)) so sc wr) (fun nv _ => n - (intOf nv).toNat)
  case atStart => exact ⟨0, Nat.zero_le _, rfl, none, 0, by rw [HZE.out.1]; exact HS.out⟩
  case round =>
    obtain ⟨k, hk, rfl, so, sc, hR⟩ := hrel
    have HR : Hid (type_of% hR) := hR
    obtain ⟨c0, c1, c2⟩ := box3 hR.box
    have cs := lt_of_get hR.box
    obtain ⟨g0, g1, z0, z1⟩ := cell_two hR.g
    have gs := lt_of_get hR.g
    clear hR
    by_cases hlt : k < n
    · have HRR : Hid (zs.take (firstAt zs k) ++ theRow zs k = zs.take (firstAt zs (k + 1))) := rowOf_all zs k
      have HLL : Hid ((zs.take (firstAt zs k)).length + (theRow zs k).length ≤ 524288) := by
        show _ ≤ _
        have h1 := rowOf_len (zs := zs) k (firstAt zs (k + 1))
        have h2 : (zs.take (firstAt zs k)).length ≤ zs.length := by rw [List.length_take]; omega
        unfold theRow
        omega
      have HCL : Hid (∀ wx, Below wr.heap.size wr wx → Calls Tryd.prog 49 #[.agg #[.slice fo (n + 1) fc, .slice to zs.length tc, .slice wo zs.length wc], .int .i64 k] wx fun e w' => ∃ lo lc, e = .returned (.slice lo (theRow zs k).length lc) ∧ w'.ownsRow wx.heap.size 63 3 (.slice lo (theRow zs k).length lc) (theRow zs k).length (flatC (theRow zs k)) ∧ Below wx.heap.size wx w') := fun wx hx => HRW.out wx (btr HR.out.below hx) k hlt
      generalize hL : zs.take (firstAt zs k) = L at *
      generalize theRow zs k = M at *
      clear hL
      go_wp2_with fail
      go_region_law (first
        | (refine step_append_any rfl _ _ rfl w.heap.size (.slice so L.length sc) L rfl Y1.out.1.own lo lc M rfl (arcs_of_rowC Y1.out.2) (own_cap Y1.out.2) (by have := HLL.out; omega) Y1.out.1.below.size ?_; intro v3 w3 hown3 hgr3; obtain ⟨po, pc, hv3⟩ := rowC_slice hown3; subst hv3; have Y3 : Hid (type_of% (Y1.out.1.put hown3 hgr3)) := Y1.out.1.put hown3 hgr3; clear hown3 hgr3; obtain ⟨t0, t1, x0, x1⟩ := cell_two Y3.out.1.1; have ts := lt_of_get Y3.out.1.1; obtain ⟨u0, u1, u2⟩ := box3 Y3.out.1.2; have us := lt_of_get Y3.out.1.2)
        | (go_simp; go_at_call 49; refine (HCL.out _ (Below.refl _ wr).drew).mono ?_; rintro e y1 ⟨lo, lc, rfl, ho, hy⟩; have hyb := (Below.refl _ wr).drew.trans hy; have Y1 : Hid (RG w (.slice fo (n + 1) fc) (.slice to zs.length tc) (.slice wo zs.length wc) n L so sc y1 ∧ y1.ownsRow wr.heap.size 63 3 (.slice lo M.length lc) M.length (flatC M)) := ⟨HR.out.keep hyb, ho⟩; clear hy ho hyb; obtain ⟨p0, p1, p2⟩ := box3 Y1.out.1.box; have ps := lt_of_get Y1.out.1.box; obtain ⟨q0, q1, _, _⟩ := cell_two Y1.out.1.g; have qs := lt_of_get Y1.out.1.g))
      all_goals
        go_wp2
        go_roundw
        case rel => exact ⟨k + 1, by omega, by go_num, po, pc, by have h3 := Y3.out.2; rw [← HRR.out]; rw [List.length_append] at h3; exact h3⟩
        case measure => simp [intOf]; omega
    · obtain rfl : k = n := by omega
      obtain ⟨r0, r1, x0, x1⟩ := cell_two HR.out.res
      have rs := lt_of_get HR.out.res
      have HL : Hid (zs.take (firstAt zs k) = zs) := HZE.out.2
      rw [HL.out] at HR g1
      go_wp2
      refine bodyPost_ret (v := .agg #[.int .i64 k, .slice so zs.length sc]) (by simp [results, Tryd.results46, go_sem, r0, r1]) rfl ⟨so, sc, rfl, ?_, ?_⟩
      · exact own_far HR.out.own HR.out.res (by decide) (fun g hg => (heap_setCell_other _ _ _ _ hg).trans (heap_setCell_other _ _ _ _ hg)) (Nat.le_refl _)
      · exact Below.lay HR.out.below _ _
end Go.Proofs.YtgfmalimnbgdeaaDoor

namespace Go.Proofs.YtgfmalimnbgdeaaDoor
open Go.RowKit Go.Extern

attribute [local go_sem] Oper.semAt_some

/-- a box of two cells is written. -/
def lay2 (W : World) (b : Nat) (c0 c1 : Value) : World := (W.setCell ⟨b, 0, none⟩ c0).setCell ⟨b, 1, none⟩ c1
section
variable {W : World} {b : Nat} {c0 c1 x : Value} {a : Option Addr} {n m : Nat} {T : TypeId}
theorem lay2_far {g : Nat} (hg : g ≠ b) : (lay2 W b c0 c1).heap[g]? = W.heap[g]? := (heap_setCell_other _ _ _ _ hg).trans (heap_setCell_other _ _ _ _ hg)
theorem lay2_size : (lay2 W b c0 c1).heap.size = W.heap.size := by simp [lay2]
theorem lay2_box {y : Value} (h : W.heap[b]? = some (.cells #[x, y] T)) : (lay2 W b c0 c1).heap[b]? = some (.cells #[c0, c1] T) := by
  have h1 : (W.setCell ⟨b, 0, none⟩ c0).heap[b]? = some (.cells #[c0, y] T) := (Go.heap_setCell_same _ _ 0 _ _ _ h).trans rfl
  exact (Go.heap_setCell_same _ _ 1 _ _ _ h1).trans rfl
theorem lay2_below {w : World} (h : Below w.heap.size w W) (hb : w.heap.size ≤ b) : Below w.heap.size w (lay2 W b c0 c1) := (h.setCell (p := ⟨b, 0, none⟩) hb _).setCell (p := ⟨b, 1, none⟩) hb _
theorem lay2_places {v : Value} {l : List (Int × Int)} (h : HasPlaces W v l) (hb : W.heap[b]? = some (.cells #[x, .slice a n m] T)) : HasPlaces (lay2 W b c0 c1) v l := by
  obtain ⟨ao, cap, e, hc⟩ := h
  refine ⟨ao, cap, e, fun j p hj => ?_⟩
  obtain ⟨g, off, ea, hl, q0, q1⟩ := hc j p hj
  have n2 : g ≠ b := fun e => by
    subst e
    simp only [World.cell?, hb] at q1
    generalize off + j * 2 = k at q1
    rcases k with _ | k <;> simp at q1
  have hk := lay2_far (W := W) (c0 := c0) (c1 := c1) n2
  exact ⟨g, off, ea, by rw [lay2_size]; exact hl, (World.cell?_of_block (a := ⟨g, _, none⟩) hk).trans q0, (World.cell?_of_block (a := ⟨g, _, none⟩) hk).trans q1⟩
theorem lay2_own {y : Value} {B k : Nat} {v : Value} {xs : List Value} (h : W.ownsRow B 63 3 v k xs) (hb : W.heap[b]? = some (.cells #[x, y] T)) (hT : T ≠ 63) : (lay2 W b c0 c1).ownsRow B 63 3 v k xs := own_far h hb hT (fun _ hg => lay2_far hg) (Nat.le_refl _)
end
theorem badT {C : Int} (h : C ≠ 0) (l : Nat) : (C != 0 || decide (0 < l)) = true := by simp [h]
theorem badF : ((0 : Int) != 0 || decide (0 < ([] : List (Int × Int)).length)) = false := rfl
theorem below1 (w : World) (o : Obj) : Below w.heap.size w (w.alloc o) := (Below.refl _ w).alloc (Nat.le_refl _) _
/-- what DocGraph answers. -/
def GAns (w : World) (N : Int) (l : List (Int × Int × Int)) (E : Int × List (Int × Int)) (e : Ending) (w' : World) : Prop := ∃ lo lc po pc, e = .returned (.tuple #[.agg #[.int .i64 N, .slice lo l.length lc], .agg #[.int .i64 E.1, .slice po E.2.length pc]]) ∧ w'.ownsRow w.heap.size 63 3 (.slice lo l.length lc) l.length (flatC l) ∧ HasPlaces w' (.slice po E.2.length pc) E.2 ∧ Below w.heap.size w w'
/-- what DocRow answers. -/
def RAns (w : World) (l : List (Int × Int × Int)) (E : Int × List (Int × Int)) (e : Ending) (w' : World) : Prop := ∃ lo lc po pc, e = .returned (.tuple #[.slice lo l.length lc, .agg #[.int .i64 E.1, .slice po E.2.length pc]]) ∧ w'.ownsRow w.heap.size 63 3 (.slice lo l.length lc) l.length (flatC l) ∧ HasPlaces w' (.slice po E.2.length pc) E.2 ∧ Below w.heap.size w w'
/-- the boxes of DocGraph. -/
structure DG (w : World) (c0 c1 c2 : Value) (wx : World) : Prop where
  below : Below w.heap.size w wx
  box : wx.heap[w.heap.size]? = some (.cells #[c0, c1, c2] 34)
  res : wx.heap[w.heap.size + 1]? = some (.cells #[.int .i64 0, .slice none 0 0] 24)
  err : wx.heap[w.heap.size + 1 + 1]? = some (.cells #[.int .i64 0, .slice none 0 0] 37)
theorem DG.keep {w wx wy : World} {c0 c1 c2 : Value} (h : DG w c0 c1 c2 wx) (hb : Below wx.heap.size wx wy) : DG w c0 c1 c2 wy := ⟨btr h.below hb, (hb.block _ (lt_of_get h.box)).trans h.box, (hb.block _ (lt_of_get h.res)).trans h.res, (hb.block _ (lt_of_get h.err)).trans h.err⟩
theorem DG.made (w : World) (c0 c1 c2 : Value) : DG w c0 c1 c2 (((w.alloc (.cells #[c0, c1, c2] 34)).alloc (.cells #[.int .i64 0, .slice none 0 0] 24)).alloc (.cells #[.int .i64 0, .slice none 0 0] 37)) := by
  have hh : ∀ k, (((w.alloc (.cells #[c0, c1, c2] 34)).alloc (.cells #[.int .i64 0, .slice none 0 0] 24)).alloc (.cells #[.int .i64 0, .slice none 0 0] 37)).heap[k]? = if k = w.heap.size + 1 + 1 then some (.cells #[.int .i64 0, .slice none 0 0] 37) else if k = w.heap.size + 1 then some (.cells #[.int .i64 0, .slice none 0 0] 24) else if k = w.heap.size then some (.cells #[c0, c1, c2] 34) else w.heap[k]? := fun k => by
    show (((w.heap.push _).push _).push _)[k]? = _
    rw [Array.getElem?_push, Array.getElem?_push, Array.getElem?_push]
    simp
  refine ⟨(((Below.refl _ w).alloc (Nat.le_refl _) _).alloc (by simp) _).alloc (by simp <;> omega) _, ?_, ?_, ?_⟩
  · rw [hh, if_neg (by omega), if_neg (by omega), if_pos rfl]
  · rw [hh, if_neg (by omega), if_pos rfl]
  · rw [hh, if_pos rfl]

section
variable (fo uo wo : Option Addr) (fl fc tl tc wl wc : Nat) (w : World)

set_option maxRecDepth 100000 in
set_option maxHeartbeats 4000000 in
theorem docGraph_bad (C : Int) (ps : List (Int × Int)) (hC : C ≠ 0) (hD : ∀ wx, Below w.heap.size w wx → Calls Tryd.prog 18 #[.agg #[.slice fo fl fc, .slice uo tl tc, .slice wo wl wc]] wx (DocAns wx (C, ps))) :
    Calls Tryd.prog 20 #[.agg #[.slice fo fl fc, .slice uo tl tc, .slice wo wl wc]] w (GAns w 0 [] (C, ps)) := by
  have HDG : Hid (type_of% (DG.made w (.slice fo fl fc) (.slice uo tl tc) (.slice wo wl wc))) := DG.made w (.slice fo fl fc) (.slice uo tl tc) (.slice wo wl wc)
  have HDC : Hid (type_of% hD) := hD
  have HBT : Hid (∀ l, (C != 0 || decide (0 < l)) = true) := fun l => badT hC l
  clear hD
  go_enter Tryd.func20, Tryd.ntmps20
  go_wp2_with fail
  generalize ((w.alloc (.cells #[.slice fo fl fc, .slice uo tl tc, .slice wo wl wc] 34)).alloc (.cells #[.int .i64 0, .slice none 0 0] 24)).alloc (.cells #[.int .i64 0, .slice none 0 0] 37) = W0 at *
  refine (HDC.out W0 HDG.out.below).mono ?_
  rintro e w1 ⟨po, pc, rfl, hP, hb⟩
  simp only at hP
  have H1 : Hid (DG w (.slice fo fl fc) (.slice uo tl tc) (.slice wo wl wc) w1 ∧ HasPlaces w1 (.slice po ps.length pc) ps) := ⟨HDG.out.keep hb, hP⟩
  clear hb hP
  go_wp2_with fail
  have H2 : Hid (DG w (.slice fo fl fc) (.slice uo tl tc) (.slice wo wl wc) (w1.alloc (.cells #[.int .i64 C, .slice po ps.length pc] 37)) ∧ HasPlaces (w1.alloc (.cells #[.int .i64 C, .slice po ps.length pc] 37)) (.slice po ps.length pc) ps ∧ (w1.alloc (.cells #[.int .i64 C, .slice po ps.length pc] 37)).heap[w1.heap.size]? = some (.cells #[.int .i64 C, .slice po ps.length pc] 37)) := ⟨H1.out.1.keep (below1 _ _), H1.out.2.keep (below1 _ _), heap_new _ _⟩
  have hbn : w.heap.size + 1 + 1 < w1.heap.size := lt_of_get H1.out.1.err
  generalize w1.alloc (.cells #[.int .i64 C, .slice po ps.length pc] 37) = W1 at *
  generalize w1.heap.size = B at *
  refine (bad_calls C po ps.length pc W1).mono ?_
  rw [HBT.out]
  rintro e w2 ⟨rfl, hb⟩
  have H3 : Hid (DG w (.slice fo fl fc) (.slice uo tl tc) (.slice wo wl wc) w2 ∧ HasPlaces w2 (.slice po ps.length pc) ps ∧ w2.heap[B]? = some (.cells #[.int .i64 C, .slice po ps.length pc] 37)) := ⟨H2.out.1.keep hb, H2.out.2.1.keep hb, (hb.block _ (lt_of_get H2.out.2.2)).trans H2.out.2.2⟩
  clear hb
  obtain ⟨e0, e1, _, _⟩ := cell_two H3.out.2.2
  have es := lt_of_get H3.out.2.2
  obtain ⟨r0, r1, z0, z1⟩ := cell_two H3.out.1.res
  have rs := lt_of_get H3.out.1.res
  obtain ⟨d0, d1, x0, x1⟩ := cell_two H3.out.1.err
  have ds := lt_of_get H3.out.1.err
  have n1 : ¬ B = w.heap.size + 1 := by omega
  have n2 : ¬ B = w.heap.size + 1 + 1 := by omega
  have n3 : ¬ w.heap.size + 1 = B := by omega
  have n4 : ¬ w.heap.size + 1 + 1 = B := by omega
  go_wp2_with fail
  go_region_held (fun w' => w'.cell? ⟨B, 0, none⟩ = some (.int .i64 C) ∧ w'.cell? ⟨B, 1, none⟩ = some (.slice po ps.length pc)) (go_keep) (first | fail)
  all_goals
    go_wp2
    refine bodyPost_ret (v := .tuple #[.agg #[.int .i64 0, .slice none 0 0], .agg #[.int .i64 C, .slice po ps.length pc]]) (by simp [results, Tryd.results20, go_sem, r0, r1, d0, d1]) rfl ?_
    have hb1 : (lay2 w2 (w.heap.size + 1) (.int .i64 0) (.slice none 0 0)).heap[w.heap.size + 1 + 1]? = some (.cells #[.int .i64 0, .slice none 0 0] 37) := (lay2_far (by omega)).trans H3.out.1.err
    exact ⟨none, 0, po, pc, rfl, World.ownsRow_nil _ _ _ _, (show HasPlaces (lay2 (lay2 w2 (w.heap.size + 1) (.int .i64 0) (.slice none 0 0)) (w.heap.size + 1 + 1) (.int .i64 C) (.slice po ps.length pc)) (.slice po ps.length pc) ps from lay2_places (lay2_places H3.out.2.1 H3.out.1.res) hb1), ((show Below w.heap.size w (lay2 (lay2 w2 (w.heap.size + 1) (.int .i64 0) (.slice none 0 0)) (w.heap.size + 1 + 1) (.int .i64 C) (.slice po ps.length pc)) from lay2_below (lay2_below H3.out.1.below (by omega)) (by omega))).drew⟩

set_option maxRecDepth 100000 in
set_option maxHeartbeats 4000000 in
theorem docGraph_good (N : Int) (zs : List (Int × Int × Int)) (hD : ∀ wx, Below w.heap.size w wx → Calls Tryd.prog 18 #[.agg #[.slice fo fl fc, .slice uo tl tc, .slice wo wl wc]] wx (DocAns wx (0, [])))
    (hG : ∀ wx, Below w.heap.size w wx → Calls Tryd.prog 46 #[.agg #[.slice fo fl fc, .slice uo tl tc, .slice wo wl wc]] wx fun e w' => ∃ lo lc, e = .returned (.agg #[.int .i64 N, .slice lo zs.length lc]) ∧ w'.ownsRow wx.heap.size 63 3 (.slice lo zs.length lc) zs.length (flatC zs) ∧ Below wx.heap.size wx w') :
    Calls Tryd.prog 20 #[.agg #[.slice fo fl fc, .slice uo tl tc, .slice wo wl wc]] w (GAns w N zs (0, [])) := by
  have HDG : Hid (type_of% (DG.made w (.slice fo fl fc) (.slice uo tl tc) (.slice wo wl wc))) := DG.made w (.slice fo fl fc) (.slice uo tl tc) (.slice wo wl wc)
  have HDC : Hid (type_of% hD) := hD
  have HGR : Hid (type_of% hG) := hG
  clear hD hG
  go_enter Tryd.func20, Tryd.ntmps20
  go_wp2_with fail
  generalize ((w.alloc (.cells #[.slice fo fl fc, .slice uo tl tc, .slice wo wl wc] 34)).alloc (.cells #[.int .i64 0, .slice none 0 0] 24)).alloc (.cells #[.int .i64 0, .slice none 0 0] 37) = W0 at *
  refine (HDC.out W0 HDG.out.below).mono ?_
  rintro e w1 ⟨po, pc, rfl, hP, hb⟩
  have H1 : Hid (type_of% (HDG.out.keep hb)) := HDG.out.keep hb
  clear hb hP
  go_wp2_with fail
  have H2 : Hid (type_of% (H1.out.keep (below1 w1 (.cells #[.int .i64 0, .slice po ([] : List (Int × Int)).length pc] 37)))) := H1.out.keep (below1 _ _)
  simp only [List.length_nil] at H2
  generalize w1.alloc (.cells #[.int .i64 0, .slice po 0 pc] 37) = W1 at *
  generalize w1.heap.size = B at *
  refine (bad_calls 0 po 0 pc W1).mono ?_
  rintro e w2 ⟨rfl, hb⟩
  have H3 : Hid (type_of% (H2.out.keep hb)) := H2.out.keep hb
  clear hb
  rw [show ((0 : Int) != 0 || decide (0 < 0)) = false from rfl]
  obtain ⟨c0, c1, c2⟩ := box3 H3.out.box
  have cs := lt_of_get H3.out.box
  go_wp2_with fail
  refine (HGR.out w2 H3.out.below).mono ?_
  rintro e w3 ⟨lo, lc, rfl, ho, hb⟩
  have H4 : Hid (DG w (.slice fo fl fc) (.slice uo tl tc) (.slice wo wl wc) w3 ∧ w3.ownsRow w.heap.size 63 3 (.slice lo zs.length lc) zs.length (flatC zs)) := ⟨H3.out.keep hb, own_base ho H3.out.below.size⟩
  clear hb ho c0 c1 c2 cs
  obtain ⟨r0, r1, z0, z1⟩ := cell_two H4.out.1.res
  have rs := lt_of_get H4.out.1.res
  obtain ⟨d0, d1, x0, x1⟩ := cell_two H4.out.1.err
  have ds := lt_of_get H4.out.1.err
  go_wp2
  refine bodyPost_ret (v := .tuple #[.agg #[.int .i64 N, .slice lo zs.length lc], .agg #[.int .i64 0, .slice none 0 0]]) (by simp [results, Tryd.results20, go_sem, r0, r1, d0, d1]) rfl ?_
  have hb1 : (lay2 w3 (w.heap.size + 1) (.int .i64 N) (.slice lo zs.length lc)).heap[w.heap.size + 1 + 1]? = some (.cells #[.int .i64 0, .slice none 0 0] 37) := (lay2_far (by omega)).trans H4.out.1.err
  exact ⟨lo, lc, none, 0, rfl, (show (lay2 (lay2 w3 (w.heap.size + 1) (.int .i64 N) (.slice lo zs.length lc)) (w.heap.size + 1 + 1) (.int .i64 0) (.slice none 0 0)).ownsRow w.heap.size 63 3 (.slice lo zs.length lc) zs.length (flatC zs) from lay2_own (lay2_own H4.out.2 H4.out.1.res (by decide)) hb1 (by decide)), places_nil _, (show Below w.heap.size w (lay2 (lay2 w3 (w.heap.size + 1) (.int .i64 N) (.slice lo zs.length lc)) (w.heap.size + 1 + 1) (.int .i64 0) (.slice none 0 0)) from lay2_below (lay2_below H4.out.1.below (by omega)) (by omega))⟩
end
end Go.Proofs.YtgfmalimnbgdeaaDoor

namespace Go.Proofs.YtgfmalimnbgdeaaDoor
open Go.RowKit Go.Extern

attribute [local go_sem] Oper.semAt_some

section
variable (fo uo wo : Option Addr) (n fl fc tl tc wl wc : Nat) (w : World) (v : Int)

set_option maxRecDepth 100000 in
set_option maxHeartbeats 4000000 in
theorem docRow_bad (C : Int) (ps : List (Int × Int)) (hC : C ≠ 0) (hD : ∀ wx, Below w.heap.size w wx → Calls Tryd.prog 18 #[.agg #[.slice fo fl fc, .slice uo tl tc, .slice wo wl wc]] wx (DocAns wx (C, ps))) :
    Calls Tryd.prog 23 #[.agg #[.slice fo fl fc, .slice uo tl tc, .slice wo wl wc], .int .i64 v] w (RAns w [] (C, ps)) := by
  have HDB : Hid (type_of% (DB.made w (.slice fo fl fc) (.slice uo tl tc) (.slice wo wl wc))) := DB.made w (.slice fo fl fc) (.slice uo tl tc) (.slice wo wl wc)
  have HDC : Hid (type_of% hD) := hD
  have HBT : Hid (∀ l, (C != 0 || decide (0 < l)) = true) := fun l => badT hC l
  clear hD
  go_enter Tryd.func23, Tryd.ntmps23
  go_wp2_with fail
  generalize (w.alloc (.cells #[.slice fo fl fc, .slice uo tl tc, .slice wo wl wc] 34)).alloc (.cells #[.int .i64 0, .slice none 0 0] 37) = W0 at *
  refine (HDC.out W0 HDB.out.below).mono ?_
  rintro e w1 ⟨po, pc, rfl, hP, hb⟩
  simp only at hP
  have H1 : Hid (DB w (.slice fo fl fc) (.slice uo tl tc) (.slice wo wl wc) w1 ∧ HasPlaces w1 (.slice po ps.length pc) ps) := ⟨HDB.out.keep hb, hP⟩
  clear hb hP
  go_wp2_with fail
  have H2 : Hid (DB w (.slice fo fl fc) (.slice uo tl tc) (.slice wo wl wc) (w1.alloc (.cells #[.int .i64 C, .slice po ps.length pc] 37)) ∧ HasPlaces (w1.alloc (.cells #[.int .i64 C, .slice po ps.length pc] 37)) (.slice po ps.length pc) ps ∧ (w1.alloc (.cells #[.int .i64 C, .slice po ps.length pc] 37)).heap[w1.heap.size]? = some (.cells #[.int .i64 C, .slice po ps.length pc] 37)) := ⟨H1.out.1.keep (below1 _ _), H1.out.2.keep (below1 _ _), heap_new _ _⟩
  have hbn : w.heap.size + 1 < w1.heap.size := lt_of_get H1.out.1.res
  generalize w1.alloc (.cells #[.int .i64 C, .slice po ps.length pc] 37) = W1 at *
  generalize w1.heap.size = B at *
  refine (bad_calls C po ps.length pc W1).mono ?_
  rw [HBT.out]
  rintro e w2 ⟨rfl, hb⟩
  have H3 : Hid (DB w (.slice fo fl fc) (.slice uo tl tc) (.slice wo wl wc) w2 ∧ HasPlaces w2 (.slice po ps.length pc) ps ∧ w2.heap[B]? = some (.cells #[.int .i64 C, .slice po ps.length pc] 37)) := ⟨H2.out.1.keep hb, H2.out.2.1.keep hb, (hb.block _ (lt_of_get H2.out.2.2)).trans H2.out.2.2⟩
  clear hb
  obtain ⟨e0, e1, _, _⟩ := cell_two H3.out.2.2
  have es := lt_of_get H3.out.2.2
  go_wp2_with fail
  refine (bad_calls C po ps.length pc w2).mono ?_
  rw [HBT.out]
  rintro e w3 ⟨rfl, hb⟩
  have H4 : Hid (DB w (.slice fo fl fc) (.slice uo tl tc) (.slice wo wl wc) w3 ∧ HasPlaces w3 (.slice po ps.length pc) ps ∧ w3.heap[B]? = some (.cells #[.int .i64 C, .slice po ps.length pc] 37)) := ⟨H3.out.1.keep hb, H3.out.2.1.keep hb, (hb.block _ (lt_of_get H3.out.2.2)).trans H3.out.2.2⟩
  clear hb e0 e1 es
  obtain ⟨e0, e1, _, _⟩ := cell_two H4.out.2.2
  have es := lt_of_get H4.out.2.2
  obtain ⟨d0, d1, x0, x1⟩ := cell_two H4.out.1.res
  have ds := lt_of_get H4.out.1.res
  have n1 : ¬ B = w.heap.size + 1 := by omega
  have n3 : ¬ w.heap.size + 1 = B := by omega
  go_wp2_with fail
  go_region_held (fun w' => w'.cell? ⟨B, 0, none⟩ = some (.int .i64 C) ∧ w'.cell? ⟨B, 1, none⟩ = some (.slice po ps.length pc)) (go_keep) (first | fail)
  all_goals
    go_wp2
    refine bodyPost_ret (v := .tuple #[.slice none 0 0, .agg #[.int .i64 C, .slice po ps.length pc]]) (by simp [results, Tryd.results23, go_sem, d0, d1]) rfl ?_
    exact ⟨none, 0, po, pc, rfl, World.ownsRow_nil _ _ _ _, (show HasPlaces (lay2 w3 (w.heap.size + 1) (.int .i64 C) (.slice po ps.length pc)) (.slice po ps.length pc) ps from lay2_places H4.out.2.1 H4.out.1.res), (show Below w.heap.size w (lay2 w3 (w.heap.size + 1) (.int .i64 C) (.slice po ps.length pc)) from lay2_below H4.out.1.below (by omega)).drew⟩

set_option maxRecDepth 100000 in
set_option maxHeartbeats 4000000 in
theorem docRow_node (hn : n ≤ 65536) (hv : ¬ (0 ≤ v ∧ v < (n : Int))) (hD : ∀ wx, Below w.heap.size w wx → Calls Tryd.prog 18 #[.agg #[.slice fo (n + 1) fc, .slice uo tl tc, .slice wo wl wc]] wx (DocAns wx (0, []))) :
    Calls Tryd.prog 23 #[.agg #[.slice fo (n + 1) fc, .slice uo tl tc, .slice wo wl wc], .int .i64 v] w (RAns w [] (7, [])) := by
  have HDB : Hid (type_of% (DB.made w (.slice fo (n + 1) fc) (.slice uo tl tc) (.slice wo wl wc))) := DB.made w (.slice fo (n + 1) fc) (.slice uo tl tc) (.slice wo wl wc)
  have HDC : Hid (type_of% hD) := hD
  have HND : Hid (∀ wx, Calls Tryd.prog 48 #[.agg #[.slice fo (n + 1) fc, .slice uo tl tc, .slice wo wl wc], .int .i64 v] wx fun e w' => e = .returned (.bool false) ∧ Below wx.heap.size wx w') := fun wx => by
    have h := rNode_calls fo uo wo n fc tl tc wl wc (by omega) v wx
    rw [decide_eq_false hv] at h
    exact h
  clear hD hv
  go_enter Tryd.func23, Tryd.ntmps23
  go_wp2_with fail
  generalize (w.alloc (.cells #[.slice fo (n + 1) fc, .slice uo tl tc, .slice wo wl wc] 34)).alloc (.cells #[.int .i64 0, .slice none 0 0] 37) = W0 at *
  refine (HDC.out W0 HDB.out.below).mono ?_
  rintro e w1 ⟨po, pc, rfl, hP, hb⟩
  have H1 : Hid (type_of% (HDB.out.keep hb)) := HDB.out.keep hb
  clear hb hP
  go_wp2_with fail
  have H2 : Hid (DB w (.slice fo (n + 1) fc) (.slice uo tl tc) (.slice wo wl wc) (w1.alloc (.cells #[.int .i64 0, .slice po 0 pc] 37)) ∧ (w1.alloc (.cells #[.int .i64 0, .slice po 0 pc] 37)).heap[w1.heap.size]? = some (.cells #[.int .i64 0, .slice po 0 pc] 37)) := ⟨H1.out.keep (below1 _ _), heap_new _ _⟩
  have hbn : w.heap.size + 1 < w1.heap.size := lt_of_get H1.out.res
  generalize w1.alloc (.cells #[.int .i64 0, .slice po 0 pc] 37) = W1 at *
  generalize w1.heap.size = B at *
  refine (bad_calls 0 po 0 pc W1).mono ?_
  rintro e w2 ⟨rfl, hb⟩
  have H3 : Hid (DB w (.slice fo (n + 1) fc) (.slice uo tl tc) (.slice wo wl wc) w2 ∧ w2.heap[B]? = some (.cells #[.int .i64 0, .slice po 0 pc] 37)) := ⟨H2.out.1.keep hb, (hb.block _ (lt_of_get H2.out.2)).trans H2.out.2⟩
  clear hb
  rw [show ((0 : Int) != 0 || decide (0 < 0)) = false from rfl]
  obtain ⟨c0, c1, c2⟩ := box3 H3.out.1.box
  have cs := lt_of_get H3.out.1.box
  go_wp2_with fail
  refine (HND.out w2).mono ?_
  rintro e w3 ⟨rfl, hb⟩
  have H4 : Hid (DB w (.slice fo (n + 1) fc) (.slice uo tl tc) (.slice wo wl wc) w3 ∧ w3.heap[B]? = some (.cells #[.int .i64 0, .slice po 0 pc] 37)) := ⟨H3.out.1.keep hb, (hb.block _ (lt_of_get H3.out.2)).trans H3.out.2⟩
  clear hb c0 c1 c2 cs
  go_wp2_with fail
  refine (E_calls 7 w3).mono ?_
  rintro e w4 ⟨rfl, hb⟩
  have H5 : Hid (DB w (.slice fo (n + 1) fc) (.slice uo tl tc) (.slice wo wl wc) w4 ∧ w4.heap[B]? = some (.cells #[.int .i64 0, .slice po 0 pc] 37)) := ⟨H4.out.1.keep hb, (hb.block _ (lt_of_get H4.out.2)).trans H4.out.2⟩
  clear hb
  obtain ⟨e0, e1, z0, z1⟩ := cell_two H5.out.2
  have es := lt_of_get H5.out.2
  go_wp2_with fail
  have H6 : Hid (DB w (.slice fo (n + 1) fc) (.slice uo tl tc) (.slice wo wl wc) (lay2 w4 B (.int .i64 7) (.slice none 0 0)) ∧ (lay2 w4 B (.int .i64 7) (.slice none 0 0)).heap[B]? = some (.cells #[.int .i64 7, .slice none 0 0] 37)) := ⟨⟨lay2_below H5.out.1.below (by omega), (lay2_far (by omega)).trans H5.out.1.box, (lay2_far (by omega)).trans H5.out.1.res⟩, lay2_box H5.out.2⟩
  rw [show (w4.setCell ⟨B, 0, none⟩ (.int .i64 7)).setCell ⟨B, 1, none⟩ (.slice none 0 0) = lay2 w4 B (.int .i64 7) (.slice none 0 0) from rfl]
  generalize lay2 w4 B (.int .i64 7) (.slice none 0 0) = W5 at *
  clear e0 e1 z0 z1 es
  refine (bad_calls 7 none 0 0 W5).mono ?_
  rintro e w6 ⟨rfl, hb⟩
  rw [show ((7 : Int) != 0 || decide (0 < 0)) = true from rfl]
  have H7 : Hid (DB w (.slice fo (n + 1) fc) (.slice uo tl tc) (.slice wo wl wc) w6 ∧ w6.heap[B]? = some (.cells #[.int .i64 7, .slice none 0 0] 37)) := ⟨H6.out.1.keep hb, (hb.block _ (lt_of_get H6.out.2)).trans H6.out.2⟩
  clear hb
  obtain ⟨e0, e1, _, _⟩ := cell_two H7.out.2
  have es := lt_of_get H7.out.2
  obtain ⟨d0, d1, x0, x1⟩ := cell_two H7.out.1.res
  have ds := lt_of_get H7.out.1.res
  have n1 : ¬ B = w.heap.size + 1 := by omega
  have n3 : ¬ w.heap.size + 1 = B := by omega
  go_wp2_with fail
  go_region_held (fun w' => w'.cell? ⟨B, 0, none⟩ = some (.int .i64 7) ∧ w'.cell? ⟨B, 1, none⟩ = some (.slice none 0 0)) (go_keep) (first | fail)
  all_goals
    go_wp2
    refine bodyPost_ret (v := .tuple #[.slice none 0 0, .agg #[.int .i64 7, .slice none 0 0]]) (by simp [results, Tryd.results23, go_sem, d0, d1]) rfl ?_
    exact ⟨none, 0, none, 0, rfl, World.ownsRow_nil _ _ _ _, places_nil _, (show Below w.heap.size w (lay2 w6 (w.heap.size + 1) (.int .i64 7) (.slice none 0 0)) from lay2_below H7.out.1.below (by omega)).drew⟩

set_option maxRecDepth 100000 in
set_option maxHeartbeats 4000000 in
theorem docRow_good (l : List (Int × Int × Int)) (hn : n ≤ 65536) (hv : 0 ≤ v ∧ v < (n : Int)) (hD : ∀ wx, Below w.heap.size w wx → Calls Tryd.prog 18 #[.agg #[.slice fo (n + 1) fc, .slice uo tl tc, .slice wo wl wc]] wx (DocAns wx (0, [])))
    (hR : ∀ wx, Below w.heap.size w wx → Calls Tryd.prog 49 #[.agg #[.slice fo (n + 1) fc, .slice uo tl tc, .slice wo wl wc], .int .i64 v] wx fun e w' => ∃ lo lc, e = .returned (.slice lo l.length lc) ∧ w'.ownsRow wx.heap.size 63 3 (.slice lo l.length lc) l.length (flatC l) ∧ Below wx.heap.size wx w') :
    Calls Tryd.prog 23 #[.agg #[.slice fo (n + 1) fc, .slice uo tl tc, .slice wo wl wc], .int .i64 v] w (RAns w l (0, [])) := by
  have HDB : Hid (type_of% (DB.made w (.slice fo (n + 1) fc) (.slice uo tl tc) (.slice wo wl wc))) := DB.made w (.slice fo (n + 1) fc) (.slice uo tl tc) (.slice wo wl wc)
  have HDC : Hid (type_of% hD) := hD
  have HRW : Hid (type_of% hR) := hR
  have HND : Hid (∀ wx, Calls Tryd.prog 48 #[.agg #[.slice fo (n + 1) fc, .slice uo tl tc, .slice wo wl wc], .int .i64 v] wx fun e w' => e = .returned (.bool true) ∧ Below wx.heap.size wx w') := fun wx => by
    have h := rNode_calls fo uo wo n fc tl tc wl wc (by omega) v wx
    rw [decide_eq_true hv] at h
    exact h
  clear hD hv hR
  go_enter Tryd.func23, Tryd.ntmps23
  go_wp2_with fail
  generalize (w.alloc (.cells #[.slice fo (n + 1) fc, .slice uo tl tc, .slice wo wl wc] 34)).alloc (.cells #[.int .i64 0, .slice none 0 0] 37) = W0 at *
  refine (HDC.out W0 HDB.out.below).mono ?_
  rintro e w1 ⟨po, pc, rfl, hP, hb⟩
  have H1 : Hid (type_of% (HDB.out.keep hb)) := HDB.out.keep hb
  clear hb hP
  go_wp2_with fail
  have H2 : Hid (DB w (.slice fo (n + 1) fc) (.slice uo tl tc) (.slice wo wl wc) (w1.alloc (.cells #[.int .i64 0, .slice po 0 pc] 37)) ∧ (w1.alloc (.cells #[.int .i64 0, .slice po 0 pc] 37)).heap[w1.heap.size]? = some (.cells #[.int .i64 0, .slice po 0 pc] 37)) := ⟨H1.out.keep (below1 _ _), heap_new _ _⟩
  have hbn : w.heap.size + 1 < w1.heap.size := lt_of_get H1.out.res
  generalize w1.alloc (.cells #[.int .i64 0, .slice po 0 pc] 37) = W1 at *
  generalize w1.heap.size = B at *
  refine (bad_calls 0 po 0 pc W1).mono ?_
  rintro e w2 ⟨rfl, hb⟩
  have H3 : Hid (DB w (.slice fo (n + 1) fc) (.slice uo tl tc) (.slice wo wl wc) w2 ∧ w2.heap[B]? = some (.cells #[.int .i64 0, .slice po 0 pc] 37)) := ⟨H2.out.1.keep hb, (hb.block _ (lt_of_get H2.out.2)).trans H2.out.2⟩
  clear hb
  rw [show ((0 : Int) != 0 || decide (0 < 0)) = false from rfl]
  obtain ⟨c0, c1, c2⟩ := box3 H3.out.1.box
  have cs := lt_of_get H3.out.1.box
  go_wp2_with fail
  refine (HND.out w2).mono ?_
  rintro e w3 ⟨rfl, hb⟩
  have H4 : Hid (DB w (.slice fo (n + 1) fc) (.slice uo tl tc) (.slice wo wl wc) w3 ∧ w3.heap[B]? = some (.cells #[.int .i64 0, .slice po 0 pc] 37)) := ⟨H3.out.1.keep hb, (hb.block _ (lt_of_get H3.out.2)).trans H3.out.2⟩
  clear hb c0 c1 c2 cs
  obtain ⟨e0, e1, _, _⟩ := cell_two H4.out.2
  have es := lt_of_get H4.out.2
  go_wp2_with fail
  refine (bad_calls 0 po 0 pc w3).mono ?_
  rintro e w4 ⟨rfl, hb⟩
  rw [show ((0 : Int) != 0 || decide (0 < 0)) = false from rfl]
  have HK : Hid (∀ wx, Below w4.heap.size w4 wx → ((wx.cell? ⟨w.heap.size, 0, none⟩ = some (.slice fo (n + 1) fc) ∧ wx.cell? ⟨w.heap.size, 1, none⟩ = some (.slice uo tl tc) ∧ wx.cell? ⟨w.heap.size, 2, none⟩ = some (.slice wo wl wc)) ∧ (wx.cell? ⟨B, 0, none⟩ = some (.int .i64 0) ∧ wx.cell? ⟨B, 1, none⟩ = some (.slice po 0 pc)) ∧ (wx.cell? ⟨w.heap.size + 1, 0, none⟩ = some (.int .i64 0) ∧ wx.cell? ⟨w.heap.size + 1, 1, none⟩ = some (.slice none 0 0) ∧ wx.frozen? ⟨w.heap.size + 1, 0, none⟩ = false ∧ wx.frozen? ⟨w.heap.size + 1, 1, none⟩ = false) ∧ w.heap.size < wx.heap.size ∧ B < wx.heap.size ∧ w.heap.size + 1 < wx.heap.size) ∧ DB w (.slice fo (n + 1) fc) (.slice uo tl tc) (.slice wo wl wc) wx) := fun wx hx => by
    have hbb := btr hb hx
    have g := H4.out.1.keep hbb
    have g2 := (hbb.block _ (lt_of_get H4.out.2)).trans H4.out.2
    exact ⟨⟨box3 g.box, ⟨(cell_two g2).1, (cell_two g2).2.1⟩, cell_two g.res, lt_of_get g.box, lt_of_get g2, lt_of_get g.res⟩, g⟩
  clear hb e0 e1 es
  obtain ⟨⟨⟨c0, c1, c2⟩, ⟨e0, e1⟩, ⟨d0, d1, x0, x1⟩, cs, es, ds⟩, _⟩ := HK.out w4 (Below.refl _ _)
  have n1 : ¬ B = w.heap.size + 1 := by omega
  have n3 : ¬ w.heap.size + 1 = B := by omega
  go_wp2_with fail
  go_region_held3 (fun w' => (w'.cell? ⟨w.heap.size, 0, none⟩ = some (.slice fo (n + 1) fc) ∧ w'.cell? ⟨w.heap.size, 1, none⟩ = some (.slice uo tl tc) ∧ w'.cell? ⟨w.heap.size, 2, none⟩ = some (.slice wo wl wc)) ∧ w'.cell? ⟨B, 0, none⟩ = some (.int .i64 0) ∧ w'.cell? ⟨B, 1, none⟩ = some (.slice po 0 pc)) (go_keep) (first
    | (go_at_call 49; refine (HRW.out _ (HK.out w4 (Below.refl _ _)).2.below.drew).mono ?_; rintro e w5 ⟨lo, lc, rfl, ho, hb⟩; have H5 : Hid (Below w4.heap.size w4 w5 ∧ w5.ownsRow w4.heap.size 63 3 (.slice lo l.length lc) l.length (flatC l)) := ⟨(Below.refl _ w4).drew.trans hb, ho⟩; clear hb ho; clear c0 c1 c2 e0 e1 d0 d1 x0 x1 cs es ds; obtain ⟨⟨⟨c0, c1, c2⟩, ⟨e0, e1⟩, ⟨d0, d1, x0, x1⟩, cs, es, ds⟩, _⟩ := HK.out w5 H5.out.1))
  all_goals
    go_wp2
    refine bodyPost_ret (v := .tuple #[.slice lo l.length lc, .agg #[.int .i64 0, .slice po 0 pc]]) (by simp [results, Tryd.results23, go_sem, d0, d1]) rfl ?_
    have hg := (HK.out w5 H5.out.1).2
    exact ⟨lo, lc, po, pc, rfl, (show (lay2 w5 (w.heap.size + 1) (.int .i64 0) (.slice po 0 pc)).ownsRow w.heap.size 63 3 (.slice lo l.length lc) l.length (flatC l) from lay2_own (own_base H5.out.2 (by have := H4.out.1.below.size; have := (HK.out w4 (Below.refl _ _)).2.below.size; omega)) hg.res (by decide)), ⟨po, pc, rfl, fun j p hj => by simp at hj⟩, (show Below w.heap.size w (lay2 w5 (w.heap.size + 1) (.int .i64 0) (.slice po 0 pc)) from lay2_below hg.below (by omega))⟩
end
end Go.Proofs.YtgfmalimnbgdeaaDoor

namespace Go.Proofs.YtgfmalimnbgdeaaDoor
open Go.RowKit Go.Extern

attribute [local go_sem] Oper.semAt_some

/-- what DocFind answers. -/
def FAns (w : World) (r : Int) (E : Int × List (Int × Int)) (e : Ending) (w' : World) : Prop := ∃ po pc, e = .returned (.tuple #[.int .i64 r, .agg #[.int .i64 E.1, .slice po E.2.length pc]]) ∧ HasPlaces w' (.slice po E.2.length pc) E.2 ∧ Below w.heap.size w w'

section
variable (fo uo wo : Option Addr) (n fl fc tl tc wl wc : Nat) (w : World) (v u : Int)

set_option maxRecDepth 100000 in
set_option maxHeartbeats 4000000 in
theorem docFind_bad (C : Int) (ps : List (Int × Int)) (hC : C ≠ 0) (hD : ∀ wx, Below w.heap.size w wx → Calls Tryd.prog 23 #[.agg #[.slice fo fl fc, .slice uo tl tc, .slice wo wl wc], .int .i64 v] wx (RAns wx [] (C, ps))) :
    Calls Tryd.prog 26 #[.agg #[.slice fo fl fc, .slice uo tl tc, .slice wo wl wc], .int .i64 v, .int .i64 u] w (FAns w 0 (C, ps)) := by
  have HDB : Hid (type_of% (DB.made w (.slice fo fl fc) (.slice uo tl tc) (.slice wo wl wc))) := DB.made w (.slice fo fl fc) (.slice uo tl tc) (.slice wo wl wc)
  have HDC : Hid (type_of% hD) := hD
  have HBT : Hid (∀ l, (C != 0 || decide (0 < l)) = true) := fun l => badT hC l
  clear hD
  go_enter Tryd.func26, Tryd.ntmps26
  go_wp2_with fail
  generalize (w.alloc (.cells #[.slice fo fl fc, .slice uo tl tc, .slice wo wl wc] 34)).alloc (.cells #[.int .i64 0, .slice none 0 0] 37) = W0 at *
  refine (HDC.out W0 HDB.out.below).mono ?_
  rintro e w1 ⟨lo, lc, po, pc, rfl, _, hP, hb⟩
  simp only at hP
  have H1 : Hid (DB w (.slice fo fl fc) (.slice uo tl tc) (.slice wo wl wc) w1 ∧ HasPlaces w1 (.slice po ps.length pc) ps) := ⟨HDB.out.keep hb, hP⟩
  clear hb hP
  go_wp2_with fail
  have H2 : Hid (DB w (.slice fo fl fc) (.slice uo tl tc) (.slice wo wl wc) (w1.alloc (.cells #[.int .i64 C, .slice po ps.length pc] 37)) ∧ HasPlaces (w1.alloc (.cells #[.int .i64 C, .slice po ps.length pc] 37)) (.slice po ps.length pc) ps ∧ (w1.alloc (.cells #[.int .i64 C, .slice po ps.length pc] 37)).heap[w1.heap.size]? = some (.cells #[.int .i64 C, .slice po ps.length pc] 37)) := ⟨H1.out.1.keep (below1 _ _), H1.out.2.keep (below1 _ _), heap_new _ _⟩
  have hbn : w.heap.size + 1 < w1.heap.size := lt_of_get H1.out.1.res
  generalize w1.alloc (.cells #[.int .i64 C, .slice po ps.length pc] 37) = W1 at *
  generalize w1.heap.size = B at *
  refine (bad_calls C po ps.length pc W1).mono ?_
  rw [HBT.out]
  rintro e w2 ⟨rfl, hb⟩
  have H3 : Hid (DB w (.slice fo fl fc) (.slice uo tl tc) (.slice wo wl wc) w2 ∧ HasPlaces w2 (.slice po ps.length pc) ps ∧ w2.heap[B]? = some (.cells #[.int .i64 C, .slice po ps.length pc] 37)) := ⟨H2.out.1.keep hb, H2.out.2.1.keep hb, (hb.block _ (lt_of_get H2.out.2.2)).trans H2.out.2.2⟩
  clear hb
  obtain ⟨e0, e1, _, _⟩ := cell_two H3.out.2.2
  have es := lt_of_get H3.out.2.2
  go_wp2_with fail
  refine (bad_calls C po ps.length pc w2).mono ?_
  rw [HBT.out]
  rintro e w3 ⟨rfl, hb⟩
  have H4 : Hid (DB w (.slice fo fl fc) (.slice uo tl tc) (.slice wo wl wc) w3 ∧ HasPlaces w3 (.slice po ps.length pc) ps ∧ w3.heap[B]? = some (.cells #[.int .i64 C, .slice po ps.length pc] 37)) := ⟨H3.out.1.keep hb, H3.out.2.1.keep hb, (hb.block _ (lt_of_get H3.out.2.2)).trans H3.out.2.2⟩
  clear hb e0 e1 es
  obtain ⟨e0, e1, _, _⟩ := cell_two H4.out.2.2
  have es := lt_of_get H4.out.2.2
  obtain ⟨d0, d1, x0, x1⟩ := cell_two H4.out.1.res
  have ds := lt_of_get H4.out.1.res
  have n1 : ¬ B = w.heap.size + 1 := by omega
  have n3 : ¬ w.heap.size + 1 = B := by omega
  go_wp2_with fail
  go_region_held (fun w' => w'.cell? ⟨B, 0, none⟩ = some (.int .i64 C) ∧ w'.cell? ⟨B, 1, none⟩ = some (.slice po ps.length pc)) (go_keep) (first | fail)
  all_goals
    go_wp2
    refine bodyPost_ret (v := .tuple #[.int .i64 0, .agg #[.int .i64 C, .slice po ps.length pc]]) (by simp [results, Tryd.results26, go_sem, d0, d1]) rfl ?_
    exact ⟨po, pc, rfl, (show HasPlaces (lay2 w3 (w.heap.size + 1) (.int .i64 C) (.slice po ps.length pc)) (.slice po ps.length pc) ps from lay2_places H4.out.2.1 H4.out.1.res), (show Below w.heap.size w (lay2 w3 (w.heap.size + 1) (.int .i64 C) (.slice po ps.length pc)) from lay2_below H4.out.1.below (by omega)).drew⟩

set_option maxRecDepth 100000 in
set_option maxHeartbeats 4000000 in
theorem docFind_node (l : List (Int × Int × Int)) (hn : n ≤ 65536) (hv : ¬ (0 ≤ u ∧ u < (n : Int))) (hD : ∀ wx, Below w.heap.size w wx → Calls Tryd.prog 23 #[.agg #[.slice fo (n + 1) fc, .slice uo tl tc, .slice wo wl wc], .int .i64 v] wx (RAns wx l (0, []))) :
    Calls Tryd.prog 26 #[.agg #[.slice fo (n + 1) fc, .slice uo tl tc, .slice wo wl wc], .int .i64 v, .int .i64 u] w (FAns w 0 (7, [])) := by
  have HDB : Hid (type_of% (DB.made w (.slice fo (n + 1) fc) (.slice uo tl tc) (.slice wo wl wc))) := DB.made w (.slice fo (n + 1) fc) (.slice uo tl tc) (.slice wo wl wc)
  have HDC : Hid (type_of% hD) := hD
  have HND : Hid (∀ wx, Calls Tryd.prog 48 #[.agg #[.slice fo (n + 1) fc, .slice uo tl tc, .slice wo wl wc], .int .i64 u] wx fun e w' => e = .returned (.bool false) ∧ Below wx.heap.size wx w') := fun wx => by
    have h := rNode_calls fo uo wo n fc tl tc wl wc (by omega) u wx
    rw [decide_eq_false hv] at h
    exact h
  clear hD hv
  go_enter Tryd.func26, Tryd.ntmps26
  go_wp2_with fail
  generalize (w.alloc (.cells #[.slice fo (n + 1) fc, .slice uo tl tc, .slice wo wl wc] 34)).alloc (.cells #[.int .i64 0, .slice none 0 0] 37) = W0 at *
  refine (HDC.out W0 HDB.out.below).mono ?_
  rintro e w1 ⟨lo, lc, po, pc, rfl, _, hP, hb⟩
  have H1 : Hid (type_of% (HDB.out.keep hb)) := HDB.out.keep hb
  clear hb hP
  go_wp2_with fail
  have H2 : Hid (DB w (.slice fo (n + 1) fc) (.slice uo tl tc) (.slice wo wl wc) (w1.alloc (.cells #[.int .i64 0, .slice po 0 pc] 37)) ∧ (w1.alloc (.cells #[.int .i64 0, .slice po 0 pc] 37)).heap[w1.heap.size]? = some (.cells #[.int .i64 0, .slice po 0 pc] 37)) := ⟨H1.out.keep (below1 _ _), heap_new _ _⟩
  have hbn : w.heap.size + 1 < w1.heap.size := lt_of_get H1.out.res
  generalize w1.alloc (.cells #[.int .i64 0, .slice po 0 pc] 37) = W1 at *
  generalize w1.heap.size = B at *
  refine (bad_calls 0 po 0 pc W1).mono ?_
  rintro e w2 ⟨rfl, hb⟩
  have H3 : Hid (DB w (.slice fo (n + 1) fc) (.slice uo tl tc) (.slice wo wl wc) w2 ∧ w2.heap[B]? = some (.cells #[.int .i64 0, .slice po 0 pc] 37)) := ⟨H2.out.1.keep hb, (hb.block _ (lt_of_get H2.out.2)).trans H2.out.2⟩
  clear hb
  rw [show ((0 : Int) != 0 || decide (0 < 0)) = false from rfl]
  obtain ⟨c0, c1, c2⟩ := box3 H3.out.1.box
  have cs := lt_of_get H3.out.1.box
  go_wp2_with fail
  refine (HND.out w2).mono ?_
  rintro e w3 ⟨rfl, hb⟩
  have H4 : Hid (DB w (.slice fo (n + 1) fc) (.slice uo tl tc) (.slice wo wl wc) w3 ∧ w3.heap[B]? = some (.cells #[.int .i64 0, .slice po 0 pc] 37)) := ⟨H3.out.1.keep hb, (hb.block _ (lt_of_get H3.out.2)).trans H3.out.2⟩
  clear hb c0 c1 c2 cs
  go_wp2_with fail
  refine (E_calls 7 w3).mono ?_
  rintro e w4 ⟨rfl, hb⟩
  have H5 : Hid (DB w (.slice fo (n + 1) fc) (.slice uo tl tc) (.slice wo wl wc) w4 ∧ w4.heap[B]? = some (.cells #[.int .i64 0, .slice po 0 pc] 37)) := ⟨H4.out.1.keep hb, (hb.block _ (lt_of_get H4.out.2)).trans H4.out.2⟩
  clear hb
  obtain ⟨e0, e1, z0, z1⟩ := cell_two H5.out.2
  have es := lt_of_get H5.out.2
  go_wp2_with fail
  have H6 : Hid (DB w (.slice fo (n + 1) fc) (.slice uo tl tc) (.slice wo wl wc) (lay2 w4 B (.int .i64 7) (.slice none 0 0)) ∧ (lay2 w4 B (.int .i64 7) (.slice none 0 0)).heap[B]? = some (.cells #[.int .i64 7, .slice none 0 0] 37)) := ⟨⟨lay2_below H5.out.1.below (by omega), (lay2_far (by omega)).trans H5.out.1.box, (lay2_far (by omega)).trans H5.out.1.res⟩, lay2_box H5.out.2⟩
  rw [show (w4.setCell ⟨B, 0, none⟩ (.int .i64 7)).setCell ⟨B, 1, none⟩ (.slice none 0 0) = lay2 w4 B (.int .i64 7) (.slice none 0 0) from rfl]
  generalize lay2 w4 B (.int .i64 7) (.slice none 0 0) = W5 at *
  clear e0 e1 z0 z1 es
  refine (bad_calls 7 none 0 0 W5).mono ?_
  rintro e w6 ⟨rfl, hb⟩
  rw [show ((7 : Int) != 0 || decide (0 < 0)) = true from rfl]
  have H7 : Hid (DB w (.slice fo (n + 1) fc) (.slice uo tl tc) (.slice wo wl wc) w6 ∧ w6.heap[B]? = some (.cells #[.int .i64 7, .slice none 0 0] 37)) := ⟨H6.out.1.keep hb, (hb.block _ (lt_of_get H6.out.2)).trans H6.out.2⟩
  clear hb
  obtain ⟨e0, e1, _, _⟩ := cell_two H7.out.2
  have es := lt_of_get H7.out.2
  obtain ⟨d0, d1, x0, x1⟩ := cell_two H7.out.1.res
  have ds := lt_of_get H7.out.1.res
  have n1 : ¬ B = w.heap.size + 1 := by omega
  have n3 : ¬ w.heap.size + 1 = B := by omega
  go_wp2_with fail
  go_region_held (fun w' => w'.cell? ⟨B, 0, none⟩ = some (.int .i64 7) ∧ w'.cell? ⟨B, 1, none⟩ = some (.slice none 0 0)) (go_keep) (first | fail)
  all_goals
    go_wp2
    refine bodyPost_ret (v := .tuple #[.int .i64 0, .agg #[.int .i64 7, .slice none 0 0]]) (by simp [results, Tryd.results26, go_sem, d0, d1]) rfl ?_
    exact ⟨none, 0, rfl, places_nil _, (show Below w.heap.size w (lay2 w6 (w.heap.size + 1) (.int .i64 7) (.slice none 0 0)) from lay2_below H7.out.1.below (by omega)).drew⟩

set_option maxRecDepth 100000 in
set_option maxHeartbeats 4000000 in
theorem docFind_go (l : List (Int × Int × Int)) (hn : n ≤ 65536) (hm : l.length ≤ 262144) (hv : 0 ≤ u ∧ u < (n : Int)) (r : Int) (E : Int × List (Int × Int))
    (hE : (∃ k a, l[k]? = some a ∧ a.2.1 = u ∧ r = a.2.2 ∧ (∀ (j : Nat) b, j < k → l[j]? = some b → b.2.1 ≠ u) ∧ E = (0, [])) ∨ ((∀ (j : Nat) b, l[j]? = some b → b.2.1 ≠ u) ∧ r = 0 ∧ E = (16, [])))
    (hD : ∀ wx, Below w.heap.size w wx → Calls Tryd.prog 23 #[.agg #[.slice fo (n + 1) fc, .slice uo tl tc, .slice wo wl wc], .int .i64 v] wx (RAns wx l (0, []))) :
    Calls Tryd.prog 26 #[.agg #[.slice fo (n + 1) fc, .slice uo tl tc, .slice wo wl wc], .int .i64 v, .int .i64 u] w (FAns w r E) := by
  have HDB : Hid (type_of% (DB.made w (.slice fo (n + 1) fc) (.slice uo tl tc) (.slice wo wl wc))) := DB.made w (.slice fo (n + 1) fc) (.slice uo tl tc) (.slice wo wl wc)
  have HDC : Hid (type_of% hD) := hD
  have HEE : Hid (type_of% hE) := hE
  have HND : Hid (∀ wx, Calls Tryd.prog 48 #[.agg #[.slice fo (n + 1) fc, .slice uo tl tc, .slice wo wl wc], .int .i64 u] wx fun e w' => e = .returned (.bool true) ∧ Below wx.heap.size wx w') := fun wx => by
    have h := rNode_calls fo uo wo n fc tl tc wl wc (by omega) u wx
    rw [decide_eq_true hv] at h
    exact h
  clear hD hv hE
  go_enter Tryd.func26, Tryd.ntmps26
  go_wp2_with fail
  generalize (w.alloc (.cells #[.slice fo (n + 1) fc, .slice uo tl tc, .slice wo wl wc] 34)).alloc (.cells #[.int .i64 0, .slice none 0 0] 37) = W0 at *
  refine (HDC.out W0 HDB.out.below).mono ?_
  rintro e w1 ⟨lo, lc, po, pc, rfl, ho, hP, hb⟩
  have H1 : Hid (DB w (.slice fo (n + 1) fc) (.slice uo tl tc) (.slice wo wl wc) w1 ∧ HasArcs w1 (.slice lo l.length lc) l) := ⟨HDB.out.keep hb, arcs_of_rowC ho⟩
  clear hb hP ho
  go_wp2_with fail
  have H2 : Hid (DB w (.slice fo (n + 1) fc) (.slice uo tl tc) (.slice wo wl wc) (w1.alloc (.cells #[.int .i64 0, .slice po 0 pc] 37)) ∧ HasArcs (w1.alloc (.cells #[.int .i64 0, .slice po 0 pc] 37)) (.slice lo l.length lc) l ∧ (w1.alloc (.cells #[.int .i64 0, .slice po 0 pc] 37)).heap[w1.heap.size]? = some (.cells #[.int .i64 0, .slice po 0 pc] 37)) := ⟨H1.out.1.keep (below1 _ _), H1.out.2.keep (below1 _ _), heap_new _ _⟩
  have hbn : w.heap.size + 1 < w1.heap.size := lt_of_get H1.out.1.res
  generalize w1.alloc (.cells #[.int .i64 0, .slice po 0 pc] 37) = W1 at *
  generalize w1.heap.size = B at *
  refine (bad_calls 0 po 0 pc W1).mono ?_
  rintro e w2 ⟨rfl, hb⟩
  have H3 : Hid (DB w (.slice fo (n + 1) fc) (.slice uo tl tc) (.slice wo wl wc) w2 ∧ HasArcs w2 (.slice lo l.length lc) l ∧ w2.heap[B]? = some (.cells #[.int .i64 0, .slice po 0 pc] 37)) := ⟨H2.out.1.keep hb, H2.out.2.1.keep hb, (hb.block _ (lt_of_get H2.out.2.2)).trans H2.out.2.2⟩
  clear hb
  rw [show ((0 : Int) != 0 || decide (0 < 0)) = false from rfl]
  obtain ⟨c0, c1, c2⟩ := box3 H3.out.1.box
  have cs := lt_of_get H3.out.1.box
  go_wp2_with fail
  refine (HND.out w2).mono ?_
  rintro e w3 ⟨rfl, hb⟩
  have H4 : Hid (DB w (.slice fo (n + 1) fc) (.slice uo tl tc) (.slice wo wl wc) w3 ∧ HasArcs w3 (.slice lo l.length lc) l ∧ w3.heap[B]? = some (.cells #[.int .i64 0, .slice po 0 pc] 37)) := ⟨H3.out.1.keep hb, H3.out.2.1.keep hb, (hb.block _ (lt_of_get H3.out.2.2)).trans H3.out.2.2⟩
  clear hb c0 c1 c2 cs
  obtain ⟨e0, e1, _, _⟩ := cell_two H4.out.2.2
  have es := lt_of_get H4.out.2.2
  go_wp2_with fail
  refine (bad_calls 0 po 0 pc w3).mono ?_
  rintro e w4 ⟨rfl, hb⟩
  rw [show ((0 : Int) != 0 || decide (0 < 0)) = false from rfl]
  have H5 : Hid (DB w (.slice fo (n + 1) fc) (.slice uo tl tc) (.slice wo wl wc) w4 ∧ HasArcs w4 (.slice lo l.length lc) l ∧ w4.heap[B]? = some (.cells #[.int .i64 0, .slice po 0 pc] 37)) := ⟨H4.out.1.keep hb, H4.out.2.1.keep hb, (hb.block _ (lt_of_get H4.out.2.2)).trans H4.out.2.2⟩
  clear hb e0 e1 es
  go_wp2_with fail
  go_loopw [33] (fun nv wr => ∃ k : Nat, k ≤ l.length ∧ nv = .int .i64 k ∧ (∀ (j : Nat) b, j < k → l[j]? = some b → b.2.1 ≠ u) ∧ DB w (.slice fo (n + 1) fc) (.slice uo tl tc) (.slice wo wl wc) wr ∧ HasArcs wr (.slice lo l.length lc) l ∧ wr.heap[B]? = some (.cells #[.int .i64 0, .slice po 0 pc] 37)) (fun nv _ => l.length - (intOf nv).toNat)
  case atStart => exact ⟨0, Nat.zero_le _, rfl, (fun j b hj => by omega), H5.out.1, H5.out.2.1, H5.out.2.2⟩
  case round =>
    obtain ⟨k, hk, rfl, hno, hD, hA, hB⟩ := hrel
    have HNO : Hid (type_of% hno) := hno
    have HR : Hid (DB w (.slice fo (n + 1) fc) (.slice uo tl tc) (.slice wo wl wc) wr ∧ HasArcs wr (.slice lo l.length lc) l ∧ wr.heap[B]? = some (.cells #[.int .i64 0, .slice po 0 pc] 37)) := ⟨hD, hA, hB⟩
    clear hno hD hB
    by_cases hlt : k < l.length
    · obtain ⟨a, ha⟩ : ∃ a, l[k]? = some a := ⟨l[k], List.getElem?_eq_getElem hlt⟩
      obtain ⟨b, off, hlo, hbl, q0, q1, q2⟩ := hA.at ha
      subst hlo
      have HA : Hid (l[k]? = some a) := ha
      have i1 : (k : Int) < (l.length : Int) := by omega
      have i2 : (0 : Int) ≤ (k : Int) := by omega
      have HR2 : Hid (∀ o, DB w (.slice fo (n + 1) fc) (.slice uo tl tc) (.slice wo wl wc) (wr.alloc o) ∧ HasArcs (wr.alloc o) (.slice (some ⟨b, off, none⟩) l.length lc) l ∧ (wr.alloc o).heap[B]? = some (.cells #[.int .i64 0, .slice po 0 pc] 37)) := fun o => ⟨HR.out.1.keep (below1 _ _), HR.out.2.1.keep (below1 _ _), ((below1 wr o).block _ (lt_of_get HR.out.2.2)).trans HR.out.2.2⟩
      obtain ⟨a0, a1, a2⟩ := a
      simp only at q0 q1 q2
      clear ha hA
      by_cases hau : a1 = u
      · have HEQ : Hid (r = a2 ∧ E = (0, [])) := by
          rcases HEE.out with ⟨k', a', h1, h2, h3, h4, h5⟩ | ⟨h1, _, _⟩
          · rcases Nat.lt_trichotomy k k' with h | h | h
            · exact absurd hau (h4 k _ h HA.out)
            · subst h
              have := Option.some.inj (HA.out.symm.trans h1)
              subst this
              exact ⟨h3, h5⟩
            · exact absurd h2 (HNO.out k' _ h h1)
          · exact absurd hau (h1 k _ HA.out)
        obtain ⟨hr, hEq⟩ := HEQ.out
        have HEQ2 : Hid (E = (0, [])) := hEq
        have hr2 := hr.symm
        subst hr2 hau
        clear HEQ hEq hr
        go_wp2_with fail
        generalize hY : wr.alloc (.cells #[.int .i64 a0, .int .i64 a1, .int .i64 a2] 63) = Y at *
        have HY : Hid (DB w (.slice fo (n + 1) fc) (.slice uo tl tc) (.slice wo wl wc) Y ∧ Y.heap[B]? = some (.cells #[.int .i64 0, .slice po 0 pc] 37) ∧ Y.heap[wr.heap.size]? = some (.cells #[.int .i64 a0, .int .i64 a1, .int .i64 a2] 63) ∧ B < wr.heap.size) := by
          have h := HR2.out (.cells #[.int .i64 a0, .int .i64 a1, .int .i64 a2] 63)
          rw [hY] at h
          exact ⟨h.1, h.2.2, by rw [← hY]; exact heap_new _ _, lt_of_get HR.out.2.2⟩
        clear hY HR2 HR q0 q1 q2
        generalize wr.heap.size = A at *
        obtain ⟨e0, e1, _, _⟩ := cell_two HY.out.2.1
        have es := lt_of_get HY.out.2.1
        obtain ⟨b0, b1, b2⟩ := box3 HY.out.2.2.1
        have bs := lt_of_get HY.out.2.2.1
        obtain ⟨d0, d1, x0, x1⟩ := cell_two HY.out.1.res
        have ds := lt_of_get HY.out.1.res
        have hAB := HY.out.2.2.2
        have n1 : ¬ B = w.heap.size + 1 := by omega
        have n3 : ¬ w.heap.size + 1 = B := by omega
        have n5 : ¬ A = w.heap.size + 1 := by omega
        have n6 : ¬ w.heap.size + 1 = A := by omega
        go_region_held (fun w' => w'.cell? ⟨A, 2, none⟩ = some (.int .i64 a2) ∧ w'.cell? ⟨B, 0, none⟩ = some (.int .i64 0) ∧ w'.cell? ⟨B, 1, none⟩ = some (.slice po 0 pc)) (go_keep) (first | fail)
        all_goals
          go_wp2
          refine bodyPost_ret (v := .tuple #[.int .i64 a2, .agg #[.int .i64 0, .slice po 0 pc]]) (by simp [results, Tryd.results26, go_sem, d0, d1]) rfl ?_
          rw [HEQ2.out]
          exact ⟨po, pc, rfl, ⟨po, pc, rfl, fun j p hj => by simp at hj⟩, (show Below w.heap.size w (lay2 Y (w.heap.size + 1) (.int .i64 0) (.slice po 0 pc)) from lay2_below HY.out.1.below (by omega)).drew⟩
      · have HNK : Hid (∀ (j : Nat) b, j < k + 1 → l[j]? = some b → b.2.1 ≠ u) := fun j b' hj hb' => by
          rcases Nat.lt_or_ge j k with h' | h'
          · exact HNO.out j b' h' hb'
          · obtain rfl : j = k := by omega
            obtain rfl := Option.some.inj (HA.out.symm.trans hb')
            exact hau
        go_wp2
        go_roundw
        case rel => exact ⟨k + 1, by omega, by go_num, HNK.out, HR2.out _⟩
        case measure => simp [intOf]; omega
    · obtain ⟨hr, hEq⟩ : r = 0 ∧ E = (16, []) := by
        rcases HEE.out with ⟨k', a', h1, h2, _⟩ | ⟨_, h1, h2⟩
        · exact absurd h2 (HNO.out k' _ (by have := (List.getElem?_eq_some_iff.1 h1).1; omega) h1)
        · exact ⟨h1, h2⟩
      have HEQ2 : Hid (E = (16, [])) := hEq
      subst hr
      clear hEq
      go_wp2_with fail
      refine (E_calls 16 _).mono ?_
      rintro e w6 ⟨rfl, hb⟩
      have H6 : Hid (type_of% (HR.out.1.keep hb)) := HR.out.1.keep hb
      clear hb
      obtain ⟨d0, d1, x0, x1⟩ := cell_two H6.out.res
      have ds := lt_of_get H6.out.res
      go_wp2
      refine bodyPost_ret (v := .tuple #[.int .i64 0, .agg #[.int .i64 16, .slice none 0 0]]) (by simp [results, Tryd.results26, go_sem, d0, d1]) rfl ?_
      rw [HEQ2.out]
      exact ⟨none, 0, rfl, places_nil _, (show Below w.heap.size w (lay2 w6 (w.heap.size + 1) (.int .i64 16) (.slice none 0 0)) from lay2_below H6.out.below (by omega))⟩
end
end Go.Proofs.YtgfmalimnbgdeaaDoor

namespace Go.Proofs.YtgfmalimnbgdeaaDoor
open Go.RowKit Go.Extern

attribute [local go_sem] Oper.semAt_some

theorem cut_none (w : World) : (Instr.slice 27 (.slice none 0 0) (some (.int .i64 ((0 : Nat) : Int))) (some (.int .i64 ((0 : Nat) : Int))) none).run Tryd.prog w = .ok (.slice none 0 0) w := by
  rw [run_slice_lh (ht := Tryd.elemI) (h0 := by omega) (h1 := by omega) (h2 := by omega), Tryd.sizeI]
  simp [Result.andThen_ok, sliced]

set_option maxRecDepth 100000 in
set_option maxHeartbeats 2000000 in
theorem search_none (x : Int) (w : World) : Calls Tryd.prog 50 #[.slice none 0 0, .int .i64 x] w fun e w' => e = .returned (.tuple #[.int .i64 0, .bool false]) ∧ Below w.heap.size w w' := by
  go_enter Tryd.func50, Tryd.ntmps50
  go_wp2_with fail
  go_loopw [7, 8] (fun a b wr => a = .int .i64 0 ∧ b = .int .i64 0 ∧ wr = w) (fun _ _ _ => 0)
  case atStart => exact ⟨rfl, rfl, rfl⟩
  case round =>
    obtain ⟨rfl, rfl, rfl⟩ := hrel
    go_wp2
    go_ret2
    exact ⟨rfl, Below.refl _ _⟩

set_option maxRecDepth 100000 in
set_option maxHeartbeats 4000000 in
theorem find_none (n : Nat) (fo wo : Option Addr) (fc wc : Nat) (w : World) (hz : Fine n []) (h : CsrIn w n [] fo none wo fc 0 wc) (v u r no : Int) (hF : FindIs n [] v u r no) :
    Calls Tryd.prog 25 #[.agg #[.slice fo (n + 1) fc, .slice none 0 0, .slice wo 0 wc], .int .i64 v, .int .i64 u] w fun e w' => e = .returned (.tuple #[.int .i64 r, numV no]) ∧ Below w.heap.size w w' := by
  obtain ⟨fb, fof, rfl, hl, hc⟩ := h.first
  obtain ⟨W0, hW0⟩ : ∃ W0, (w.alloc (.cells #[.slice (some ⟨fb, fof, none⟩) (n + 1) fc, .slice none 0 0, .slice wo 0 wc] 29)).alloc (.cells #[.int .i64 v, .int .i64 u] 3) = W0 := ⟨_, rfl⟩
  have HW0 : Hid ((w.alloc (.cells #[.slice (some ⟨fb, fof, none⟩) (n + 1) fc, .slice none 0 0, .slice wo 0 wc] 29)).alloc (.cells #[.int .i64 v, .int .i64 u] 3) = W0) := hW0
  have hB0 : Below w.heap.size w W0 := by rw [← hW0]; exact ((Below.refl _ w).alloc (Nat.le_refl _) _).alloc (by simp) _
  have k1 : W0.heap[w.heap.size]? = some (.cells #[.slice (some ⟨fb, fof, none⟩) (n + 1) fc, .slice none 0 0, .slice wo 0 wc] 29) := by rw [← hW0, Below.heap_alloc _ _ _ (by simp)]; exact heap_new _ _
  have k2 : W0.heap[w.heap.size + 1]? = some (.cells #[.int .i64 v, .int .i64 u] 3) := by
    have h := heap_new (w.alloc (.cells #[.slice (some ⟨fb, fof, none⟩) (n + 1) fc, .slice none 0 0, .slice wo 0 wc] 29)) (.cells #[.int .i64 v, .int .i64 u] 3)
    rw [hW0] at h
    simpa using h
  have hV : HasInts W0 (.slice (some ⟨w.heap.size + 1, 0, none⟩) [v, u].length 2) [v, u] := by
    refine ⟨_, _, rfl, fun j a hj => ⟨_, 0, rfl, lt_of_get k2, ?_⟩⟩
    rcases j with _ | _ | j
    · cases hj; simp [World.cell?, k2]
    · cases hj; simp [World.cell?, k2]
    · cases hj
  have hN := hz.few
  have HK : Hid (∀ wx, Below W0.heap.size W0 wx → (wx.cell? ⟨w.heap.size, 0, none⟩ = some (.slice (some ⟨fb, fof, none⟩) (n + 1) fc) ∧ wx.cell? ⟨w.heap.size, 1, none⟩ = some (.slice none 0 0) ∧ wx.cell? ⟨w.heap.size, 2, none⟩ = some (.slice wo 0 wc)) ∧ w.heap.size < wx.heap.size ∧ fb < wx.heap.size ∧ Below w.heap.size w wx ∧ ∀ v, v ≤ n → wx.cell? ⟨fb, fof + v, none⟩ = some (.int .i64 ((0 : Nat) : Int))) := fun wx hx => by
    have hg := (hx.block _ (lt_of_get k1)).trans k1
    have hb := hB0.trans (hx.mono hB0.size)
    exact ⟨box3 hg, lt_of_get hg, Nat.lt_of_lt_of_le hl hb.size, hb, fun v hv => (hb.cell (p := ⟨fb, _, none⟩) hl).trans (hc v hv)⟩
  have HCN : Hid (∀ no7, ((no7 = 0 ∧ ∀ x ∈ [v, u], 0 ≤ x ∧ x < (n : Int)) ∨ (no7 = 7 ∧ ∃ x ∈ [v, u], ¬ (0 ≤ x ∧ x < (n : Int)))) → Calls Tryd.prog 47 #[.agg #[.slice (some ⟨fb, fof, none⟩) (n + 1) fc, .slice none 0 0, .slice wo 0 wc], .slice (some ⟨w.heap.size + 1, 0, none⟩) 2 2] W0 fun e w' => e = .returned (numV no7) ∧ Below W0.heap.size W0 w') := fun no7 h7 => checkNodes_good n [] _ _ wo fc 0 wc W0 hz (h.keep hB0) _ 2 [v, u] hV (by simp) no7 h7
  clear h hc hW0 hB0 k1 k2 hV hl hz
  rcases hF with ⟨rfl, rfl, hno⟩ | ⟨⟨⟨hv1, hv2⟩, hu1, hu2⟩, hF⟩
  · have HC7 := HCN.out 7 (Or.inr ⟨rfl, by
      by_cases h : 0 ≤ v ∧ v < (n : Int)
      · exact ⟨u, by simp, fun h' => hno ⟨h, h'⟩⟩
      · exact ⟨v, by simp, h⟩⟩)
    have HCC : Hid (type_of% HC7) := HC7
    clear HC7 HCN hno
    go_enter Tryd.func25, Tryd.ntmps25
    go_wp2_with fail
    rw [HW0.out]
    refine HCC.out.mono ?_
    rintro e w1 ⟨rfl, hb1⟩
    have HBZ : Hid (Below w.heap.size w w1) := (HK.out w1 hb1).2.2.2.1
    rw [show numV 7 = .iface 65 (.int .i64 7) from rfl]
    clear hb1
    go_wp2
    go_ret2
    exact ⟨rfl, HBZ.out⟩
  · have HC7 := HCN.out 0 (Or.inl ⟨rfl, fun x hx => by
      rcases List.mem_cons.1 hx with rfl | hx
      · exact ⟨hv1, hv2⟩
      · rcases List.mem_cons.1 hx with rfl | hx
        · exact ⟨hu1, hu2⟩
        · cases hx⟩)
    have HCC : Hid (type_of% HC7) := HC7
    clear HC7 HCN
    obtain ⟨rfl, rfl⟩ : no = 16 ∧ r = 0 := by
      rcases hF with ⟨_, hm⟩ | ⟨h1, h2, _⟩
      · cases hm
      · exact ⟨h1, h2⟩
    obtain ⟨p, rfl⟩ : ∃ p : Nat, v = (p : Int) := ⟨v.toNat, by omega⟩
    have HBS : Hid (∀ wx, Calls Tryd.prog 50 #[.slice none 0 0, .int .i64 u] wx fun e w' => e = .returned (.tuple #[.int .i64 0, .bool false]) ∧ Below wx.heap.size wx w') := fun wx => search_none u wx
    have ho2 := cut_none
    have e1 : (p : Int) < (n : Int) + 1 := by omega
    have e2 : (p : Int) + 1 < (n : Int) + 1 := by omega
    have e3 : (0 : Int) ≤ (p : Int) := by omega
    have e4 : (0 : Int) ≤ (p : Int) + 1 := by omega
    have e5 : IntKind.i64.wrap ((p : Int) + 1) = (p : Int) + 1 := by rw [IntKind.wrap_i64] <;> omega
    clear hF
    go_enter Tryd.func25, Tryd.ntmps25
    go_wp2_with fail
    rw [HW0.out]
    refine HCC.out.mono ?_
    rintro e w1 ⟨rfl, hb1⟩
    rw [show numV 0 = .nilIface from rfl]
    have HB1 : Hid (Below W0.heap.size W0 w1) := hb1
    obtain ⟨⟨c0, c1, c2⟩, cs, cf, _, hc⟩ := HK.out w1 hb1
    have q0 := hc p (by omega)
    have q1 := hc (p + 1) (by omega)
    clear hb1 hc
    go_wp2_with fail
    go_quiet (fail)
    have HBQ : Hid (Below W0.heap.size W0 (w1.drewN nq)) := ⟨HB1.out.os, HB1.out.tape, HB1.out.output, HB1.out.size, HB1.out.block⟩
    clear q0 q1
    have HSQ : Hid (type_of% (HBS.out (w1.drewN nq))) := HBS.out _
    go_wp2_with (go_at_call 50; refine HSQ.out.mono ?_; rintro e w2 ⟨rfl, hb2⟩; have HB2 : Hid (Below W0.heap.size W0 w2) := HBQ.out.trans (hb2.mono HBQ.out.size); clear hb2; clear c0 c1 c2 cs cf)
    have HBZ : Hid (Below w.heap.size w w2) := (HK.out w2 HB2.out).2.2.2.1
    go_ret2
    exact ⟨rfl, HBZ.out⟩
end Go.Proofs.YtgfmalimnbgdeaaDoor

namespace Go.Proofs.YtgfmalimnbgdeaaDoor
open Go.RowKit Go.Extern

attribute [local go_sem] Oper.semAt_some

theorem tw_more {l : List Int} {i : Nat} {x : Int} (h : l[i]? = some x) : l.take (i + 1) = l.take i ++ [x] := by
  rw [List.take_add_one, h]; rfl
theorem tw_base {w : World} {B B' n : Nat} {v : Value} {xs : List Value} (h : w.ownsRow B' 3 1 v n xs) (hb : B ≤ B') : w.ownsRow B 3 1 v n xs := by
  obtain ⟨h1, h2⟩ := h
  refine ⟨h1, ?_⟩
  rcases h2 with h2 | ⟨g, cap, cur, e, hg, r⟩
  · exact Or.inl h2
  · exact Or.inr ⟨g, cap, cur, e, by omega, r⟩
theorem tw_cell (w : World) (v : Value) : ∀ j u, [v][j]? = some u → (w.alloc (.cells #[v] 3)).cell? ((⟨w.heap.size, 0, none⟩ : Addr).add j) = some u := by
  intro j u hj
  have h := heap_new w (.cells #[v] 3)
  generalize w.alloc (.cells #[v] 3) = W at h
  rcases j with _ | j
  · cases hj
    simp [Addr.add, World.cell?, h]
  · simp at hj
theorem ibelow_grown {w0 w w' : World} {base n : Nat} {xs : List Value} {v : Value} (hb : Below base w0 w) (h : w.ownsRow base 3 1 v n xs) (hg : w.grownBy w' v.ownBlock) (hs : base ≤ w.heap.size) : Below base w0 w' :=
  hb.trans ⟨hg.os, hg.tape, hg.output, hg.size, fun j hj => hg.block j (Nat.lt_of_lt_of_le hj hs) (fun e => by have := (h.lt j e.symm).1; omega)⟩
theorem iown_below {w w' : World} {B n : Nat} {v : Value} {xs : List Value} (h : w.ownsRow B 3 1 v n xs) (hb : Below w.heap.size w w') : w'.ownsRow B 3 1 v n xs := iown_keep h fun k hk => hb.block _ (h.lt k hk).2

set_option maxRecDepth 100000 in
set_option maxHeartbeats 4000000 in
theorem twinInts_calls (lo : Option Addr) (lc : Nat) (l : List Int) (w : World) (hl : HasInts w (.slice lo l.length lc) l) (hm : l.length * 8 ≤ 140737488351232) :
    Calls Tryd.prog 70 #[.slice lo l.length lc] w fun e w' => ∃ mo mc, e = .returned (.slice mo l.length mc) ∧ w'.ownsRow w.heap.size 3 1 (.slice mo l.length mc) l.length (iv l) ∧ Below w.heap.size w w' := by
  obtain ⟨i0, hi, hz0, hz1, hz2⟩ : ∃ i, Tryd.prog.info? 3 = some i ∧ i.zero = some (.int .i64 0) ∧ i.size = 1 ∧ i.bytes = 8 := by
    have h := infoJ
    cases hi : Tryd.prog.info? 3 with
    | none => rw [hi] at h; cases h
    | some i => rw [hi] at h; simp at h; exact ⟨i, rfl, h.1, h.2.1, h.2.2⟩
  have HL : Hid (HasInts w (.slice lo l.length lc) l) := hl
  clear hl
  go_enter Tryd.func70, Tryd.ntmps70
  go_wp2_with fail
  go_loopw [3, 8] (fun mv nv wr => ∃ (k : Nat) (so : Option Addr) (sc : Nat), k ≤ l.length ∧ nv = .int .i64 k ∧ mv = .slice so k sc ∧ wr.ownsRow w.heap.size 3 1 (.slice so k sc) k (iv (l.take k)) ∧ Below w.heap.size w wr) (fun _ nv _ => l.length - (intOf nv).toNat)
  case atStart => exact ⟨0, none, 0, Nat.zero_le _, rfl, rfl, World.ownsRow_nil _ _ _ _, Below.refl _ _⟩
  case round =>
    obtain ⟨k, so, sc, hk, rfl, rfl, hO, hb⟩ := hrel
    have HO : Hid (type_of% hO) := hO
    have HB : Hid (type_of% hb) := hb
    by_cases hlt : k < l.length
    · obtain ⟨a, ha⟩ : ∃ a, l[k]? = some a := ⟨l[k], List.getElem?_eq_getElem hlt⟩
      obtain ⟨b, off, hlo, hbl, q0⟩ := HL.out.at ha
      subst hlo
      have c0 := (hb.cell (p := ⟨b, off + k, none⟩) hbl).trans q0
      have cl : b < wr.heap.size := Nat.lt_of_lt_of_le hbl hb.size
      have HT1 : Hid (l.take (k + 1) = l.take k ++ [a]) := tw_more ha
      have hws := hb.size
      have i1 : (k : Int) < (l.length : Int) := by omega
      have i2 : (0 : Int) ≤ (k : Int) := by omega
      clear q0 ha hO hb hbl
      go_wp2_with (at_builtin; refine wpList_append_own _ rfl _ _ 27 rfl w.heap.size 3 i0 (.int .i64 0) 1 8 Tryd.underlying27 hi hz0 hz1 hz2 rfl (by decide) (.slice so k sc) k (iv (l.take k)) rfl (iown_below HO.out ((Below.refl _ wr).alloc (Nat.le_refl _) _)) ⟨wr.heap.size, 0, none⟩ 1 1 [.int .i64 a] rfl rfl (tw_cell wr (.int .i64 a)) (fun u hu => by simp at hu; subst hu; rfl) (by unfold maxLen; omega) (by omega) (by simp; omega) ?_; intro v5 w5 hown5 hgr5 _; have H5 : Hid (w5.ownsRow w.heap.size 3 1 v5 (k + 1) (iv (l.take (k + 1))) ∧ Below w.heap.size w w5) := (by refine ⟨?_, ibelow_grown (HB.out.alloc hws _) (iown_below HO.out ((Below.refl _ wr).alloc (Nat.le_refl _) _)) hgr5 (by simp; omega)⟩; rw [HT1.out, iv_append]; exact hown5); clear hown5 hgr5)
      obtain ⟨po, pc, hv5⟩ := iown_slice H5.out.1
      subst hv5
      go_roundw
      case rel => exact ⟨k + 1, po, pc, by omega, by go_num, rfl, H5.out.1, H5.out.2⟩
      case measure => simp [intOf]; omega
    · obtain rfl : k = l.length := by omega
      have H6 : Hid (wr.ownsRow w.heap.size 3 1 (.slice so l.length sc) l.length (iv l)) := by
        have h := HO.out
        rw [List.take_length] at h
        exact h
      clear hO hb
      go_wp2
      go_ret
      exact ⟨so, sc, rfl, H6.out, HB.out⟩

/-- three rows in memory of their own. -/
def Own3 (B : Nat) (w : World) (F T W : List Int) (fv tv wv : Value) : Prop := w.ownsRow B 3 1 fv F.length (iv F) ∧ w.ownsRow B 3 1 tv T.length (iv T) ∧ w.ownsRow B 3 1 wv W.length (iv W)
theorem Own3.keep {B : Nat} {w w' : World} {F T W : List Int} {fv tv wv : Value} (h : Own3 B w F T W fv tv wv) (hb : Below w.heap.size w w') : Own3 B w' F T W fv tv wv := ⟨iown_below h.1 hb, iown_below h.2.1 hb, iown_below h.2.2 hb⟩
theorem Own3.far {B b : Nat} {w w' : World} {F T W : List Int} {fv tv wv : Value} {c : Array Value} {Ty : TypeId} (h : Own3 B w F T W fv tv wv) (hb : w.heap[b]? = some (.cells c Ty)) (hT : Ty ≠ 3) (hk : ∀ g, g ≠ b → w'.heap[g]? = w.heap[g]?) : Own3 B w' F T W fv tv wv :=
  ⟨iown_keep h.1 fun k hk' => hk k fun e => iown_not_box h.1 hb hT (by rw [hk', e]), iown_keep h.2.1 fun k hk' => hk k fun e => iown_not_box h.2.1 hb hT (by rw [hk', e]), iown_keep h.2.2 fun k hk' => hk k fun e => iown_not_box h.2.2 hb hT (by rw [hk', e])⟩
theorem Own3.base {B B' : Nat} {w : World} {F T W : List Int} {fv tv wv : Value} (h : Own3 B' w F T W fv tv wv) (hb : B ≤ B') : Own3 B w F T W fv tv wv := ⟨tw_base h.1 hb, tw_base h.2.1 hb, tw_base h.2.2 hb⟩
/-- what a copy answers. -/
def TwAns (w : World) (F T W : List Int) (e : Ending) (w' : World) : Prop := ∃ fo fc uo tc wo wc, e = .returned (.agg #[.slice fo F.length fc, .slice uo T.length tc, .slice wo W.length wc]) ∧ Own3 w.heap.size w' F T W (.slice fo F.length fc) (.slice uo T.length tc) (.slice wo W.length wc) ∧ Below w.heap.size w w'

section
variable (fo uo wo : Option Addr) (fc tc wc : Nat) (F T W : List Int) (w : World)
set_option maxRecDepth 100000 in
set_option maxHeartbeats 4000000 in
theorem twin_calls (hF : HasInts w (.slice fo F.length fc) F) (hT : HasInts w (.slice uo T.length tc) T) (hW : HasInts w (.slice wo W.length wc) W) (mF : F.length * 8 ≤ 140737488351232) (mT : T.length * 8 ≤ 140737488351232) (mW : W.length * 8 ≤ 140737488351232) :
    Calls Tryd.prog 44 #[.agg #[.slice fo F.length fc, .slice uo T.length tc, .slice wo W.length wc]] w (TwAns w F T W) := by
  obtain ⟨W0, hW0⟩ : ∃ W0, (w.alloc (.cells #[.slice fo F.length fc, .slice uo T.length tc, .slice wo W.length wc] 34)).alloc (.cells #[.slice none 0 0, .slice none 0 0, .slice none 0 0] 34) = W0 := ⟨_, rfl⟩
  have HW0 : Hid ((w.alloc (.cells #[.slice fo F.length fc, .slice uo T.length tc, .slice wo W.length wc] 34)).alloc (.cells #[.slice none 0 0, .slice none 0 0, .slice none 0 0] 34) = W0) := hW0
  have hB0 : Below w.heap.size w W0 := by rw [← hW0]; exact ((Below.refl _ w).alloc (Nat.le_refl _) _).alloc (by simp) _
  have k1 : W0.heap[w.heap.size]? = some (.cells #[.slice fo F.length fc, .slice uo T.length tc, .slice wo W.length wc] 34) := by rw [← hW0, Below.heap_alloc _ _ _ (by simp)]; exact heap_new _ _
  have k2 : W0.heap[w.heap.size + 1]? = some (.cells #[.slice none 0 0, .slice none 0 0, .slice none 0 0] 34) := by
    have h := heap_new (w.alloc (.cells #[.slice fo F.length fc, .slice uo T.length tc, .slice wo W.length wc] 34)) (.cells #[.slice none 0 0, .slice none 0 0, .slice none 0 0] 34)
    rw [hW0] at h
    simpa using h
  have HK : Hid (∀ wx, Below W0.heap.size W0 wx → (wx.cell? ⟨w.heap.size, 0, none⟩ = some (.slice fo F.length fc) ∧ wx.cell? ⟨w.heap.size, 1, none⟩ = some (.slice uo T.length tc) ∧ wx.cell? ⟨w.heap.size, 2, none⟩ = some (.slice wo W.length wc)) ∧ w.heap.size < wx.heap.size) := fun wx hx => by
    have g := (hx.block _ (lt_of_get k1)).trans k1
    exact ⟨box3 g, lt_of_get g⟩
  have HR : Hid (∀ wx, Below W0.heap.size W0 wx → wx.heap[w.heap.size + 1]? = some (.cells #[.slice none 0 0, .slice none 0 0, .slice none 0 0] 34) ∧ Below w.heap.size w wx ∧ w.heap.size ≤ W0.heap.size) := fun wx hx => ⟨(hx.block _ (lt_of_get k2)).trans k2, btr hB0 hx, hB0.size⟩
  have HC : Hid (∀ wx, Below W0.heap.size W0 wx → ∀ (lo : Option Addr) (lc : Nat) (l : List Int), HasInts w (.slice lo l.length lc) l → l.length * 8 ≤ 140737488351232 → Calls Tryd.prog 70 #[.slice lo l.length lc] wx fun e w' => ∃ mo mc, e = .returned (.slice mo l.length mc) ∧ w'.ownsRow W0.heap.size 3 1 (.slice mo l.length mc) l.length (iv l) ∧ Below wx.heap.size wx w') := fun wx hx lo lc l h hm =>
    (twinInts_calls lo lc l wx (h.keep (btr hB0 hx)) hm).mono fun e w' ⟨mo, mc, he, ho, hb⟩ => ⟨mo, mc, he, tw_base ho hx.size, hb⟩
  have HFF : Hid (HasInts w (.slice fo F.length fc) F ∧ F.length * 8 ≤ 140737488351232) := ⟨hF, mF⟩
  have HTT : Hid (HasInts w (.slice uo T.length tc) T ∧ T.length * 8 ≤ 140737488351232) := ⟨hT, mT⟩
  have HWW : Hid (HasInts w (.slice wo W.length wc) W ∧ W.length * 8 ≤ 140737488351232) := ⟨hW, mW⟩
  obtain ⟨⟨c0, c1, c2⟩, cs⟩ := HK.out W0 (Below.refl _ _)
  clear hF hT hW mF mT mW hW0 hB0 k1 k2
  generalize hfl : F.length = fl at *
  generalize htl : T.length = tl at *
  generalize hwl : W.length = wl at *
  have HLL : Hid (F.length = fl ∧ T.length = tl ∧ W.length = wl) := ⟨hfl, htl, hwl⟩
  have HC1 : Hid (∀ wx, Below W0.heap.size W0 wx → Calls Tryd.prog 70 #[.slice fo fl fc] wx fun e w' => ∃ mo mc, e = .returned (.slice mo fl mc) ∧ w'.ownsRow W0.heap.size 3 1 (.slice mo fl mc) fl (iv F) ∧ Below wx.heap.size wx w') := fun wx hx => by
    have h := HC.out wx hx fo fc F (by rw [hfl]; exact HFF.out.1) (by rw [hfl]; exact HFF.out.2)
    rw [hfl] at h
    exact h
  have HC2 : Hid (∀ wx, Below W0.heap.size W0 wx → Calls Tryd.prog 70 #[.slice uo tl tc] wx fun e w' => ∃ mo mc, e = .returned (.slice mo tl mc) ∧ w'.ownsRow W0.heap.size 3 1 (.slice mo tl mc) tl (iv T) ∧ Below wx.heap.size wx w') := fun wx hx => by
    have h := HC.out wx hx uo tc T (by rw [htl]; exact HTT.out.1) (by rw [htl]; exact HTT.out.2)
    rw [htl] at h
    exact h
  have HC3 : Hid (∀ wx, Below W0.heap.size W0 wx → Calls Tryd.prog 70 #[.slice wo wl wc] wx fun e w' => ∃ mo mc, e = .returned (.slice mo wl mc) ∧ w'.ownsRow W0.heap.size 3 1 (.slice mo wl mc) wl (iv W) ∧ Below wx.heap.size wx w') := fun wx hx => by
    have h := HC.out wx hx wo wc W (by rw [hwl]; exact HWW.out.1) (by rw [hwl]; exact HWW.out.2)
    rw [hwl] at h
    exact h
  clear HC HFF HTT HWW hfl htl hwl
  go_enter Tryd.func44, Tryd.ntmps44
  go_wp2_with fail
  rw [HW0.out]
  go_region_held3 (fun w' => w'.cell? ⟨w.heap.size, 0, none⟩ = some (.slice fo fl fc) ∧ w'.cell? ⟨w.heap.size, 1, none⟩ = some (.slice uo tl tc) ∧ w'.cell? ⟨w.heap.size, 2, none⟩ = some (.slice wo wl wc)) (go_keep) (first
    | (go_at_call 70; refine (HC3.out _ Y2.out.1).mono ?_; rintro e y3 ⟨m3, l3, rfl, ho3, hy⟩; have Y3 : Hid (Below W0.heap.size W0 y3 ∧ y3.ownsRow W0.heap.size 3 1 (.slice m1 fl l1) fl (iv F) ∧ y3.ownsRow W0.heap.size 3 1 (.slice m2 tl l2) tl (iv T) ∧ y3.ownsRow W0.heap.size 3 1 (.slice m3 wl l3) wl (iv W)) := ⟨btr Y2.out.1 hy, iown_below Y2.out.2.1 hy, iown_below Y2.out.2.2 hy, ho3⟩; clear hy ho3; obtain ⟨⟨s0, s1, s2⟩, ss⟩ := HK.out y3 Y3.out.1; obtain ⟨r0, r1, r2⟩ := box3 (HR.out y3 Y3.out.1).1; have z0 : y3.frozen? ⟨w.heap.size + 1, 0, none⟩ = false := (by simp [World.frozen?, (HR.out y3 Y3.out.1).1]); have z1 : y3.frozen? ⟨w.heap.size + 1, 1, none⟩ = false := (by simp [World.frozen?, (HR.out y3 Y3.out.1).1]); have z2 : y3.frozen? ⟨w.heap.size + 1, 2, none⟩ = false := (by simp [World.frozen?, (HR.out y3 Y3.out.1).1]); have rs := lt_of_get (HR.out y3 Y3.out.1).1)
    | (go_at_call 70; refine (HC2.out _ Y1.out.1).mono ?_; rintro e y2 ⟨m2, l2, rfl, ho2, hy⟩; have Y2 : Hid (Below W0.heap.size W0 y2 ∧ y2.ownsRow W0.heap.size 3 1 (.slice m1 fl l1) fl (iv F) ∧ y2.ownsRow W0.heap.size 3 1 (.slice m2 tl l2) tl (iv T)) := ⟨btr Y1.out.1 hy, iown_below Y1.out.2 hy, ho2⟩; clear hy ho2; obtain ⟨⟨q0, q1, q2⟩, qs⟩ := HK.out y2 Y2.out.1)
    | (go_at_call 70; refine (HC1.out _ (Below.refl _ W0).drew).mono ?_; rintro e y1 ⟨m1, l1, rfl, ho1, hy⟩; have Y1 : Hid (Below W0.heap.size W0 y1 ∧ y1.ownsRow W0.heap.size 3 1 (.slice m1 fl l1) fl (iv F)) := ⟨(Below.refl _ W0).drew.trans hy, ho1⟩; clear hy ho1; obtain ⟨⟨p0, p1, p2⟩, ps⟩ := HK.out y1 Y1.out.1))
  go_wp2
  refine bodyPost_ret (v := .agg #[.slice m1 fl l1, .slice m2 tl l2, .slice m3 wl l3]) (by simp [results, Tryd.results44, go_sem, r0, r1, r2]) rfl ?_
  obtain ⟨hr, hb, hs⟩ := HR.out y3 Y3.out.1
  obtain ⟨rfl, rfl, rfl⟩ := HLL.out
  exact ⟨m1, l1, m2, l2, m3, l3, rfl, ((show Own3 W0.heap.size y3 F T W _ _ _ from Y3.out.2).far hr (by decide) (fun g hg => ((heap_setCell_other _ _ _ _ hg).trans (heap_setCell_other _ _ _ _ hg)).trans (heap_setCell_other _ _ _ _ hg))).base hs, ((hb.setCell (p := ⟨w.heap.size + 1, 0, none⟩) (by simp) _).setCell (p := ⟨w.heap.size + 1, 1, none⟩) (by simp) _).setCell (p := ⟨w.heap.size + 1, 2, none⟩) (by simp) _⟩

set_option maxRecDepth 100000 in
set_option maxHeartbeats 4000000 in
theorem to_calls (hF : HasInts w (.slice fo F.length fc) F) (hT : HasInts w (.slice uo T.length tc) T) (hW : HasInts w (.slice wo W.length wc) W) (mF : F.length * 8 ≤ 140737488351232) (mT : T.length * 8 ≤ 140737488351232) (mW : W.length * 8 ≤ 140737488351232) :
    Calls Tryd.prog 17 #[.agg #[.slice fo F.length fc, .slice uo T.length tc, .slice wo W.length wc]] w (TwAns w F T W) := by
  obtain ⟨W0, hW0⟩ : ∃ W0, (w.alloc (.cells #[.slice fo F.length fc, .slice uo T.length tc, .slice wo W.length wc] 34)).alloc (.cells #[.slice none 0 0, .slice none 0 0, .slice none 0 0] 29) = W0 := ⟨_, rfl⟩
  have HW0 : Hid ((w.alloc (.cells #[.slice fo F.length fc, .slice uo T.length tc, .slice wo W.length wc] 34)).alloc (.cells #[.slice none 0 0, .slice none 0 0, .slice none 0 0] 29) = W0) := hW0
  have hB0 : Below w.heap.size w W0 := by rw [← hW0]; exact ((Below.refl _ w).alloc (Nat.le_refl _) _).alloc (by simp) _
  have k2 : W0.heap[w.heap.size + 1]? = some (.cells #[.slice none 0 0, .slice none 0 0, .slice none 0 0] 29) := by
    have h := heap_new (w.alloc (.cells #[.slice fo F.length fc, .slice uo T.length tc, .slice wo W.length wc] 34)) (.cells #[.slice none 0 0, .slice none 0 0, .slice none 0 0] 29)
    rw [hW0] at h
    simpa using h
  have HTW : Hid (type_of% (twin_calls fo uo wo fc tc wc F T W W0 (hF.keep hB0) (hT.keep hB0) (hW.keep hB0) mF mT mW)) := twin_calls fo uo wo fc tc wc F T W W0 (hF.keep hB0) (hT.keep hB0) (hW.keep hB0) mF mT mW
  have HR : Hid (∀ wx, Below W0.heap.size W0 wx → wx.heap[w.heap.size + 1]? = some (.cells #[.slice none 0 0, .slice none 0 0, .slice none 0 0] 29) ∧ Below w.heap.size w wx ∧ w.heap.size ≤ W0.heap.size) := fun wx hx => ⟨(hx.block _ (lt_of_get k2)).trans k2, btr hB0 hx, hB0.size⟩
  clear hF hT hW mF mT mW hW0 hB0 k2
  go_enter Tryd.func17, Tryd.ntmps17
  go_wp2_with fail
  rw [HW0.out]
  refine HTW.out.mono ?_
  rintro e y1 ⟨m1, l1, m2, l2, m3, l3, rfl, ho, hy⟩
  have Y1 : Hid (Below W0.heap.size W0 y1 ∧ Own3 W0.heap.size y1 F T W (.slice m1 F.length l1) (.slice m2 T.length l2) (.slice m3 W.length l3)) := ⟨hy, ho⟩
  have hal : Below y1.heap.size y1 (y1.alloc (.cells #[.slice m1 F.length l1, .slice m2 T.length l2, .slice m3 W.length l3] 34)) := (Below.refl _ _).alloc (Nat.le_refl _) _
  have HAL : Hid (type_of% hal) := hal
  obtain ⟨r0, r1, r2⟩ := box3 (HR.out _ (btr hy hal)).1
  have z0 : (y1.alloc (.cells #[.slice m1 F.length l1, .slice m2 T.length l2, .slice m3 W.length l3] 34)).frozen? ⟨w.heap.size + 1, 0, none⟩ = false := by simp [World.frozen?, (HR.out _ (btr hy hal)).1]
  have z1 : (y1.alloc (.cells #[.slice m1 F.length l1, .slice m2 T.length l2, .slice m3 W.length l3] 34)).frozen? ⟨w.heap.size + 1, 1, none⟩ = false := by simp [World.frozen?, (HR.out _ (btr hy hal)).1]
  have z2 : (y1.alloc (.cells #[.slice m1 F.length l1, .slice m2 T.length l2, .slice m3 W.length l3] 34)).frozen? ⟨w.heap.size + 1, 2, none⟩ = false := by simp [World.frozen?, (HR.out _ (btr hy hal)).1]
  obtain ⟨b0, b1, b2⟩ := box3 (heap_new y1 (.cells #[.slice m1 F.length l1, .slice m2 T.length l2, .slice m3 W.length l3] 34))
  have rs := lt_of_get (HR.out _ (btr hy hal)).1
  have bs := lt_of_get (heap_new y1 (.cells #[.slice m1 F.length l1, .slice m2 T.length l2, .slice m3 W.length l3] 34))
  clear hy ho hal
  go_wp2_with fail
  generalize hY : y1.alloc (.cells #[.slice m1 F.length l1, .slice m2 T.length l2, .slice m3 W.length l3] 34) = y2 at *
  go_wp2
  refine bodyPost_ret (v := .agg #[.slice m1 F.length l1, .slice m2 T.length l2, .slice m3 W.length l3]) (by simp [results, Tryd.results17, go_sem, r0, r1, r2]) rfl ?_
  obtain ⟨hr, hb, hs⟩ := HR.out y2 (btr Y1.out.1 HAL.out)
  exact ⟨m1, l1, m2, l2, m3, l3, rfl, ((Y1.out.2.keep HAL.out).far hr (by decide) (fun g hg => ((heap_setCell_other _ _ _ _ hg).trans (heap_setCell_other _ _ _ _ hg)).trans (heap_setCell_other _ _ _ _ hg))).base hs, ((hb.setCell (p := ⟨w.heap.size + 1, 0, none⟩) (by simp) _).setCell (p := ⟨w.heap.size + 1, 1, none⟩) (by simp) _).setCell (p := ⟨w.heap.size + 1, 2, none⟩) (by simp) _⟩
end
end Go.Proofs.YtgfmalimnbgdeaaDoor
