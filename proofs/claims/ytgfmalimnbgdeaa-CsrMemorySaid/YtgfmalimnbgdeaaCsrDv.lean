/- viaductref05.Build: three rows that grow, side by side. viaductref05.Row at right arrays. viaductref05.Graph at right arrays: the list of arcs. viaductref05.DocGraph and DocRow, by what DocCheck tells. -/
import Derived.Test.YtgfmalimnbgdeaaIntRow
import Derived.Test.YtgfmalimnbgdeaaCsrOps
import Derived.Deep.AppendLies
import Derived.Deep.RegionLaw
import Derived.OwnWalk
import Derived.Test.YtgfmalimnbgdeaaCsrRo
import Derived.Test.YtgfmalimnbgdeaaCsrDc
namespace Go.Proofs.Ytgfmalimnbgdeaa
open Go.RowKit Go.Extern

theorem infoJ : (Try.prog.info? 3).map (fun i => (i.zero, i.size, i.bytes)) = some (some (.int .i64 0), 1, 8) := by kernel_rfl
/-- numbers as cells. -/
def iv (l : List Int) : List Value := l.map (Value.int .i64)
theorem iv_len (l : List Int) : (iv l).length = l.length * 1 := by simp [iv]
theorem iv_append (l r : List Int) : iv (l ++ r) = iv l ++ iv r := by simp [iv]
theorem iown_keep {w w' : World} {B n : Nat} {v : Value} {xs : List Value} (h : w.ownsRow B 3 1 v n xs) (hk : ∀ k, v.ownBlock = some k → w'.heap[k]? = w.heap[k]?) : w'.ownsRow B 3 1 v n xs := by
  obtain ⟨h1, h2⟩ := h
  refine ⟨h1, ?_⟩
  rcases h2 with h2 | ⟨g, cap, cur, e, hb, hh, r⟩
  · exact Or.inl h2
  · subst e
    exact Or.inr ⟨g, cap, cur, rfl, hb, (hk g rfl).trans hh, r⟩
theorem iown_not_box {w : World} {B n b : Nat} {v : Value} {xs : List Value} {c : Array Value} {T : TypeId} (h : w.ownsRow B 3 1 v n xs) (hb : w.heap[b]? = some (.cells c T)) (hT : T ≠ 3) : v.ownBlock ≠ some b := by
  rcases h.2 with ⟨rfl, _⟩ | ⟨g, cap, cur, rfl, _, hg, _⟩
  · intro e; cases e
  · intro e
    have e' : g = b := Option.some.inj e
    subst e'
    rw [hb] at hg
    injection hg with hg
    injection hg with h1 h2
    exact hT h2
theorem iown_slice {w : World} {B n : Nat} {v : Value} {xs : List Value} (h : w.ownsRow B 3 1 v n xs) : ∃ ao cap, v = .slice ao n cap := by
  rcases h.2 with ⟨h, h'⟩ | ⟨g, cap, cur, h, _⟩
  · exact ⟨none, 0, by rw [h']; exact h⟩
  · exact ⟨_, cap, h⟩
theorem ints_of_iown {w : World} {B : Nat} {v : Value} {l : List Int} (h : w.ownsRow B 3 1 v l.length (iv l)) : HasInts w v l := by
  rcases h.2 with ⟨e, h0⟩ | ⟨g, cap, cur, rfl, hg, hh, _⟩
  · have : l = [] := List.eq_nil_of_length_eq_zero h0
    subst this
    exact ⟨none, 0, e, fun j p hj => by simp at hj⟩
  · refine ⟨_, cap, rfl, fun j a hj => ⟨g, 0, rfl, lt_of_get hh, ?_⟩⟩
    have hlt := (List.getElem?_eq_some_iff.1 hj).1
    rw [Nat.zero_add]
    exact (h.cellAt j (by omega)).trans (by simp [iv, hj])
/-- two rows that share no block. -/
def Apart (a b : Value) : Prop := ∀ k, a.ownBlock = some k → b.ownBlock ≠ some k
theorem Apart.symm {a b : Value} (h : Apart a b) : Apart b a := fun k hk e => h k e hk
/-- three rows that grow, the box that names them, and the boxes of old. -/
structure RB (w : World) (c1 c2 : Value) (F T V : List Int) (fv tv vv : Value) (wr : World) : Prop where
  f : wr.ownsRow (w.heap.size + 1 + 1) 3 1 fv F.length (iv F)
  t : wr.ownsRow (w.heap.size + 1 + 1) 3 1 tv T.length (iv T)
  v : wr.ownsRow (w.heap.size + 1 + 1) 3 1 vv V.length (iv V)
  ft : Apart fv tv
  fx : Apart fv vv
  tx : Apart tv vv
  c : wr.heap[w.heap.size + 1 + 1 + 1]? = some (.cells #[fv, tv, vv] 47)
  g : wr.heap[w.heap.size]? = some (.cells #[c1, c2] 24)
  r : wr.heap[w.heap.size + 1]? = some (.cells #[.slice none 0 0, .slice none 0 0, .slice none 0 0] 47)
  below : Below w.heap.size w wr
theorem RB.keep {w wr wn : World} {c1 c2 : Value} {F T V : List Int} {fv tv vv : Value} (h : RB w c1 c2 F T V fv tv vv wr) (hb : Below wr.heap.size wr wn) : RB w c1 c2 F T V fv tv vv wn :=
  ⟨iown_keep h.f fun k hk => hb.block _ (h.f.lt k hk).2, iown_keep h.t fun k hk => hb.block _ (h.t.lt k hk).2, iown_keep h.v fun k hk => hb.block _ (h.v.lt k hk).2, h.ft, h.fx, h.tx, (hb.block _ (lt_of_get h.c)).trans h.c, (hb.block _ (lt_of_get h.g)).trans h.g, (hb.block _ (lt_of_get h.r)).trans h.r, h.below.trans (hb.mono h.below.size)⟩
/-- a number behind the row F. -/
theorem RB.appF {w wr wx w1 : World} {c1 c2 : Value} {F T V : List Int} {fv tv vv : Value} {x : Int} {g cap H : Nat} (h0 : RB w c1 c2 F T V fv tv vv wr) (hx : Below wr.heap.size wr wx) (hown : w1.ownsRow (w.heap.size + 1 + 1) 3 1 (.slice (some ⟨g, 0, none⟩) (F.length + 1) cap) (F.length + 1) (iv F ++ [.int .i64 x])) (hgr : wx.grownBy w1 fv.ownBlock) (hat : fv.ownBlock = some g ∨ g = H) (hH : wx.heap.size = H) :
    RB w c1 c2 (F ++ [x]) T V (.slice (some ⟨g, 0, none⟩) (F.length + 1) cap) tv vv (w1.setCell ⟨w.heap.size + 1 + 1 + 1, 0, none⟩ (.slice (some ⟨g, 0, none⟩) (F.length + 1) cap)) := by
  have h := h0.keep hx
  have nb : fv.ownBlock ≠ some (w.heap.size + 1 + 1 + 1) := iown_not_box h.f h.c (by decide)
  have hc1 := (hgr.block _ (lt_of_get h.c) (fun e => nb e.symm)).trans h.c
  have hgb := (hgr.block _ (lt_of_get h.g) (fun e => by have := (h.f.lt _ e.symm).1; omega)).trans h.g
  have hrb := (hgr.block _ (lt_of_get h.r) (fun e => by have := (h.f.lt _ e.symm).1; omega)).trans h.r
  have ng : (Value.slice (some ⟨g, 0, none⟩) (F.length + 1) cap).ownBlock ≠ some (w.heap.size + 1 + 1 + 1) := iown_not_box hown hc1 (by decide)
  have keepO : ∀ {u : Value} {n : Nat} {xs : List Value}, wx.ownsRow (w.heap.size + 1 + 1) 3 1 u n xs → Apart u fv → (w1.setCell ⟨w.heap.size + 1 + 1 + 1, 0, none⟩ (.slice (some ⟨g, 0, none⟩) (F.length + 1) cap)).ownsRow (w.heap.size + 1 + 1) 3 1 u n xs := fun {u n xs} hu ha => iown_keep hu fun k hk => by
    have hkc : k ≠ w.heap.size + 1 + 1 + 1 := fun e => iown_not_box hu h.c (by decide) (by rw [hk, e])
    rw [heap_setCell_other _ _ _ _ hkc]
    exact hgr.block k (hu.lt k hk).2 (fun e => ha k hk e.symm)
  have apartO : ∀ {u : Value} {n : Nat} {xs : List Value}, wx.ownsRow (w.heap.size + 1 + 1) 3 1 u n xs → Apart u fv → Apart u (.slice (some ⟨g, 0, none⟩) (F.length + 1) cap) := fun {u n xs} hu ha k hk e => by
    have e' : g = k := Option.some.inj e
    subst e'
    rcases hat with h' | h'
    · exact ha g hk h'
    · have := (hu.lt g hk).2
      omega
  refine ⟨(by rw [List.length_append, iv_append]; exact iown_keep hown fun k hk => heap_setCell_other _ _ _ _ (fun e => ng (by rw [hk, e]))), keepO h.t h.ft.symm, keepO h.v h.fx.symm, (apartO h.t h.ft.symm).symm, (apartO h.v h.fx.symm).symm, h.tx, ?_, ?_, ?_, ?_⟩
  · exact (Go.heap_setCell_same _ _ 0 _ _ _ hc1).trans rfl
  · exact (heap_setCell_other _ _ _ _ (by show w.heap.size ≠ w.heap.size + 1 + 1 + 1; omega)).trans hgb
  · exact (heap_setCell_other _ _ _ _ (by show w.heap.size + 1 ≠ w.heap.size + 1 + 1 + 1; omega)).trans hrb
  · refine Below.setCell (p := ⟨w.heap.size + 1 + 1 + 1, 0, none⟩) ?_ (by show w.heap.size ≤ w.heap.size + 1 + 1 + 1; omega) _
    exact h.below.trans ⟨hgr.os, hgr.tape, hgr.output, hgr.size, fun j hj => hgr.block j (Nat.lt_of_lt_of_le hj h.below.size) (fun e => by have := (h.f.lt _ e.symm).1; omega)⟩
/-- a number behind the row T. -/
theorem RB.appT {w wr wx w1 : World} {c1 c2 : Value} {F T V : List Int} {fv tv vv : Value} {x : Int} {g cap H : Nat} (h0 : RB w c1 c2 F T V fv tv vv wr) (hx : Below wr.heap.size wr wx) (hown : w1.ownsRow (w.heap.size + 1 + 1) 3 1 (.slice (some ⟨g, 0, none⟩) (T.length + 1) cap) (T.length + 1) (iv T ++ [.int .i64 x])) (hgr : wx.grownBy w1 tv.ownBlock) (hat : tv.ownBlock = some g ∨ g = H) (hH : wx.heap.size = H) :
    RB w c1 c2 F (T ++ [x]) V fv (.slice (some ⟨g, 0, none⟩) (T.length + 1) cap) vv (w1.setCell ⟨w.heap.size + 1 + 1 + 1, 1, none⟩ (.slice (some ⟨g, 0, none⟩) (T.length + 1) cap)) := by
  have h := h0.keep hx
  have nb : tv.ownBlock ≠ some (w.heap.size + 1 + 1 + 1) := iown_not_box h.t h.c (by decide)
  have hc1 := (hgr.block _ (lt_of_get h.c) (fun e => nb e.symm)).trans h.c
  have hgb := (hgr.block _ (lt_of_get h.g) (fun e => by have := (h.t.lt _ e.symm).1; omega)).trans h.g
  have hrb := (hgr.block _ (lt_of_get h.r) (fun e => by have := (h.t.lt _ e.symm).1; omega)).trans h.r
  have ng : (Value.slice (some ⟨g, 0, none⟩) (T.length + 1) cap).ownBlock ≠ some (w.heap.size + 1 + 1 + 1) := iown_not_box hown hc1 (by decide)
  have keepO : ∀ {u : Value} {n : Nat} {xs : List Value}, wx.ownsRow (w.heap.size + 1 + 1) 3 1 u n xs → Apart u tv → (w1.setCell ⟨w.heap.size + 1 + 1 + 1, 1, none⟩ (.slice (some ⟨g, 0, none⟩) (T.length + 1) cap)).ownsRow (w.heap.size + 1 + 1) 3 1 u n xs := fun {u n xs} hu ha => iown_keep hu fun k hk => by
    have hkc : k ≠ w.heap.size + 1 + 1 + 1 := fun e => iown_not_box hu h.c (by decide) (by rw [hk, e])
    rw [heap_setCell_other _ _ _ _ hkc]
    exact hgr.block k (hu.lt k hk).2 (fun e => ha k hk e.symm)
  have apartO : ∀ {u : Value} {n : Nat} {xs : List Value}, wx.ownsRow (w.heap.size + 1 + 1) 3 1 u n xs → Apart u tv → Apart u (.slice (some ⟨g, 0, none⟩) (T.length + 1) cap) := fun {u n xs} hu ha k hk e => by
    have e' : g = k := Option.some.inj e
    subst e'
    rcases hat with h' | h'
    · exact ha g hk h'
    · have := (hu.lt g hk).2
      omega
  refine ⟨keepO h.f h.ft, (by rw [List.length_append, iv_append]; exact iown_keep hown fun k hk => heap_setCell_other _ _ _ _ (fun e => ng (by rw [hk, e]))), keepO h.v h.tx.symm, apartO h.f h.ft, h.fx, (apartO h.v h.tx.symm).symm, ?_, ?_, ?_, ?_⟩
  · exact (Go.heap_setCell_same _ _ 1 _ _ _ hc1).trans rfl
  · exact (heap_setCell_other _ _ _ _ (by show w.heap.size ≠ w.heap.size + 1 + 1 + 1; omega)).trans hgb
  · exact (heap_setCell_other _ _ _ _ (by show w.heap.size + 1 ≠ w.heap.size + 1 + 1 + 1; omega)).trans hrb
  · refine Below.setCell (p := ⟨w.heap.size + 1 + 1 + 1, 1, none⟩) ?_ (by show w.heap.size ≤ w.heap.size + 1 + 1 + 1; omega) _
    exact h.below.trans ⟨hgr.os, hgr.tape, hgr.output, hgr.size, fun j hj => hgr.block j (Nat.lt_of_lt_of_le hj h.below.size) (fun e => by have := (h.t.lt _ e.symm).1; omega)⟩
/-- a number behind the row V. -/
theorem RB.appV {w wr wx w1 : World} {c1 c2 : Value} {F T V : List Int} {fv tv vv : Value} {x : Int} {g cap H : Nat} (h0 : RB w c1 c2 F T V fv tv vv wr) (hx : Below wr.heap.size wr wx) (hown : w1.ownsRow (w.heap.size + 1 + 1) 3 1 (.slice (some ⟨g, 0, none⟩) (V.length + 1) cap) (V.length + 1) (iv V ++ [.int .i64 x])) (hgr : wx.grownBy w1 vv.ownBlock) (hat : vv.ownBlock = some g ∨ g = H) (hH : wx.heap.size = H) :
    RB w c1 c2 F T (V ++ [x]) fv tv (.slice (some ⟨g, 0, none⟩) (V.length + 1) cap) (w1.setCell ⟨w.heap.size + 1 + 1 + 1, 2, none⟩ (.slice (some ⟨g, 0, none⟩) (V.length + 1) cap)) := by
  have h := h0.keep hx
  have nb : vv.ownBlock ≠ some (w.heap.size + 1 + 1 + 1) := iown_not_box h.v h.c (by decide)
  have hc1 := (hgr.block _ (lt_of_get h.c) (fun e => nb e.symm)).trans h.c
  have hgb := (hgr.block _ (lt_of_get h.g) (fun e => by have := (h.v.lt _ e.symm).1; omega)).trans h.g
  have hrb := (hgr.block _ (lt_of_get h.r) (fun e => by have := (h.v.lt _ e.symm).1; omega)).trans h.r
  have ng : (Value.slice (some ⟨g, 0, none⟩) (V.length + 1) cap).ownBlock ≠ some (w.heap.size + 1 + 1 + 1) := iown_not_box hown hc1 (by decide)
  have keepO : ∀ {u : Value} {n : Nat} {xs : List Value}, wx.ownsRow (w.heap.size + 1 + 1) 3 1 u n xs → Apart u vv → (w1.setCell ⟨w.heap.size + 1 + 1 + 1, 2, none⟩ (.slice (some ⟨g, 0, none⟩) (V.length + 1) cap)).ownsRow (w.heap.size + 1 + 1) 3 1 u n xs := fun {u n xs} hu ha => iown_keep hu fun k hk => by
    have hkc : k ≠ w.heap.size + 1 + 1 + 1 := fun e => iown_not_box hu h.c (by decide) (by rw [hk, e])
    rw [heap_setCell_other _ _ _ _ hkc]
    exact hgr.block k (hu.lt k hk).2 (fun e => ha k hk e.symm)
  have apartO : ∀ {u : Value} {n : Nat} {xs : List Value}, wx.ownsRow (w.heap.size + 1 + 1) 3 1 u n xs → Apart u vv → Apart u (.slice (some ⟨g, 0, none⟩) (V.length + 1) cap) := fun {u n xs} hu ha k hk e => by
    have e' : g = k := Option.some.inj e
    subst e'
    rcases hat with h' | h'
    · exact ha g hk h'
    · have := (hu.lt g hk).2
      omega
  refine ⟨keepO h.f h.fx, keepO h.t h.tx, (by rw [List.length_append, iv_append]; exact iown_keep hown fun k hk => heap_setCell_other _ _ _ _ (fun e => ng (by rw [hk, e]))), h.ft, apartO h.f h.fx, apartO h.t h.tx, ?_, ?_, ?_, ?_⟩
  · exact (Go.heap_setCell_same _ _ 2 _ _ _ hc1).trans rfl
  · exact (heap_setCell_other _ _ _ _ (by show w.heap.size ≠ w.heap.size + 1 + 1 + 1; omega)).trans hgb
  · exact (heap_setCell_other _ _ _ _ (by show w.heap.size + 1 ≠ w.heap.size + 1 + 1 + 1; omega)).trans hrb
  · refine Below.setCell (p := ⟨w.heap.size + 1 + 1 + 1, 2, none⟩) ?_ (by show w.heap.size ≤ w.heap.size + 1 + 1 + 1; omega) _
    exact h.below.trans ⟨hgr.os, hgr.tape, hgr.output, hgr.size, fun j hj => hgr.block j (Nat.lt_of_lt_of_le hj h.below.size) (fun e => by have := (h.v.lt _ e.symm).1; omega)⟩
end Go.Proofs.Ytgfmalimnbgdeaa

namespace Go.Proofs.Ytgfmalimnbgdeaa
open Go.RowKit Go.Extern

attribute [local go_sem] Oper.semAt_some

set_option maxRecDepth 100000 in
set_option maxHeartbeats 4000000 in
theorem rRow_calls (n : Nat) (zs : List (Int × Int × Int)) (fo to wo : Option Addr) (fc tc wc : Nat) (w : World) (hz : Fine n zs) (h : CsrIn w n zs fo to wo fc tc wc) (v : Nat) (hv : v < n) :
    Calls Try.prog 54 #[.agg #[.slice fo (n + 1) fc, .slice to zs.length tc, .slice wo zs.length wc], .int .i64 v] w fun e w' => ∃ lo lc, e = .returned (.slice lo (theRow zs v).length lc) ∧ w'.ownsRow w.heap.size 46 3 (.slice lo (theRow zs v).length lc) (theRow zs v).length (flatC (theRow zs v)) ∧ Below w.heap.size w w' := by
  unfold theRow
  obtain ⟨fb, fof, rfl, hl, hc⟩ := h.first
  have hN := hz.few
  have hM := hz.short
  obtain ⟨W0, hW0⟩ : ∃ W0, w.alloc (.cells #[.slice (some ⟨fb, fof, none⟩) (n + 1) fc, .slice to zs.length tc, .slice wo zs.length wc] 47) = W0 := ⟨_, rfl⟩
  have HW0 : Hid (w.alloc (.cells #[.slice (some ⟨fb, fof, none⟩) (n + 1) fc, .slice to zs.length tc, .slice wo zs.length wc] 47) = W0) := hW0
  have hB0 : Below w.heap.size w W0 := by rw [← hW0]; exact (Below.refl _ w).alloc (Nat.le_refl _) _
  have HBX : Hid (W0.heap[w.heap.size]? = some (.cells #[.slice (some ⟨fb, fof, none⟩) (n + 1) fc, .slice to zs.length tc, .slice wo zs.length wc] 47)) := by rw [← hW0]; exact heap_new _ _
  have HB : Hid (Below w.heap.size w W0) := hB0
  have HK : Hid (∀ wx, Below w.heap.size w wx → wx.heap[w.heap.size]? = some (.cells #[.slice (some ⟨fb, fof, none⟩) (n + 1) fc, .slice to zs.length tc, .slice wo zs.length wc] 47) → (wx.cell? ⟨w.heap.size, 0, none⟩ = some (.slice (some ⟨fb, fof, none⟩) (n + 1) fc) ∧ wx.cell? ⟨w.heap.size, 1, none⟩ = some (.slice to zs.length tc) ∧ wx.cell? ⟨w.heap.size, 2, none⟩ = some (.slice wo zs.length wc)) ∧ w.heap.size < wx.heap.size ∧ fb < wx.heap.size ∧ (∀ v, v ≤ n → wx.cell? ⟨fb, fof + v, none⟩ = some (.int .i64 (firstAt zs v)))) := fun wx hx hg =>
    ⟨box3 hg, lt_of_get hg, Nat.lt_of_lt_of_le hl hx.size, fun v hv => (hx.cell (p := ⟨fb, _, none⟩) hl).trans (hc v hv)⟩
  have HAR : Hid (∀ (i : Nat) (a : Int × Int × Int), zs[i]? = some a → ∃ tb tof wb wof, to = some ⟨tb, tof, none⟩ ∧ wo = some ⟨wb, wof, none⟩ ∧ ∀ wx, Below w.heap.size w wx → tb < wx.heap.size ∧ wb < wx.heap.size ∧ wx.cell? ⟨tb, tof + i, none⟩ = some (.int .i64 a.2.1) ∧ wx.cell? ⟨wb, wof + i, none⟩ = some (.int .i64 a.2.2)) := fun i a ha => by
    obtain ⟨tb, tof, wb, wof, e1, e2, ht, hw, hA⟩ := h.arc (by have := (List.getElem?_eq_some_iff.1 ha).1; omega)
    exact ⟨tb, tof, wb, wof, e1, e2, fun wx hx => ⟨Nat.lt_of_lt_of_le ht hx.size, Nat.lt_of_lt_of_le hw hx.size, (hx.cell (p := ⟨tb, _, none⟩) ht).trans (hA i a ha).1, (hx.cell (p := ⟨wb, _, none⟩) hw).trans (hA i a ha).2⟩⟩
  have HZ : Hid (Fine n zs) := hz
  have hxy : firstAt zs v ≤ firstAt zs (v + 1) := firstAt_mono zs (by omega)
  have hyl : firstAt zs (v + 1) ≤ zs.length := firstAt_le _ _
  have HFX : Hid (rowOf zs v (firstAt zs v) = []) := rowOf_none zs v
  obtain ⟨x, hx⟩ : ∃ x, firstAt zs v = x := ⟨_, rfl⟩
  obtain ⟨y, hy⟩ : ∃ y, firstAt zs (v + 1) = y := ⟨_, rfl⟩
  have HX : Hid (firstAt zs v = x ∧ firstAt zs (v + 1) = y) := ⟨hx, hy⟩
  rw [hx, hy] at hxy
  rw [hy] at hyl
  rw [hy]
  rw [hx] at HFX
  have e1 : (v : Int) < (n : Int) + 1 := by omega
  have e2 : (v : Int) + 1 < (n : Int) + 1 := by omega
  have e3 : (0 : Int) ≤ (v : Int) := by omega
  have e4 : (0 : Int) ≤ (v : Int) + 1 := by omega
  have e5 : IntKind.i64.wrap ((v : Int) + 1) = (v : Int) + 1 := by rw [IntKind.wrap_i64] <;> omega
  have q0 : w.cell? ⟨fb, fof + v, none⟩ = some (.int .i64 x) := by rw [← hx]; exact hc v (by omega)
  have ql : fb < w.heap.size := hl
  clear hB0 hW0 h hc hz hl hx hy
  go_enter Try.func54, Try.ntmps54
  go_wp2_with fail
  rw [HW0.out]
  go_loopw [5, 6] (fun av iv wr => ∃ (i : Nat) (so : Option Addr) (sc : Nat), x ≤ i ∧ i ≤ y ∧ iv = .int .i64 i ∧ av = .slice so (rowOf zs v i).length sc ∧ wr.ownsRow w.heap.size 46 3 (.slice so (rowOf zs v i).length sc) (rowOf zs v i).length (flatC (rowOf zs v i)) ∧ Below w.heap.size w wr ∧ wr.heap[w.heap.size]? = some (.cells #[.slice (some ⟨fb, fof, none⟩) (n + 1) fc, .slice to zs.length tc, .slice wo zs.length wc] 47)) (fun _ iv _ => y - (intOf iv).toNat)
  case atStart =>
    have h := HFX.out
    refine ⟨x, none, 0, Nat.le_refl _, hxy, rfl, ?_, ?_, HB.out, HBX.out⟩
    · rw [h]; rfl
    · rw [h]; exact World.ownsRow_nil _ _ _ _
  case round =>
    obtain ⟨i, so, sc, hi1, hi2, rfl, rfl, hO, hb, hbx⟩ := hrel
    have HOW : Hid (type_of% hO) := hO
    have HBW : Hid (Below w.heap.size w wr) := hb
    have HBB : Hid (type_of% hbx) := hbx
    obtain ⟨⟨c0, c1, c2⟩, cs, cf, hc⟩ := HK.out wr hb hbx
    have q1 := hc (v + 1) (by omega)
    rw [HX.out.2] at q1
    have HLL : Hid ((rowOf zs v i).length ≤ 524288) := by
      show _ ≤ _
      have := rowOf_len (zs := zs) v i
      omega
    clear hO hb hbx hc q0 ql
    by_cases hiy : i < y
    · obtain ⟨a, ha⟩ : ∃ a, zs[i]? = some a := ⟨zs[i], List.getElem?_eq_getElem (by omega)⟩
      obtain ⟨tb, tof, wb, wof, rfl, rfl, hA⟩ := HAR.out i a ha
      obtain ⟨lt, lw, t0, w0⟩ := hA wr HBW.out
      have HR : Hid (a.1 = (v : Int) ∧ rowOf zs v (i + 1) = rowOf zs v i ++ [a]) := ⟨HZ.out.row ha (by rw [HX.out.1]; exact hi1) (by rw [HX.out.2]; exact hiy), rowOf_next ha (by rw [HX.out.1]; exact hi1)⟩
      have i1 : (i : Int) < (zs.length : Int) := by omega
      have i2 : (0 : Int) ≤ (i : Int) := by omega
      obtain ⟨a0, a1, a2⟩ := a
      have hR := HR.out
      obtain ⟨hr0, hr1⟩ := hR
      simp only at hr0 t0 w0
      subst hr0
      have HR1 : Hid (rowOf zs v (i + 1) = rowOf zs v i ++ [((v : Int), a1, a2)]) := hr1
      clear HR hr1 hA ha
      obtain ⟨L, hL⟩ : ∃ L, rowOf zs v i = L := ⟨_, rfl⟩
      have HRL : Hid (rowOf zs v (i + 1) = L ++ [((v : Int), a1, a2)]) := by show _ = _; rw [HR1.out, ← hL]
      rw [hL] at HOW HLL ⊢
      clear hL HR1
      go_wp2_with fail
      go_region_law (first
        | (refine step_append_arcs rfl _ _ rfl w.heap.size (.slice so L.length sc) L rfl (rowC_keep HOW.out ((Below.refl _ wr).drew.alloc (Nat.le_refl _) _)) ⟨wr.heap.size, 0, none⟩ 1 [((v : Int), a1, a2)] rfl (arcs_one wr.drew ((v : Int), a1, a2) 46) (by have := HLL.out; simp only [List.length_cons, List.length_nil]; omega) (by have := HBW.out.size; simp; omega) ?_; intro v3 w3 hown3 hgr3; have HO3 : Hid (type_of% hown3) := hown3; have HG3 : Hid (type_of% hgr3) := hgr3; clear hown3 hgr3))
      all_goals
        obtain ⟨po, pc, hv3⟩ := rowC_slice HO3.out
        subst hv3
        have HN : Hid (w3.ownsRow w.heap.size 46 3 (.slice po (rowOf zs v (i + 1)).length pc) (rowOf zs v (i + 1)).length (flatC (rowOf zs v (i + 1))) ∧ Below w.heap.size w w3 ∧ w3.heap[w.heap.size]? = some (.cells #[.slice (some ⟨fb, fof, none⟩) (n + 1) fc, .slice (some ⟨tb, tof, none⟩) zs.length tc, .slice (some ⟨wb, wof, none⟩) zs.length wc] 47)) := by
          have hal : Below wr.heap.size wr (wr.drew.alloc (.cells #[.int .i64 v, .int .i64 a1, .int .i64 a2] 46)) := (Below.refl _ wr).drew.alloc (Nat.le_refl _) _
          have hbx2 := (hal.block _ (lt_of_get HBB.out)).trans HBB.out
          refine ⟨by rw [HRL.out]; exact HO3.out, below_grown (HBW.out.trans (hal.mono HBW.out.size)) (rowC_keep HOW.out hal) HG3.out (Nat.le_trans HBW.out.size hal.size), ?_⟩
          exact (HG3.out.block _ (lt_of_get hbx2) (own_not_box (rowC_keep HOW.out hal) hbx2 (by decide))).trans hbx2
        have HLE : Hid ((rowOf zs v (i + 1)).length = L.length + 1) := by show _ = _; rw [HRL.out, List.length_append]; rfl
        clear HO3 HG3
        go_wp2
        go_roundw
        case rel => exact ⟨i + 1, po, pc, by omega, by omega, by go_num, by rw [HLE.out], HN.out.1, HN.out.2.1, HN.out.2.2⟩
        case measure => simp [intOf]; omega
    · obtain rfl : i = y := by omega
      go_wp2
      go_ret
      exact ⟨_, _, rfl, HOW.out, HBW.out⟩

end Go.Proofs.Ytgfmalimnbgdeaa

namespace Go.Proofs.Ytgfmalimnbgdeaa
open Go.RowKit Go.Extern

attribute [local go_sem] Oper.semAt_some

theorem own_cap {w : World} {base n c : Nat} {o : Option Addr} {xs : List Value} (h : w.ownsRow base 46 3 (.slice o n c) n xs) : o = none → c = 0 := by
  rcases h.2 with ⟨h, _⟩ | ⟨g, cap, cur, h, _⟩
  · injection h with _ _ h
    exact fun _ => h
  · injection h with h
    intro e
    rw [e] at h
    cases h
/-- a list of arcs, nil or not, behind a row of one's own, as one step of a region that draws. -/
theorem step_append_any {w : World} {ops : Array Oper} {o : Oper} {a : Act} {K : Act → World → Prop} {Q : Exit → Act → World → Prop} {E : Prop} (hg : o.guard = none) (s x : Operand)
    (ho : o.op = .call { callee := .builtin .append, args := #[s, x], argTypes := #[22, 22] }) (base : Nat) (v : Value) (L : List (Int × Int × Int)) (hs : a.eval s = v) (hown : w.ownsRow base 46 3 v L.length (flatC L))
    (ao : Option Addr) (ac : Nat) (xs : List (Int × Int × Int)) (hx : a.eval x = .slice ao xs.length ac) (hl : HasArcs w (.slice ao xs.length ac) xs) (hno : ao = none → ac = 0) (hlen : L.length + xs.length ≤ 1048576) (hbase : base ≤ w.heap.size)
    (h : ∀ v' w', w'.ownsRow base 46 3 v' (L ++ xs).length (flatC (L ++ xs)) → w.grownBy w' v.ownBlock → K (a.put o.dst v') w') :
    if Region.wanted o (yielded ops a.tmps) = true then Oper.wp Try.prog o a w K Q else E := by
  cases ao with
  | some ad => exact step_append_arcs hg s x ho base v L hs hown ad ac xs hx hl hlen hbase h
  | none =>
    have hc := hno rfl
    subst hc
    have hx0 : xs = [] := by
      cases xs with
      | nil => rfl
      | cons q r => obtain ⟨b, off, e, _⟩ := hl.at (k := 0) (a := q) rfl; cases e
    subst hx0
    have hx' : a.eval x = .slice none 0 0 := hx
    have hw : Region.wanted o (yielded ops a.tmps) = true := by simp [Region.wanted, hg]
    rw [if_pos hw]
    obtain ⟨i0, hi, hz0, hz1, hz2⟩ : ∃ i, Try.prog.info? 46 = some i ∧ i.zero = some (.agg #[.int .i64 0, .int .i64 0, .int .i64 0]) ∧ i.size = 3 ∧ i.bytes = 24 := by
      have h := Try.infoC
      cases hi : Try.prog.info? 46 with
      | none => rw [hi] at h; cases h
      | some i => rw [hi] at h; simp at h; exact ⟨i, rfl, h.1, h.2.1, h.2.2⟩
    have hrun := run_append_owned_none (P := Try.prog) (w := w) base 22 o.type 46 i0 3 Try.underlying22 hi v L.length (flatC L) hown
    unfold Oper.wp
    simp [execOp, ho, resolve, invoke, builtin, hs, hx', hrun, Result.andThen]
    exact h v w (by simpa using hown) ⟨rfl, rfl, rfl, Nat.le_refl _, fun _ _ _ => rfl⟩
/-- the boxes and the row of a call of Graph. -/
structure RG (w : World) (c0 c1 c2 : Value) (n : Nat) (L : List (Int × Int × Int)) (so : Option Addr) (sc : Nat) (wr : World) : Prop where
  below : Below w.heap.size w wr
  box : wr.heap[w.heap.size]? = some (.cells #[c0, c1, c2] 47)
  res : wr.heap[w.heap.size + 1]? = some (.cells #[.int .i64 0, .slice none 0 0] 24)
  g : wr.heap[w.heap.size + 1 + 1]? = some (.cells #[.int .i64 n, .slice so L.length sc] 24)
  own : wr.ownsRow w.heap.size 46 3 (.slice so L.length sc) L.length (flatC L)
theorem RG.keep {w wr wx : World} {c0 c1 c2 : Value} {n : Nat} {L : List (Int × Int × Int)} {so : Option Addr} {sc : Nat} (h : RG w c0 c1 c2 n L so sc wr) (hb : Below wr.heap.size wr wx) : RG w c0 c1 c2 n L so sc wx :=
  ⟨btr h.below hb, (hb.block _ (lt_of_get h.box)).trans h.box, (hb.block _ (lt_of_get h.res)).trans h.res, (hb.block _ (lt_of_get h.g)).trans h.g, rowC_keep h.own hb⟩
theorem RG.put {w wr wx : World} {c0 c1 c2 : Value} {n : Nat} {L M : List (Int × Int × Int)} {so po : Option Addr} {sc pc : Nat} (h : RG w c0 c1 c2 n L so sc wr) (hown : wx.ownsRow w.heap.size 46 3 (.slice po M.length pc) M.length (flatC M)) (hgr : wr.grownBy wx (Value.slice so L.length sc).ownBlock) :
    (wx.heap[w.heap.size + 1 + 1]? = some (.cells #[.int .i64 n, .slice so L.length sc] 24) ∧ wx.heap[w.heap.size]? = some (.cells #[c0, c1, c2] 47)) ∧ RG w c0 c1 c2 n M po pc (wx.setCell ⟨w.heap.size + 1 + 1, 1, none⟩ (.slice po M.length pc)) := by
  have g1 := (hgr.block _ (lt_of_get h.box) (own_not_box h.own h.box (by decide))).trans h.box
  have g2 := (hgr.block _ (lt_of_get h.res) (own_not_box h.own h.res (by decide))).trans h.res
  have g3 := (hgr.block _ (lt_of_get h.g) (own_not_box h.own h.g (by decide))).trans h.g
  refine ⟨⟨g3, g1⟩, ?_, ?_, ?_, ?_, ?_⟩
  · exact (below_grown h.below h.own hgr h.below.size).setCell (p := ⟨w.heap.size + 1 + 1, 1, none⟩) (by show w.heap.size ≤ w.heap.size + 1 + 1; omega) _
  · exact (heap_setCell_other _ _ _ _ (by show w.heap.size ≠ w.heap.size + 1 + 1; omega)).trans g1
  · exact (heap_setCell_other _ _ _ _ (by show w.heap.size + 1 ≠ w.heap.size + 1 + 1; omega)).trans g2
  · exact (Go.heap_setCell_same _ _ 1 _ _ _ g3).trans rfl
  · exact own_far hown g3 (by decide) (fun g hg => heap_setCell_other _ _ _ _ hg) (Nat.le_refl _)

set_option maxRecDepth 100000 in
set_option maxHeartbeats 4000000 in
theorem rGraph_calls (n : Nat) (zs : List (Int × Int × Int)) (fo to wo : Option Addr) (fc tc wc : Nat) (w : World) (hz : Fine n zs) (h : CsrIn w n zs fo to wo fc tc wc) :
    Calls Try.prog 43 #[.agg #[.slice fo (n + 1) fc, .slice to zs.length tc, .slice wo zs.length wc]] w fun e w' => ∃ lo lc, e = .returned (.agg #[.int .i64 n, .slice lo zs.length lc]) ∧ w'.ownsRow w.heap.size 46 3 (.slice lo zs.length lc) zs.length (flatC zs) ∧ Below w.heap.size w w' := by
  have hN := hz.few
  have hM := hz.short
  have HRW : Hid (∀ wx, Below w.heap.size w wx → ∀ v : Nat, v < n → Calls Try.prog 54 #[.agg #[.slice fo (n + 1) fc, .slice to zs.length tc, .slice wo zs.length wc], .int .i64 v] wx fun e w' => ∃ lo lc, e = .returned (.slice lo (theRow zs v).length lc) ∧ w'.ownsRow wx.heap.size 46 3 (.slice lo (theRow zs v).length lc) (theRow zs v).length (flatC (theRow zs v)) ∧ Below wx.heap.size wx w') := fun wx hx v hv => rRow_calls n zs fo to wo fc tc wc wx hz (h.keep hx) v hv
  have HZE : Hid (zs.take (firstAt zs 0) = [] ∧ zs.take (firstAt zs n) = zs) := ⟨by rw [hz.zero]; rfl, by rw [hz.top, List.take_length]⟩
  have hw1 : IntKind.i64.wrap (((n + 1 : Nat) : Int) - 1) = (n : Int) := by rw [IntKind.wrap_i64] <;> omega
  have HS : Hid (RG w (.slice fo (n + 1) fc) (.slice to zs.length tc) (.slice wo zs.length wc) n [] none 0 (((w.alloc (.cells #[.slice fo (n + 1) fc, .slice to zs.length tc, .slice wo zs.length wc] 47)).alloc (.cells #[.int .i64 0, .slice none 0 0] 24)).alloc (.cells #[.int .i64 n, .slice none 0 0] 24))) := by
    have hh : ∀ k, (((w.alloc (.cells #[.slice fo (n + 1) fc, .slice to zs.length tc, .slice wo zs.length wc] 47)).alloc (.cells #[.int .i64 0, .slice none 0 0] 24)).alloc (.cells #[.int .i64 n, .slice none 0 0] 24)).heap[k]? = if k = w.heap.size + 1 + 1 then some (.cells #[.int .i64 n, .slice none 0 0] 24) else if k = w.heap.size + 1 then some (.cells #[.int .i64 0, .slice none 0 0] 24) else if k = w.heap.size then some (.cells #[.slice fo (n + 1) fc, .slice to zs.length tc, .slice wo zs.length wc] 47) else w.heap[k]? := fun k => by
      show (((w.heap.push _).push _).push _)[k]? = _
      rw [Array.getElem?_push, Array.getElem?_push, Array.getElem?_push]
      simp
    refine ⟨(((Below.refl _ w).alloc (Nat.le_refl _) _).alloc (by simp) _).alloc (by simp <;> omega) _, ?_, ?_, ?_, World.ownsRow_nil _ _ _ _⟩
    · rw [hh, if_neg (by omega), if_neg (by omega), if_pos rfl]
    · rw [hh, if_neg (by omega), if_pos rfl]
    · rw [hh, if_pos rfl]; rfl
  clear hz h
  go_enter Try.func43, Try.ntmps43
  go_wp2_with fail
  generalize (((w.alloc (.cells #[.slice fo (n + 1) fc, .slice to zs.length tc, .slice wo zs.length wc] 47)).alloc (.cells #[.int .i64 0, .slice none 0 0] 24)).alloc (.cells #[.int .i64 n, .slice none 0 0] 24)) = W0 at *
  go_loopw [4] (fun nv wr => ∃ k : Nat, k ≤ n ∧ nv = .int .i64 k ∧ ∃ so sc, RG w (.slice fo (n + 1) fc) (.slice to zs.length tc) (.slice wo zs.length wc) n (zs.take (firstAt zs k)) so sc wr) (fun nv _ => n - (intOf nv).toNat)
  case atStart => exact ⟨0, Nat.zero_le _, rfl, none, 0, by rw [HZE.out.1]; exact HS.out⟩
  case round =>
    obtain ⟨k, hk, rfl, so, sc, hR⟩ := hrel
    have HR : Hid (type_of% hR) := hR
    obtain ⟨c0, c1, c2⟩ := box3 hR.box
    have cs := lt_of_get hR.box
    obtain ⟨g0, g1, z0, z1⟩ := cell_two hR.g
    have gs := lt_of_get hR.g
    clear hR
    by_cases hlt : k < n
    · have HRR : Hid (zs.take (firstAt zs k) ++ theRow zs k = zs.take (firstAt zs (k + 1))) := rowOf_all zs k
      have HLL : Hid ((zs.take (firstAt zs k)).length + (theRow zs k).length ≤ 524288) := by
        show _ ≤ _
        have h1 := rowOf_len (zs := zs) k (firstAt zs (k + 1))
        have h2 : (zs.take (firstAt zs k)).length ≤ zs.length := by rw [List.length_take]; omega
        unfold theRow
        omega
      have HCL : Hid (∀ wx, Below wr.heap.size wr wx → Calls Try.prog 54 #[.agg #[.slice fo (n + 1) fc, .slice to zs.length tc, .slice wo zs.length wc], .int .i64 k] wx fun e w' => ∃ lo lc, e = .returned (.slice lo (theRow zs k).length lc) ∧ w'.ownsRow wx.heap.size 46 3 (.slice lo (theRow zs k).length lc) (theRow zs k).length (flatC (theRow zs k)) ∧ Below wx.heap.size wx w') := fun wx hx => HRW.out wx (btr HR.out.below hx) k hlt
      generalize hL : zs.take (firstAt zs k) = L at *
      generalize theRow zs k = M at *
      clear hL
      go_wp2_with fail
      go_region_law (first
        | (refine step_append_any rfl _ _ rfl w.heap.size (.slice so L.length sc) L rfl Y1.out.1.own lo lc M rfl (arcs_of_rowC Y1.out.2) (own_cap Y1.out.2) (by have := HLL.out; omega) Y1.out.1.below.size ?_; intro v3 w3 hown3 hgr3; obtain ⟨po, pc, hv3⟩ := rowC_slice hown3; subst hv3; have Y3 : Hid (type_of% (Y1.out.1.put hown3 hgr3)) := Y1.out.1.put hown3 hgr3; clear hown3 hgr3; obtain ⟨t0, t1, x0, x1⟩ := cell_two Y3.out.1.1; have ts := lt_of_get Y3.out.1.1; obtain ⟨u0, u1, u2⟩ := box3 Y3.out.1.2; have us := lt_of_get Y3.out.1.2)
        | (go_simp; go_at_call 54; refine (HCL.out _ (Below.refl _ wr).drew).mono ?_; rintro e y1 ⟨lo, lc, rfl, ho, hy⟩; have hyb := (Below.refl _ wr).drew.trans hy; have Y1 : Hid (RG w (.slice fo (n + 1) fc) (.slice to zs.length tc) (.slice wo zs.length wc) n L so sc y1 ∧ y1.ownsRow wr.heap.size 46 3 (.slice lo M.length lc) M.length (flatC M)) := ⟨HR.out.keep hyb, ho⟩; clear hy ho hyb; obtain ⟨p0, p1, p2⟩ := box3 Y1.out.1.box; have ps := lt_of_get Y1.out.1.box; obtain ⟨q0, q1, _, _⟩ := cell_two Y1.out.1.g; have qs := lt_of_get Y1.out.1.g))
      all_goals
        go_wp2
        go_roundw
        case rel => exact ⟨k + 1, by omega, by go_num, po, pc, by have h3 := Y3.out.2; rw [← HRR.out]; rw [List.length_append] at h3; exact h3⟩
        case measure => simp [intOf]; omega
    · obtain rfl : k = n := by omega
      obtain ⟨r0, r1, x0, x1⟩ := cell_two HR.out.res
      have rs := lt_of_get HR.out.res
      have HL : Hid (zs.take (firstAt zs k) = zs) := HZE.out.2
      rw [HL.out] at HR g1
      go_wp2
      refine bodyPost_ret (v := .agg #[.int .i64 k, .slice so zs.length sc]) (by simp [results, Try.results43, go_sem, r0, r1]) rfl ⟨so, sc, rfl, ?_, ?_⟩
      · exact own_far HR.out.own HR.out.res (by decide) (fun g hg => (heap_setCell_other _ _ _ _ hg).trans (heap_setCell_other _ _ _ _ hg)) (Nat.le_refl _)
      · exact Below.lay HR.out.below _ _
end Go.Proofs.Ytgfmalimnbgdeaa

namespace Go.Proofs.Ytgfmalimnbgdeaa
open Go.RowKit Go.Extern

attribute [local go_sem] Oper.semAt_some

/-- a box of two cells is written. -/
def lay2 (W : World) (b : Nat) (c0 c1 : Value) : World := (W.setCell ⟨b, 0, none⟩ c0).setCell ⟨b, 1, none⟩ c1
section
variable {W : World} {b : Nat} {c0 c1 x : Value} {a : Option Addr} {n m : Nat} {T : TypeId}
theorem lay2_far {g : Nat} (hg : g ≠ b) : (lay2 W b c0 c1).heap[g]? = W.heap[g]? := (heap_setCell_other _ _ _ _ hg).trans (heap_setCell_other _ _ _ _ hg)
theorem lay2_size : (lay2 W b c0 c1).heap.size = W.heap.size := by simp [lay2]
theorem lay2_box {y : Value} (h : W.heap[b]? = some (.cells #[x, y] T)) : (lay2 W b c0 c1).heap[b]? = some (.cells #[c0, c1] T) := by
  have h1 : (W.setCell ⟨b, 0, none⟩ c0).heap[b]? = some (.cells #[c0, y] T) := (Go.heap_setCell_same _ _ 0 _ _ _ h).trans rfl
  exact (Go.heap_setCell_same _ _ 1 _ _ _ h1).trans rfl
theorem lay2_below {w : World} (h : Below w.heap.size w W) (hb : w.heap.size ≤ b) : Below w.heap.size w (lay2 W b c0 c1) := (h.setCell (p := ⟨b, 0, none⟩) hb _).setCell (p := ⟨b, 1, none⟩) hb _
theorem lay2_places {v : Value} {l : List (Int × Int)} (h : HasPlaces W v l) (hb : W.heap[b]? = some (.cells #[x, .slice a n m] T)) : HasPlaces (lay2 W b c0 c1) v l := by
  obtain ⟨ao, cap, e, hc⟩ := h
  refine ⟨ao, cap, e, fun j p hj => ?_⟩
  obtain ⟨g, off, ea, hl, q0, q1⟩ := hc j p hj
  have n2 : g ≠ b := fun e => by
    subst e
    simp only [World.cell?, hb] at q1
    generalize off + j * 2 = k at q1
    rcases k with _ | k <;> simp at q1
  have hk := lay2_far (W := W) (c0 := c0) (c1 := c1) n2
  exact ⟨g, off, ea, by rw [lay2_size]; exact hl, (World.cell?_of_block (a := ⟨g, _, none⟩) hk).trans q0, (World.cell?_of_block (a := ⟨g, _, none⟩) hk).trans q1⟩
theorem lay2_own {y : Value} {B k : Nat} {v : Value} {xs : List Value} (h : W.ownsRow B 46 3 v k xs) (hb : W.heap[b]? = some (.cells #[x, y] T)) (hT : T ≠ 46) : (lay2 W b c0 c1).ownsRow B 46 3 v k xs := own_far h hb hT (fun _ hg => lay2_far hg) (Nat.le_refl _)
end
theorem badT {C : Int} (h : C ≠ 0) (l : Nat) : (C != 0 || decide (0 < l)) = true := by simp [h]
theorem badF : ((0 : Int) != 0 || decide (0 < ([] : List (Int × Int)).length)) = false := rfl
theorem below1 (w : World) (o : Obj) : Below w.heap.size w (w.alloc o) := (Below.refl _ w).alloc (Nat.le_refl _) _
/-- what DocGraph answers. -/
def GAns (w : World) (N : Int) (l : List (Int × Int × Int)) (E : Int × List (Int × Int)) (e : Ending) (w' : World) : Prop := ∃ lo lc po pc, e = .returned (.tuple #[.agg #[.int .i64 N, .slice lo l.length lc], .agg #[.int .i64 E.1, .slice po E.2.length pc]]) ∧ w'.ownsRow w.heap.size 46 3 (.slice lo l.length lc) l.length (flatC l) ∧ HasPlaces w' (.slice po E.2.length pc) E.2 ∧ Below w.heap.size w w'
/-- what DocRow answers. -/
def RAns (w : World) (l : List (Int × Int × Int)) (E : Int × List (Int × Int)) (e : Ending) (w' : World) : Prop := ∃ lo lc po pc, e = .returned (.tuple #[.slice lo l.length lc, .agg #[.int .i64 E.1, .slice po E.2.length pc]]) ∧ w'.ownsRow w.heap.size 46 3 (.slice lo l.length lc) l.length (flatC l) ∧ HasPlaces w' (.slice po E.2.length pc) E.2 ∧ Below w.heap.size w w'
/-- the boxes of DocGraph. -/
structure DG (w : World) (c0 c1 c2 : Value) (wx : World) : Prop where
  below : Below w.heap.size w wx
  box : wx.heap[w.heap.size]? = some (.cells #[c0, c1, c2] 47)
  res : wx.heap[w.heap.size + 1]? = some (.cells #[.int .i64 0, .slice none 0 0] 24)
  err : wx.heap[w.heap.size + 1 + 1]? = some (.cells #[.int .i64 0, .slice none 0 0] 50)
theorem DG.keep {w wx wy : World} {c0 c1 c2 : Value} (h : DG w c0 c1 c2 wx) (hb : Below wx.heap.size wx wy) : DG w c0 c1 c2 wy := ⟨btr h.below hb, (hb.block _ (lt_of_get h.box)).trans h.box, (hb.block _ (lt_of_get h.res)).trans h.res, (hb.block _ (lt_of_get h.err)).trans h.err⟩
theorem DG.made (w : World) (c0 c1 c2 : Value) : DG w c0 c1 c2 (((w.alloc (.cells #[c0, c1, c2] 47)).alloc (.cells #[.int .i64 0, .slice none 0 0] 24)).alloc (.cells #[.int .i64 0, .slice none 0 0] 50)) := by
  have hh : ∀ k, (((w.alloc (.cells #[c0, c1, c2] 47)).alloc (.cells #[.int .i64 0, .slice none 0 0] 24)).alloc (.cells #[.int .i64 0, .slice none 0 0] 50)).heap[k]? = if k = w.heap.size + 1 + 1 then some (.cells #[.int .i64 0, .slice none 0 0] 50) else if k = w.heap.size + 1 then some (.cells #[.int .i64 0, .slice none 0 0] 24) else if k = w.heap.size then some (.cells #[c0, c1, c2] 47) else w.heap[k]? := fun k => by
    show (((w.heap.push _).push _).push _)[k]? = _
    rw [Array.getElem?_push, Array.getElem?_push, Array.getElem?_push]
    simp
  refine ⟨(((Below.refl _ w).alloc (Nat.le_refl _) _).alloc (by simp) _).alloc (by simp <;> omega) _, ?_, ?_, ?_⟩
  · rw [hh, if_neg (by omega), if_neg (by omega), if_pos rfl]
  · rw [hh, if_neg (by omega), if_pos rfl]
  · rw [hh, if_pos rfl]

section
variable (fo uo wo : Option Addr) (fl fc tl tc wl wc : Nat) (w : World)

set_option maxRecDepth 100000 in
set_option maxHeartbeats 4000000 in
theorem docGraph_bad (C : Int) (ps : List (Int × Int)) (hC : C ≠ 0) (hD : ∀ wx, Below w.heap.size w wx → Calls Try.prog 42 #[.agg #[.slice fo fl fc, .slice uo tl tc, .slice wo wl wc]] wx (DocAns wx (C, ps))) :
    Calls Try.prog 18 #[.agg #[.slice fo fl fc, .slice uo tl tc, .slice wo wl wc]] w (GAns w 0 [] (C, ps)) := by
  have HDG : Hid (type_of% (DG.made w (.slice fo fl fc) (.slice uo tl tc) (.slice wo wl wc))) := DG.made w (.slice fo fl fc) (.slice uo tl tc) (.slice wo wl wc)
  have HDC : Hid (type_of% hD) := hD
  have HBT : Hid (∀ l, (C != 0 || decide (0 < l)) = true) := fun l => badT hC l
  clear hD
  go_enter Try.func18, Try.ntmps18
  go_wp2_with fail
  generalize ((w.alloc (.cells #[.slice fo fl fc, .slice uo tl tc, .slice wo wl wc] 47)).alloc (.cells #[.int .i64 0, .slice none 0 0] 24)).alloc (.cells #[.int .i64 0, .slice none 0 0] 50) = W0 at *
  refine (HDC.out W0 HDG.out.below).mono ?_
  rintro e w1 ⟨po, pc, rfl, hP, hb⟩
  simp only at hP
  have H1 : Hid (DG w (.slice fo fl fc) (.slice uo tl tc) (.slice wo wl wc) w1 ∧ HasPlaces w1 (.slice po ps.length pc) ps) := ⟨HDG.out.keep hb, hP⟩
  clear hb hP
  go_wp2_with fail
  have H2 : Hid (DG w (.slice fo fl fc) (.slice uo tl tc) (.slice wo wl wc) (w1.alloc (.cells #[.int .i64 C, .slice po ps.length pc] 50)) ∧ HasPlaces (w1.alloc (.cells #[.int .i64 C, .slice po ps.length pc] 50)) (.slice po ps.length pc) ps ∧ (w1.alloc (.cells #[.int .i64 C, .slice po ps.length pc] 50)).heap[w1.heap.size]? = some (.cells #[.int .i64 C, .slice po ps.length pc] 50)) := ⟨H1.out.1.keep (below1 _ _), H1.out.2.keep (below1 _ _), heap_new _ _⟩
  have hbn : w.heap.size + 1 + 1 < w1.heap.size := lt_of_get H1.out.1.err
  generalize w1.alloc (.cells #[.int .i64 C, .slice po ps.length pc] 50) = W1 at *
  generalize w1.heap.size = B at *
  refine (bad_calls C po ps.length pc W1).mono ?_
  rw [HBT.out]
  rintro e w2 ⟨rfl, hb⟩
  have H3 : Hid (DG w (.slice fo fl fc) (.slice uo tl tc) (.slice wo wl wc) w2 ∧ HasPlaces w2 (.slice po ps.length pc) ps ∧ w2.heap[B]? = some (.cells #[.int .i64 C, .slice po ps.length pc] 50)) := ⟨H2.out.1.keep hb, H2.out.2.1.keep hb, (hb.block _ (lt_of_get H2.out.2.2)).trans H2.out.2.2⟩
  clear hb
  obtain ⟨e0, e1, _, _⟩ := cell_two H3.out.2.2
  have es := lt_of_get H3.out.2.2
  obtain ⟨r0, r1, z0, z1⟩ := cell_two H3.out.1.res
  have rs := lt_of_get H3.out.1.res
  obtain ⟨d0, d1, x0, x1⟩ := cell_two H3.out.1.err
  have ds := lt_of_get H3.out.1.err
  have n1 : ¬ B = w.heap.size + 1 := by omega
  have n2 : ¬ B = w.heap.size + 1 + 1 := by omega
  have n3 : ¬ w.heap.size + 1 = B := by omega
  have n4 : ¬ w.heap.size + 1 + 1 = B := by omega
  go_wp2_with fail
  go_region_held (fun w' => w'.cell? ⟨B, 0, none⟩ = some (.int .i64 C) ∧ w'.cell? ⟨B, 1, none⟩ = some (.slice po ps.length pc)) (go_keep) (first | fail)
  all_goals
    go_wp2
    refine bodyPost_ret (v := .tuple #[.agg #[.int .i64 0, .slice none 0 0], .agg #[.int .i64 C, .slice po ps.length pc]]) (by simp [results, Try.results18, go_sem, r0, r1, d0, d1]) rfl ?_
    have hb1 : (lay2 w2 (w.heap.size + 1) (.int .i64 0) (.slice none 0 0)).heap[w.heap.size + 1 + 1]? = some (.cells #[.int .i64 0, .slice none 0 0] 50) := (lay2_far (by omega)).trans H3.out.1.err
    exact ⟨none, 0, po, pc, rfl, World.ownsRow_nil _ _ _ _, (show HasPlaces (lay2 (lay2 w2 (w.heap.size + 1) (.int .i64 0) (.slice none 0 0)) (w.heap.size + 1 + 1) (.int .i64 C) (.slice po ps.length pc)) (.slice po ps.length pc) ps from lay2_places (lay2_places H3.out.2.1 H3.out.1.res) hb1), ((show Below w.heap.size w (lay2 (lay2 w2 (w.heap.size + 1) (.int .i64 0) (.slice none 0 0)) (w.heap.size + 1 + 1) (.int .i64 C) (.slice po ps.length pc)) from lay2_below (lay2_below H3.out.1.below (by omega)) (by omega))).drew⟩

set_option maxRecDepth 100000 in
set_option maxHeartbeats 4000000 in
theorem docGraph_good (N : Int) (zs : List (Int × Int × Int)) (hD : ∀ wx, Below w.heap.size w wx → Calls Try.prog 42 #[.agg #[.slice fo fl fc, .slice uo tl tc, .slice wo wl wc]] wx (DocAns wx (0, [])))
    (hG : ∀ wx, Below w.heap.size w wx → Calls Try.prog 43 #[.agg #[.slice fo fl fc, .slice uo tl tc, .slice wo wl wc]] wx fun e w' => ∃ lo lc, e = .returned (.agg #[.int .i64 N, .slice lo zs.length lc]) ∧ w'.ownsRow wx.heap.size 46 3 (.slice lo zs.length lc) zs.length (flatC zs) ∧ Below wx.heap.size wx w') :
    Calls Try.prog 18 #[.agg #[.slice fo fl fc, .slice uo tl tc, .slice wo wl wc]] w (GAns w N zs (0, [])) := by
  have HDG : Hid (type_of% (DG.made w (.slice fo fl fc) (.slice uo tl tc) (.slice wo wl wc))) := DG.made w (.slice fo fl fc) (.slice uo tl tc) (.slice wo wl wc)
  have HDC : Hid (type_of% hD) := hD
  have HGR : Hid (type_of% hG) := hG
  clear hD hG
  go_enter Try.func18, Try.ntmps18
  go_wp2_with fail
  generalize ((w.alloc (.cells #[.slice fo fl fc, .slice uo tl tc, .slice wo wl wc] 47)).alloc (.cells #[.int .i64 0, .slice none 0 0] 24)).alloc (.cells #[.int .i64 0, .slice none 0 0] 50) = W0 at *
  refine (HDC.out W0 HDG.out.below).mono ?_
  rintro e w1 ⟨po, pc, rfl, hP, hb⟩
  have H1 : Hid (type_of% (HDG.out.keep hb)) := HDG.out.keep hb
  clear hb hP
  go_wp2_with fail
  have H2 : Hid (type_of% (H1.out.keep (below1 w1 (.cells #[.int .i64 0, .slice po ([] : List (Int × Int)).length pc] 50)))) := H1.out.keep (below1 _ _)
  simp only [List.length_nil] at H2
  generalize w1.alloc (.cells #[.int .i64 0, .slice po 0 pc] 50) = W1 at *
  generalize w1.heap.size = B at *
  refine (bad_calls 0 po 0 pc W1).mono ?_
  rintro e w2 ⟨rfl, hb⟩
  have H3 : Hid (type_of% (H2.out.keep hb)) := H2.out.keep hb
  clear hb
  rw [show ((0 : Int) != 0 || decide (0 < 0)) = false from rfl]
  obtain ⟨c0, c1, c2⟩ := box3 H3.out.box
  have cs := lt_of_get H3.out.box
  go_wp2_with fail
  refine (HGR.out w2 H3.out.below).mono ?_
  rintro e w3 ⟨lo, lc, rfl, ho, hb⟩
  have H4 : Hid (DG w (.slice fo fl fc) (.slice uo tl tc) (.slice wo wl wc) w3 ∧ w3.ownsRow w.heap.size 46 3 (.slice lo zs.length lc) zs.length (flatC zs)) := ⟨H3.out.keep hb, own_base ho H3.out.below.size⟩
  clear hb ho c0 c1 c2 cs
  obtain ⟨r0, r1, z0, z1⟩ := cell_two H4.out.1.res
  have rs := lt_of_get H4.out.1.res
  obtain ⟨d0, d1, x0, x1⟩ := cell_two H4.out.1.err
  have ds := lt_of_get H4.out.1.err
  go_wp2
  refine bodyPost_ret (v := .tuple #[.agg #[.int .i64 N, .slice lo zs.length lc], .agg #[.int .i64 0, .slice none 0 0]]) (by simp [results, Try.results18, go_sem, r0, r1, d0, d1]) rfl ?_
  have hb1 : (lay2 w3 (w.heap.size + 1) (.int .i64 N) (.slice lo zs.length lc)).heap[w.heap.size + 1 + 1]? = some (.cells #[.int .i64 0, .slice none 0 0] 50) := (lay2_far (by omega)).trans H4.out.1.err
  exact ⟨lo, lc, none, 0, rfl, (show (lay2 (lay2 w3 (w.heap.size + 1) (.int .i64 N) (.slice lo zs.length lc)) (w.heap.size + 1 + 1) (.int .i64 0) (.slice none 0 0)).ownsRow w.heap.size 46 3 (.slice lo zs.length lc) zs.length (flatC zs) from lay2_own (lay2_own H4.out.2 H4.out.1.res (by decide)) hb1 (by decide)), places_nil _, (show Below w.heap.size w (lay2 (lay2 w3 (w.heap.size + 1) (.int .i64 N) (.slice lo zs.length lc)) (w.heap.size + 1 + 1) (.int .i64 0) (.slice none 0 0)) from lay2_below (lay2_below H4.out.1.below (by omega)) (by omega))⟩
end
end Go.Proofs.Ytgfmalimnbgdeaa
