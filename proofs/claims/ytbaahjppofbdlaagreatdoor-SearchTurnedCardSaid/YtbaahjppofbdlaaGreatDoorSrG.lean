/- rows of arcs of one's own, and what append makes of them. rows of arcs, for the reference's Row and Graph. viaductref05.Row and Node at right arrays. -/
import Derived.Test.YtbaahjppofbdlaaGreatDoorCheck
import Derived.OwnWalk
import Derived.Lib.AppendZeros
import Derived.Laws.AppendOwnNone
import Derived.Deep.RegionLaw
import Derived.Test.YtbaahjppofbdlaaGreatDoorCsrChk
import Derived.Test.YtbaahjppofbdlaaGreatDoorCsrDc
namespace Go.Proofs.YtbaahjppofbdlaaGreatDoor
open Go.RowKit Go.Extern Go.Sort

attribute [local go_sem] Oper.semAt_some

theorem Tryz.infoC : (Tryz.prog.info? 61).map (fun i => (i.zero, i.size, i.bytes)) = some (some (.agg #[.int .i64 0, .int .i64 0, .int .i64 0]), 3, 24) := by kernel_rfl
/-- the cells of arcs. -/
def flatC (l : List (Int × Int × Int)) : List Value := l.flatMap fun a => [.int .i64 a.1, .int .i64 a.2.1, .int .i64 a.2.2]
theorem flatC_len (l : List (Int × Int × Int)) : (flatC l).length = l.length * 3 := by
  induction l with
  | nil => rfl
  | cons a r ih => simp only [flatC, List.flatMap_cons, List.length_append, List.length_cons] at *; rw [ih]; simp; omega
theorem flatC_append (l r : List (Int × Int × Int)) : flatC (l ++ r) = flatC l ++ flatC r := by simp [flatC]
theorem flatC_get : ∀ (l : List (Int × Int × Int)) (i : Nat) (a : Int × Int × Int), l[i]? = some a → (flatC l)[i * 3]? = some (.int .i64 a.1) ∧ (flatC l)[i * 3 + 1]? = some (.int .i64 a.2.1) ∧ (flatC l)[i * 3 + 2]? = some (.int .i64 a.2.2)
  | [], i, a, h => by simp at h
  | b :: r, 0, a, h => by
    simp at h
    subst h
    simp [flatC]
  | b :: r, i + 1, a, h => by
    have ih := flatC_get r i a (by simpa using h)
    have e : flatC (b :: r) = [.int .i64 b.1, .int .i64 b.2.1, .int .i64 b.2.2] ++ flatC r := by simp [flatC]
    rw [e, show (i + 1) * 3 = i * 3 + 3 by omega]
    refine ⟨?_, ?_, ?_⟩
    · rw [List.getElem?_append_right (by simp)]; simpa using ih.1
    · rw [List.getElem?_append_right (by simp)]; simpa [show i * 3 + 3 + 1 - 3 = i * 3 + 1 by omega] using ih.2.1
    · rw [List.getElem?_append_right (by simp)]; simpa [show i * 3 + 3 + 2 - 3 = i * 3 + 2 by omega] using ih.2.2
theorem flatC_one (l : List (Int × Int × Int)) : ∀ u ∈ flatC l, u.oneCell' = true := by
  intro u hu
  simp only [flatC, List.mem_flatMap] at hu
  obtain ⟨a, _, ha⟩ := hu
  simp at ha
  rcases ha with rfl | rfl | rfl <;> rfl
theorem flatC_at {w : World} {a : Addr} {n cap : Nat} {xs : List (Int × Int × Int)} (h : HasArcs w (.slice (some a) n cap) xs) : ∀ j u, (flatC xs)[j]? = some u → w.cell? (a.add j) = some u := by
  intro j u hj
  have hlt := (List.getElem?_eq_some_iff.1 hj).1
  rw [flatC_len] at hlt
  have hx : xs[j / 3]? = some xs[j / 3] := List.getElem?_eq_getElem (by omega)
  obtain ⟨b, off, e, _, h0, h1, h2⟩ := h.at hx
  obtain ⟨g0, g1, g2⟩ := flatC_get xs (j / 3) _ hx
  obtain rfl : a = ⟨b, off, none⟩ := Option.some.inj e
  have ea : (⟨b, off, none⟩ : Addr).add j = ⟨b, off + j, none⟩ := by unfold Addr.add; split <;> simp_all
  rw [ea]
  rcases (show j = j / 3 * 3 ∨ j = j / 3 * 3 + 1 ∨ j = j / 3 * 3 + 2 by omega) with hj' | hj' | hj'
  · rw [hj'] at hj ⊢; rw [g0] at hj; cases hj; exact h0
  · rw [hj'] at hj ⊢; rw [g1] at hj; cases hj; exact h1
  · rw [hj'] at hj ⊢; rw [g2] at hj; cases hj; exact h2
theorem arcs_of_rowC {w : World} {base : Nat} {v : Value} {l : List (Int × Int × Int)} (h : w.ownsRow base 61 3 v l.length (flatC l)) : HasArcs w v l := by
  rcases h.2 with ⟨e, h0⟩ | ⟨g, cap, cur, rfl, hg, hh, _⟩
  · have : l = [] := List.eq_nil_of_length_eq_zero h0
    subst this
    exact ⟨none, 0, e, fun j p hj => by simp at hj⟩
  · refine ⟨_, cap, rfl, fun j a hj => ⟨g, 0, rfl, lt_of_get hh, ?_⟩⟩
    have hlt := (List.getElem?_eq_some_iff.1 hj).1
    obtain ⟨g0, g1, g2⟩ := flatC_get l j a hj
    rw [Nat.zero_add]
    exact ⟨(h.cellAt (j * 3) (by omega)).trans g0, (h.cellAt (j * 3 + 1) (by omega)).trans g1, (h.cellAt (j * 3 + 2) (by omega)).trans g2⟩
theorem rowC_slice {w : World} {base n : Nat} {xs : List Value} {v : Value} (h : w.ownsRow base 61 3 v n xs) : ∃ ao cap, v = .slice ao n cap := by
  rcases h.2 with ⟨h, h'⟩ | ⟨g, cap, cur, h, _⟩
  · exact ⟨none, 0, by rw [h']; exact h⟩
  · exact ⟨_, cap, h⟩

/-- a list of arcs is appended to a row of one's own. -/
theorem wpList_append_arcs {w : World} {ops : Array Oper} {rest : List Oper} {o : Oper} {a : Act} {Q : Exit → Act → World → Prop} (hgd : o.guard = none) (s x : Operand)
    (ho : o.op = .call { callee := .builtin .append, args := #[s, x], argTypes := #[22, 22] })
    (base : Nat) (v : Value) (L : List (Int × Int × Int)) (hs : a.eval s = v) (hown : w.ownsRow base 61 3 v L.length (flatC L))
    (ao : Option Addr) (ac : Nat) (xs : List (Int × Int × Int)) (hx : a.eval x = .slice ao xs.length ac) (hl : HasArcs w (.slice ao xs.length ac) xs) (hno : ao = none → ac = 0)
    (hlen : L.length + xs.length ≤ 1048576) (hbase : base ≤ w.heap.size)
    (h : ∀ v' w', w'.ownsRow base 61 3 v' (L ++ xs).length (flatC (L ++ xs)) → w.grownBy w' v.ownBlock → wpList Tryz.prog ops Q rest (a.put o.dst v') w') : wpList Tryz.prog ops Q (o :: rest) a w := by
  obtain ⟨i0, hi, hz0, hz1, hz2⟩ : ∃ i, Tryz.prog.info? 61 = some i ∧ i.zero = some (.agg #[.int .i64 0, .int .i64 0, .int .i64 0]) ∧ i.size = 3 ∧ i.bytes = 24 := by
    have h := Tryz.infoC
    cases hi : Tryz.prog.info? 61 with
    | none => rw [hi] at h; cases h
    | some i => rw [hi] at h; simp at h; exact ⟨i, rfl, h.1, h.2.1, h.2.2⟩
  cases ao with
  | none =>
    have hc := hno rfl
    subst hc
    have hx0 : xs = [] := by
      cases xs with
      | nil => rfl
      | cons q r => obtain ⟨b, off, e, _⟩ := hl.at (k := 0) (a := q) rfl; cases e
    subst hx0
    refine wpList_append_own_none hgd s x 22 ho base 61 i0 3 Tryz.underlying22 hi v L.length (flatC L) hs hown hx ?_
    exact h v w (by simpa using hown) ⟨rfl, rfl, rfl, Nat.le_refl _, fun _ _ _ => rfl⟩
  | some ad =>
    refine wpList_append_own _ hgd s x 22 ho base 61 i0 _ 3 24 Tryz.underlying22 hi hz0 hz1 hz2 rfl (by decide) v L.length (flatC L) hs hown ad xs.length ac (flatC xs) hx (flatC_len xs) (flatC_at hl) (flatC_one xs) (by unfold maxLen; omega) (by omega) hbase ?_
    intro v' w' h1 h2 _
    exact h v' w' (by rw [List.length_append, flatC_append]; exact h1) h2

/-- one arc in a block of its own. -/
theorem arcs_one (w : World) (a : Int × Int × Int) (T : TypeId) : HasArcs (w.alloc (.cells #[.int .i64 a.1, .int .i64 a.2.1, .int .i64 a.2.2] T)) (.slice (some ⟨w.heap.size, 0, none⟩) 1 1) [a] := by
  have h := heap_new w (.cells #[.int .i64 a.1, .int .i64 a.2.1, .int .i64 a.2.2] T)
  generalize w.alloc (.cells #[.int .i64 a.1, .int .i64 a.2.1, .int .i64 a.2.2] T) = W at h ⊢
  refine ⟨_, _, rfl, fun j x hj => ?_⟩
  cases j with
  | zero =>
    simp at hj
    subst hj
    exact ⟨_, 0, rfl, lt_of_get h, by simp [World.cell?, h], by simp [World.cell?, h], by simp [World.cell?, h]⟩
  | succ j => simp at hj
/-- a row of one's own is kept where its block is. -/
theorem rowC_keep {w w' : World} {base n : Nat} {xs : List Value} {v : Value} (h : w.ownsRow base 61 3 v n xs) (hk : Below w.heap.size w w') : w'.ownsRow base 61 3 v n xs := by
  obtain ⟨h1, h2⟩ := h
  refine ⟨h1, ?_⟩
  rcases h2 with h2 | ⟨g, cap, cur, e, hb, hh, r⟩
  · exact Or.inl h2
  · exact Or.inr ⟨g, cap, cur, e, hb, (hk.block g (lt_of_get hh)).trans hh, r⟩
theorem below_grown {w0 w w' : World} {base n : Nat} {xs : List Value} {v : Value} (hb : Below base w0 w) (h : w.ownsRow base 61 3 v n xs) (hg : w.grownBy w' v.ownBlock) (hs : base ≤ w.heap.size) : Below base w0 w' :=
  hb.trans ⟨hg.os, hg.tape, hg.output, hg.size, fun j hj => hg.block j (Nat.lt_of_lt_of_le hj hs) (fun e => by have := (h.lt j e.symm).1; omega)⟩

theorem below_grown2 {w0 w w' : World} {base base' n : Nat} {xs : List Value} {v : Value} (hb : Below base w0 w) (h : w.ownsRow base' 61 3 v n xs) (hg : w.grownBy w' v.ownBlock) (hs : base ≤ w.heap.size) (hbb : base ≤ base') : Below base w0 w' :=
  hb.trans ⟨hg.os, hg.tape, hg.output, hg.size, fun j hj => hg.block j (Nat.lt_of_lt_of_le hj hs) (fun e => by have := (h.lt j e.symm).1; omega)⟩
theorem below_dalloc (w : World) (q : Nat) (X : Obj) : Below w.heap.size w ((w.drewN q).alloc X) := (show Below w.heap.size w (w.drewN q) from ⟨rfl, rfl, rfl, Nat.le_refl _, fun _ _ => rfl⟩).alloc (Nat.le_refl _) X

/-- append of arcs onto a row of the call's own, as one step of a region that draws. -/
theorem step_append_arcs {w : World} {ops : Array Oper} {o : Oper} {a : Act} {K : Act → World → Prop} {Q : Exit → Act → World → Prop} {E : Prop} (hg : o.guard = none) (s x : Operand)
    (ho : o.op = .call { callee := .builtin .append, args := #[s, x], argTypes := #[22, 22] }) (base : Nat) (v : Value) (L : List (Int × Int × Int)) (hs : a.eval s = v) (hown : w.ownsRow base 61 3 v L.length (flatC L))
    (ad : Addr) (ac : Nat) (xs : List (Int × Int × Int)) (hx : a.eval x = .slice (some ad) xs.length ac) (hl : HasArcs w (.slice (some ad) xs.length ac) xs) (hlen : L.length + xs.length ≤ 1048576) (hbase : base ≤ w.heap.size)
    (h : ∀ v' w', w'.ownsRow base 61 3 v' (L ++ xs).length (flatC (L ++ xs)) → w.grownBy w' v.ownBlock → K (a.put o.dst v') w') :
    if Region.wanted o (yielded ops a.tmps) = true then Oper.wp Tryz.prog o a w K Q else E := by
  have hw : Region.wanted o (yielded ops a.tmps) = true := by simp [Region.wanted, hg]
  rw [if_pos hw]
  obtain ⟨i0, hi, hz0, hz1, hz2⟩ : ∃ i, Tryz.prog.info? 61 = some i ∧ i.zero = some (.agg #[.int .i64 0, .int .i64 0, .int .i64 0]) ∧ i.size = 3 ∧ i.bytes = 24 := by
    have h := Tryz.infoC
    cases hi : Tryz.prog.info? 61 with
    | none => rw [hi] at h; cases h
    | some i => rw [hi] at h; simp at h; exact ⟨i, rfl, h.1, h.2.1, h.2.2⟩
  refine wp_append_own w s x 22 ho base 61 i0 _ 3 24 Tryz.underlying22 hi hz0 hz1 hz2 rfl (by decide) v L.length (flatC L) hs hown ad xs.length ac (flatC xs) hx (flatC_len xs) (flatC_at hl) (flatC_one xs) (by unfold maxLen; omega) (by omega) hbase ?_
  intro v' w' h1 h2 _
  exact h v' w' (by rw [List.length_append, flatC_append]; exact h1) h2
end Go.Proofs.YtbaahjppofbdlaaGreatDoor

namespace Go.Proofs.YtbaahjppofbdlaaGreatDoor
open Go.RowKit Go.Extern

attribute [local go_sem] Oper.semAt_some

/-- the row of a node. -/
def rowOf (zs : List (Int × Int × Int)) (v : Nat) (i : Nat) : List (Int × Int × Int) := (zs.take i).drop (firstAt zs v)
theorem rowOf_none (zs : List (Int × Int × Int)) (v : Nat) : rowOf zs v (firstAt zs v) = [] := by
  unfold rowOf
  rw [List.drop_eq_nil_iff, List.length_take]
  omega
theorem rowOf_next {zs : List (Int × Int × Int)} {v i : Nat} {a : Int × Int × Int} (ha : zs[i]? = some a) (h : firstAt zs v ≤ i) : rowOf zs v (i + 1) = rowOf zs v i ++ [a] := by
  unfold rowOf
  have hl := (List.getElem?_eq_some_iff.1 ha).1
  rw [List.take_add_one, ha, List.drop_append_of_le_length (by rw [List.length_take]; omega)]
  rfl
theorem rowOf_len {zs : List (Int × Int × Int)} (v i : Nat) : (rowOf zs v i).length ≤ zs.length := by
  unfold rowOf
  rw [List.length_drop, List.length_take]
  omega

/-- a row of arcs is no block of another type. -/
theorem own_not_box {w : World} {base n b : Nat} {v : Value} {xs : List Value} {c : Array Value} {T : TypeId} (h : w.ownsRow base 61 3 v n xs) (hb : w.heap[b]? = some (.cells c T)) (hT : T ≠ 61) : some b ≠ v.ownBlock := by
  rcases h.2 with ⟨rfl, _⟩ | ⟨g, cap, cur, rfl, _, hg, _⟩
  · intro e; cases e
  · intro e
    have e' : b = g := Option.some.inj e
    subst e'
    rw [hb] at hg
    injection hg with hg
    injection hg with h1 h2
    exact hT h2
theorem rowOf_all (zs : List (Int × Int × Int)) (v : Nat) : zs.take (firstAt zs v) ++ rowOf zs v (firstAt zs (v + 1)) = zs.take (firstAt zs (v + 1)) := by
  unfold rowOf
  have h := firstAt_mono zs (show v ≤ v + 1 by omega)
  conv => rhs; rw [← List.take_append_drop (firstAt zs v) (zs.take (firstAt zs (v + 1)))]
  rw [List.take_take, Nat.min_eq_left h]
/-- a row of arcs stays where only a block of another type is written. -/
theorem own_far {w w' : World} {base base' n b : Nat} {v : Value} {xs : List Value} {c : Array Value} {T : TypeId} (h : w.ownsRow base 61 3 v n xs) (hb : w.heap[b]? = some (.cells c T)) (hT : T ≠ 61) (hk : ∀ g, g ≠ b → w'.heap[g]? = w.heap[g]?) (hbb : base' ≤ base) : w'.ownsRow base' 61 3 v n xs := by
  have hne := own_not_box h hb hT
  obtain ⟨h1, h2⟩ := h
  refine ⟨h1, ?_⟩
  rcases h2 with h2 | ⟨g, cap, cur, e, hbs, hh, r⟩
  · exact Or.inl h2
  · subst e
    exact Or.inr ⟨g, cap, cur, rfl, by omega, (hk g (fun e => hne (by rw [e]; rfl))).trans hh, r⟩
theorem own_base {w : World} {B B' n : Nat} {v : Value} {xs : List Value} (h : w.ownsRow B' 61 3 v n xs) (hb : B ≤ B') : w.ownsRow B 61 3 v n xs := by
  obtain ⟨h1, h2⟩ := h
  refine ⟨h1, ?_⟩
  rcases h2 with h2 | ⟨g, cap, cur, e, hg, r⟩
  · exact Or.inl h2
  · exact Or.inr ⟨g, cap, cur, e, by omega, r⟩
/-- a node's row: its arcs. -/
def theRow (zs : List (Int × Int × Int)) (v : Nat) : List (Int × Int × Int) := rowOf zs v (firstAt zs (v + 1))
end Go.Proofs.YtbaahjppofbdlaaGreatDoor

namespace Go.Proofs.YtbaahjppofbdlaaGreatDoor
open Go.RowKit Go.Extern

attribute [local go_sem] Oper.semAt_some

set_option maxRecDepth 100000 in
set_option maxHeartbeats 4000000 in
theorem rRow_calls (n : Nat) (zs : List (Int × Int × Int)) (fo to wo : Option Addr) (fc tc wc : Nat) (w : World) (hz : Fine n zs) (h : CsrIn w n zs fo to wo fc tc wc) (v : Nat) (hv : v < n) :
    Calls Tryz.prog 86 #[.agg #[.slice fo (n + 1) fc, .slice to zs.length tc, .slice wo zs.length wc], .int .i64 v] w fun e w' => ∃ lo lc, e = .returned (.slice lo (theRow zs v).length lc) ∧ w'.ownsRow w.heap.size 61 3 (.slice lo (theRow zs v).length lc) (theRow zs v).length (flatC (theRow zs v)) ∧ Below w.heap.size w w' := by
  unfold theRow
  obtain ⟨fb, fof, rfl, hl, hc⟩ := h.first
  have hN := hz.few
  have hM := hz.short
  obtain ⟨W0, hW0⟩ : ∃ W0, w.alloc (.cells #[.slice (some ⟨fb, fof, none⟩) (n + 1) fc, .slice to zs.length tc, .slice wo zs.length wc] 55) = W0 := ⟨_, rfl⟩
  have HW0 : Hid (w.alloc (.cells #[.slice (some ⟨fb, fof, none⟩) (n + 1) fc, .slice to zs.length tc, .slice wo zs.length wc] 55) = W0) := hW0
  have hB0 : Below w.heap.size w W0 := by rw [← hW0]; exact (Below.refl _ w).alloc (Nat.le_refl _) _
  have HBX : Hid (W0.heap[w.heap.size]? = some (.cells #[.slice (some ⟨fb, fof, none⟩) (n + 1) fc, .slice to zs.length tc, .slice wo zs.length wc] 55)) := by rw [← hW0]; exact heap_new _ _
  have HB : Hid (Below w.heap.size w W0) := hB0
  have HK : Hid (∀ wx, Below w.heap.size w wx → wx.heap[w.heap.size]? = some (.cells #[.slice (some ⟨fb, fof, none⟩) (n + 1) fc, .slice to zs.length tc, .slice wo zs.length wc] 55) → (wx.cell? ⟨w.heap.size, 0, none⟩ = some (.slice (some ⟨fb, fof, none⟩) (n + 1) fc) ∧ wx.cell? ⟨w.heap.size, 1, none⟩ = some (.slice to zs.length tc) ∧ wx.cell? ⟨w.heap.size, 2, none⟩ = some (.slice wo zs.length wc)) ∧ w.heap.size < wx.heap.size ∧ fb < wx.heap.size ∧ (∀ v, v ≤ n → wx.cell? ⟨fb, fof + v, none⟩ = some (.int .i64 (firstAt zs v)))) := fun wx hx hg =>
    ⟨box3 hg, lt_of_get hg, Nat.lt_of_lt_of_le hl hx.size, fun v hv => (hx.cell (p := ⟨fb, _, none⟩) hl).trans (hc v hv)⟩
  have HAR : Hid (∀ (i : Nat) (a : Int × Int × Int), zs[i]? = some a → ∃ tb tof wb wof, to = some ⟨tb, tof, none⟩ ∧ wo = some ⟨wb, wof, none⟩ ∧ ∀ wx, Below w.heap.size w wx → tb < wx.heap.size ∧ wb < wx.heap.size ∧ wx.cell? ⟨tb, tof + i, none⟩ = some (.int .i64 a.2.1) ∧ wx.cell? ⟨wb, wof + i, none⟩ = some (.int .i64 a.2.2)) := fun i a ha => by
    obtain ⟨tb, tof, wb, wof, e1, e2, ht, hw, hA⟩ := h.arc (by have := (List.getElem?_eq_some_iff.1 ha).1; omega)
    exact ⟨tb, tof, wb, wof, e1, e2, fun wx hx => ⟨Nat.lt_of_lt_of_le ht hx.size, Nat.lt_of_lt_of_le hw hx.size, (hx.cell (p := ⟨tb, _, none⟩) ht).trans (hA i a ha).1, (hx.cell (p := ⟨wb, _, none⟩) hw).trans (hA i a ha).2⟩⟩
  have HZ : Hid (Fine n zs) := hz
  have hxy : firstAt zs v ≤ firstAt zs (v + 1) := firstAt_mono zs (by omega)
  have hyl : firstAt zs (v + 1) ≤ zs.length := firstAt_le _ _
  have HFX : Hid (rowOf zs v (firstAt zs v) = []) := rowOf_none zs v
  obtain ⟨x, hx⟩ : ∃ x, firstAt zs v = x := ⟨_, rfl⟩
  obtain ⟨y, hy⟩ : ∃ y, firstAt zs (v + 1) = y := ⟨_, rfl⟩
  have HX : Hid (firstAt zs v = x ∧ firstAt zs (v + 1) = y) := ⟨hx, hy⟩
  rw [hx, hy] at hxy
  rw [hy] at hyl
  rw [hy]
  rw [hx] at HFX
  have e1 : (v : Int) < (n : Int) + 1 := by omega
  have e2 : (v : Int) + 1 < (n : Int) + 1 := by omega
  have e3 : (0 : Int) ≤ (v : Int) := by omega
  have e4 : (0 : Int) ≤ (v : Int) + 1 := by omega
  have e5 : IntKind.i64.wrap ((v : Int) + 1) = (v : Int) + 1 := by rw [IntKind.wrap_i64] <;> omega
  have q0 : w.cell? ⟨fb, fof + v, none⟩ = some (.int .i64 x) := by rw [← hx]; exact hc v (by omega)
  have ql : fb < w.heap.size := hl
  clear hB0 hW0 h hc hz hl hx hy
  go_enter Tryz.func86, Tryz.ntmps86
  go_wp2_with fail
  rw [HW0.out]
  go_loopw [5, 6] (fun av iv wr => ∃ (i : Nat) (so : Option Addr) (sc : Nat), x ≤ i ∧ i ≤ y ∧ iv = .int .i64 i ∧ av = .slice so (rowOf zs v i).length sc ∧ wr.ownsRow w.heap.size 61 3 (.slice so (rowOf zs v i).length sc) (rowOf zs v i).length (flatC (rowOf zs v i)) ∧ Below w.heap.size w wr ∧ wr.heap[w.heap.size]? = some (.cells #[.slice (some ⟨fb, fof, none⟩) (n + 1) fc, .slice to zs.length tc, .slice wo zs.length wc] 55)) (fun _ iv _ => y - (intOf iv).toNat)
  case atStart =>
    have h := HFX.out
    refine ⟨x, none, 0, Nat.le_refl _, hxy, rfl, ?_, ?_, HB.out, HBX.out⟩
    · rw [h]; rfl
    · rw [h]; exact World.ownsRow_nil _ _ _ _
  case round =>
    obtain ⟨i, so, sc, hi1, hi2, rfl, rfl, hO, hb, hbx⟩ := hrel
    have HOW : Hid (type_of% hO) := hO
    have HBW : Hid (Below w.heap.size w wr) := hb
    have HBB : Hid (type_of% hbx) := hbx
    obtain ⟨⟨c0, c1, c2⟩, cs, cf, hc⟩ := HK.out wr hb hbx
    have q1 := hc (v + 1) (by omega)
    rw [HX.out.2] at q1
    have HLL : Hid ((rowOf zs v i).length ≤ 524288) := by
      show _ ≤ _
      have := rowOf_len (zs := zs) v i
      omega
    clear hO hb hbx hc q0 ql
    by_cases hiy : i < y
    · obtain ⟨a, ha⟩ : ∃ a, zs[i]? = some a := ⟨zs[i], List.getElem?_eq_getElem (by omega)⟩
      obtain ⟨tb, tof, wb, wof, rfl, rfl, hA⟩ := HAR.out i a ha
      obtain ⟨lt, lw, t0, w0⟩ := hA wr HBW.out
      have HR : Hid (a.1 = (v : Int) ∧ rowOf zs v (i + 1) = rowOf zs v i ++ [a]) := ⟨HZ.out.row ha (by rw [HX.out.1]; exact hi1) (by rw [HX.out.2]; exact hiy), rowOf_next ha (by rw [HX.out.1]; exact hi1)⟩
      have i1 : (i : Int) < (zs.length : Int) := by omega
      have i2 : (0 : Int) ≤ (i : Int) := by omega
      obtain ⟨a0, a1, a2⟩ := a
      have hR := HR.out
      obtain ⟨hr0, hr1⟩ := hR
      simp only at hr0 t0 w0
      subst hr0
      have HR1 : Hid (rowOf zs v (i + 1) = rowOf zs v i ++ [((v : Int), a1, a2)]) := hr1
      clear HR hr1 hA ha
      obtain ⟨L, hL⟩ : ∃ L, rowOf zs v i = L := ⟨_, rfl⟩
      have HRL : Hid (rowOf zs v (i + 1) = L ++ [((v : Int), a1, a2)]) := by show _ = _; rw [HR1.out, ← hL]
      rw [hL] at HOW HLL ⊢
      clear hL HR1
      go_wp2_with fail
      go_region_law (first
        | (refine step_append_arcs rfl _ _ rfl w.heap.size (.slice so L.length sc) L rfl (rowC_keep HOW.out ((Below.refl _ wr).drew.alloc (Nat.le_refl _) _)) ⟨wr.heap.size, 0, none⟩ 1 [((v : Int), a1, a2)] rfl (arcs_one wr.drew ((v : Int), a1, a2) 61) (by have := HLL.out; simp only [List.length_cons, List.length_nil]; omega) (by have := HBW.out.size; simp; omega) ?_; intro v3 w3 hown3 hgr3; have HO3 : Hid (type_of% hown3) := hown3; have HG3 : Hid (type_of% hgr3) := hgr3; clear hown3 hgr3))
      all_goals
        obtain ⟨po, pc, hv3⟩ := rowC_slice HO3.out
        subst hv3
        have HN : Hid (w3.ownsRow w.heap.size 61 3 (.slice po (rowOf zs v (i + 1)).length pc) (rowOf zs v (i + 1)).length (flatC (rowOf zs v (i + 1))) ∧ Below w.heap.size w w3 ∧ w3.heap[w.heap.size]? = some (.cells #[.slice (some ⟨fb, fof, none⟩) (n + 1) fc, .slice (some ⟨tb, tof, none⟩) zs.length tc, .slice (some ⟨wb, wof, none⟩) zs.length wc] 55)) := by
          have hal : Below wr.heap.size wr (wr.drew.alloc (.cells #[.int .i64 v, .int .i64 a1, .int .i64 a2] 61)) := (Below.refl _ wr).drew.alloc (Nat.le_refl _) _
          have hbx2 := (hal.block _ (lt_of_get HBB.out)).trans HBB.out
          refine ⟨by rw [HRL.out]; exact HO3.out, below_grown (HBW.out.trans (hal.mono HBW.out.size)) (rowC_keep HOW.out hal) HG3.out (Nat.le_trans HBW.out.size hal.size), ?_⟩
          exact (HG3.out.block _ (lt_of_get hbx2) (own_not_box (rowC_keep HOW.out hal) hbx2 (by decide))).trans hbx2
        have HLE : Hid ((rowOf zs v (i + 1)).length = L.length + 1) := by show _ = _; rw [HRL.out, List.length_append]; rfl
        clear HO3 HG3
        go_wp2
        go_roundw
        case rel => exact ⟨i + 1, po, pc, by omega, by omega, by go_num, by rw [HLE.out], HN.out.1, HN.out.2.1, HN.out.2.2⟩
        case measure => simp [intOf]; omega
    · obtain rfl : i = y := by omega
      go_wp2
      go_ret
      exact ⟨_, _, rfl, HOW.out, HBW.out⟩

set_option maxHeartbeats 1000000 in
theorem rNode_calls (fo to wo : Option Addr) (n fc tl tc wl wc : Nat) (hn : n ≤ 4611686018427387904) (v : Int) (w : World) : Calls Tryz.prog 33 #[.agg #[.slice fo (n + 1) fc, .slice to tl tc, .slice wo wl wc], .int .i64 v] w fun e w' => e = .returned (.bool (decide (0 ≤ v ∧ v < (n : Int)))) ∧ Below w.heap.size w w' := by
  have HB : Hid (Below w.heap.size w (w.alloc (.cells #[.slice fo (n + 1) fc, .slice to tl tc, .slice wo wl wc] 55))) := (Below.refl _ w).alloc (Nat.le_refl _) _
  have hw : IntKind.i64.wrap (((n + 1 : Nat) : Int) - 1) = (n : Int) := by rw [IntKind.wrap_i64] <;> omega
  by_cases h0 : 0 ≤ v
  · rw [show decide (0 ≤ v ∧ v < (n : Int)) = decide (v < (n : Int)) by simp [h0]]
    go_enter Tryz.func33, Tryz.ntmps33
    go_wp2
    go_ret
    exact ⟨rfl, HB.out⟩
  · rw [decide_eq_false (fun h => h0 h.1)]
    go_enter Tryz.func33, Tryz.ntmps33
    go_wp2
    go_ret
    exact ⟨rfl, HB.out⟩
end Go.Proofs.YtbaahjppofbdlaaGreatDoor
