/- slices.Grow of no list, and slices.Concat of two lists of arcs: a new row that holds both, one behind the other. viaductref04.Reverse and DocReverse: the document's answer, arc by arc. viaductref04.less; a list's two pieces; where an arc is put. viaductref04.Put: an arc put into a normal list, in new memory. viaductref04.Of: the document's normal list, arc by arc. viaductref04.DocReverse: the document's answer: the graph turned about, or the error. viaductref04.DocOf: the document's answer: the normal graph, or the error. viaductref11.DocNew at a right graph. -/
import Derived.Test.YtbkclhaonbjobaaGreatDoorCheck
import Derived.OwnWalk
import Derived.Lib.AppendZeros
import Derived.Laws.AppendOwnNone
import Derived.Test.YtbkclhaonbjobaaGreatDoorQnX
import Derived.Test.YtbkclhaonbjobaaGreatDoorDocCheck
import Derived.Deep.RegionHeld3
import Derived.BigRegion
import Derived.Deep.RegionHeld
import Derived.Test.YtbkclhaonbjobaaGreatDoorQfX
namespace Go.Proofs.YtbkclhaonbjobaaGreatDoor
open Go.RowKit Go.Extern Go.Sort

attribute [local go_sem] Oper.semAt_some

theorem Tryz.infoC : (Tryz.prog.info? 70).map (fun i => (i.zero, i.size, i.bytes)) = some (some (.agg #[.int .i64 0, .int .i64 0, .int .i64 0]), 3, 24) := by kernel_rfl
/-- the cells of arcs. -/
def flatC (l : List (Int × Int × Int)) : List Value := l.flatMap fun a => [.int .i64 a.1, .int .i64 a.2.1, .int .i64 a.2.2]
theorem flatC_len (l : List (Int × Int × Int)) : (flatC l).length = l.length * 3 := by
  induction l with
  | nil => rfl
  | cons a r ih => simp only [flatC, List.flatMap_cons, List.length_append, List.length_cons] at *; rw [ih]; simp; omega
theorem flatC_append (l r : List (Int × Int × Int)) : flatC (l ++ r) = flatC l ++ flatC r := by simp [flatC]
theorem flatC_get : ∀ (l : List (Int × Int × Int)) (i : Nat) (a : Int × Int × Int), l[i]? = some a → (flatC l)[i * 3]? = some (.int .i64 a.1) ∧ (flatC l)[i * 3 + 1]? = some (.int .i64 a.2.1) ∧ (flatC l)[i * 3 + 2]? = some (.int .i64 a.2.2)
  | [], i, a, h => by simp at h
  | b :: r, 0, a, h => by
    simp at h
    subst h
    simp [flatC]
  | b :: r, i + 1, a, h => by
    have ih := flatC_get r i a (by simpa using h)
    have e : flatC (b :: r) = [.int .i64 b.1, .int .i64 b.2.1, .int .i64 b.2.2] ++ flatC r := by simp [flatC]
    rw [e, show (i + 1) * 3 = i * 3 + 3 by omega]
    refine ⟨?_, ?_, ?_⟩
    · rw [List.getElem?_append_right (by simp)]; simpa using ih.1
    · rw [List.getElem?_append_right (by simp)]; simpa [show i * 3 + 3 + 1 - 3 = i * 3 + 1 by omega] using ih.2.1
    · rw [List.getElem?_append_right (by simp)]; simpa [show i * 3 + 3 + 2 - 3 = i * 3 + 2 by omega] using ih.2.2
theorem flatC_one (l : List (Int × Int × Int)) : ∀ u ∈ flatC l, u.oneCell' = true := by
  intro u hu
  simp only [flatC, List.mem_flatMap] at hu
  obtain ⟨a, _, ha⟩ := hu
  simp at ha
  rcases ha with rfl | rfl | rfl <;> rfl
theorem flatC_at {w : World} {a : Addr} {n cap : Nat} {xs : List (Int × Int × Int)} (h : HasArcs w (.slice (some a) n cap) xs) : ∀ j u, (flatC xs)[j]? = some u → w.cell? (a.add j) = some u := by
  intro j u hj
  have hlt := (List.getElem?_eq_some_iff.1 hj).1
  rw [flatC_len] at hlt
  have hx : xs[j / 3]? = some xs[j / 3] := List.getElem?_eq_getElem (by omega)
  obtain ⟨b, off, e, _, h0, h1, h2⟩ := h.at hx
  obtain ⟨g0, g1, g2⟩ := flatC_get xs (j / 3) _ hx
  obtain rfl : a = ⟨b, off, none⟩ := Option.some.inj e
  have ea : (⟨b, off, none⟩ : Addr).add j = ⟨b, off + j, none⟩ := by unfold Addr.add; split <;> simp_all
  rw [ea]
  rcases (show j = j / 3 * 3 ∨ j = j / 3 * 3 + 1 ∨ j = j / 3 * 3 + 2 by omega) with hj' | hj' | hj'
  · rw [hj'] at hj ⊢; rw [g0] at hj; cases hj; exact h0
  · rw [hj'] at hj ⊢; rw [g1] at hj; cases hj; exact h1
  · rw [hj'] at hj ⊢; rw [g2] at hj; cases hj; exact h2
theorem arcs_of_rowC {w : World} {base : Nat} {v : Value} {l : List (Int × Int × Int)} (h : w.ownsRow base 70 3 v l.length (flatC l)) : HasArcs w v l := by
  rcases h.2 with ⟨e, h0⟩ | ⟨g, cap, cur, rfl, hg, hh, _⟩
  · have : l = [] := List.eq_nil_of_length_eq_zero h0
    subst this
    exact ⟨none, 0, e, fun j p hj => by simp at hj⟩
  · refine ⟨_, cap, rfl, fun j a hj => ⟨g, 0, rfl, lt_of_get hh, ?_⟩⟩
    have hlt := (List.getElem?_eq_some_iff.1 hj).1
    obtain ⟨g0, g1, g2⟩ := flatC_get l j a hj
    rw [Nat.zero_add]
    exact ⟨(h.cellAt (j * 3) (by omega)).trans g0, (h.cellAt (j * 3 + 1) (by omega)).trans g1, (h.cellAt (j * 3 + 2) (by omega)).trans g2⟩
theorem rowC_slice {w : World} {base n : Nat} {xs : List Value} {v : Value} (h : w.ownsRow base 70 3 v n xs) : ∃ ao cap, v = .slice ao n cap := by
  rcases h.2 with ⟨h, h'⟩ | ⟨g, cap, cur, h, _⟩
  · exact ⟨none, 0, by rw [h']; exact h⟩
  · exact ⟨_, cap, h⟩

/-- a list of arcs is appended to a row of one's own. -/
theorem wpList_append_arcs {w : World} {ops : Array Oper} {rest : List Oper} {o : Oper} {a : Act} {Q : Exit → Act → World → Prop} (hgd : o.guard = none) (s x : Operand)
    (ho : o.op = .call { callee := .builtin .append, args := #[s, x], argTypes := #[22, 22] })
    (base : Nat) (v : Value) (L : List (Int × Int × Int)) (hs : a.eval s = v) (hown : w.ownsRow base 70 3 v L.length (flatC L))
    (ao : Option Addr) (ac : Nat) (xs : List (Int × Int × Int)) (hx : a.eval x = .slice ao xs.length ac) (hl : HasArcs w (.slice ao xs.length ac) xs) (hno : ao = none → ac = 0)
    (hlen : L.length + xs.length ≤ 1048576) (hbase : base ≤ w.heap.size)
    (h : ∀ v' w', w'.ownsRow base 70 3 v' (L ++ xs).length (flatC (L ++ xs)) → w.grownBy w' v.ownBlock → wpList Tryz.prog ops Q rest (a.put o.dst v') w') : wpList Tryz.prog ops Q (o :: rest) a w := by
  obtain ⟨i0, hi, hz0, hz1, hz2⟩ : ∃ i, Tryz.prog.info? 70 = some i ∧ i.zero = some (.agg #[.int .i64 0, .int .i64 0, .int .i64 0]) ∧ i.size = 3 ∧ i.bytes = 24 := by
    have h := Tryz.infoC
    cases hi : Tryz.prog.info? 70 with
    | none => rw [hi] at h; cases h
    | some i => rw [hi] at h; simp at h; exact ⟨i, rfl, h.1, h.2.1, h.2.2⟩
  cases ao with
  | none =>
    have hc := hno rfl
    subst hc
    have hx0 : xs = [] := by
      cases xs with
      | nil => rfl
      | cons q r => obtain ⟨b, off, e, _⟩ := hl.at (k := 0) (a := q) rfl; cases e
    subst hx0
    refine wpList_append_own_none hgd s x 22 ho base 70 i0 3 Tryz.underlying22 hi v L.length (flatC L) hs hown hx ?_
    exact h v w (by simpa using hown) ⟨rfl, rfl, rfl, Nat.le_refl _, fun _ _ _ => rfl⟩
  | some ad =>
    refine wpList_append_own _ hgd s x 22 ho base 70 i0 _ 3 24 Tryz.underlying22 hi hz0 hz1 hz2 rfl (by decide) v L.length (flatC L) hs hown ad xs.length ac (flatC xs) hx (flatC_len xs) (flatC_at hl) (flatC_one xs) (by unfold maxLen; omega) (by omega) hbase ?_
    intro v' w' h1 h2 _
    exact h v' w' (by rw [List.length_append, flatC_append]; exact h1) h2

end Go.Proofs.YtbkclhaonbjobaaGreatDoor

namespace Go.Proofs.YtbkclhaonbjobaaGreatDoor
open Go.RowKit Go.Extern Go.Sort Go.Shelf

attribute [local go_sem] Oper.semAt_some

/-- a list in new memory. -/
def NewA (B : Nat) (v : Value) : Prop := ∀ b off n c, v = .slice (some ⟨b, off, none⟩) n c → B ≤ b
theorem newA_nil (B n c : Nat) : NewA B (.slice none n c) := fun b off m d e => by cases e
theorem newA_of {B n c : Nat} {so : Option Addr} (h : ∀ a, so = some a → B ≤ a.block) : NewA B (.slice so n c) := fun b off m d e => by
  injection e with e1
  exact h _ e1
theorem NewA.base {B B' : Nat} {v : Value} (h : NewA B' v) (hb : B ≤ B') : NewA B v := fun b off n c e => Nat.le_trans hb (h b off n c e)
/-- what holds at each round. -/
structure RRI (w : World) (N : Int) (ao : Option Addr) (cap : Nat) (xs : List (Int × Int × Int)) (l : List (Int × Int × Int)) (sv : Value) (wr : World) : Prop where
  row : wr.ownsRow (w.heap.size + 3) 70 3 sv l.length (flatA l)
  box : wr.heap[w.heap.size]? = some (.cells #[.int .i64 N, .slice ao xs.length cap] 24)
  res : wr.heap[w.heap.size + 1]? = some (.cells #[.int .i64 0, .slice none 0 0] 24)
  c : wr.heap[w.heap.size + 2]? = some (.cells #[.int .i64 N, sv] 24)
  below : Below w.heap.size w wr
end Go.Proofs.YtbkclhaonbjobaaGreatDoor

namespace Go.Proofs.YtbkclhaonbjobaaGreatDoor
open Go.RowKit Go.Extern Go.Sort Go.Shelf

attribute [local go_sem] Oper.semAt_some

set_option maxRecDepth 100000 in
theorem less_calls (a b : Int × Int × Int) (w : World) : Calls Tryz.prog 116 #[arcV a, arcV b] w fun e w' => e = .returned (.bool (decide (lessA a b))) ∧ RowKit.Below w.heap.size w w' := by
  obtain ⟨a0, a1, a2⟩ := a
  obtain ⟨b0, b1, b2⟩ := b
  have HB : Hid (∀ u v : Obj, RowKit.Below w.heap.size w ((w.alloc u).alloc v)) := fun u v => ((RowKit.Below.refl _ w).alloc (Nat.le_refl _) _).alloc (by simp) _
  unfold arcV lessA
  simp only
  by_cases h0 : a0 < b0
  · go_enter Tryz.func116, Tryz.ntmps116
    go_wp2
    go_ret
    exact ⟨by simp [h0], HB.out _ _⟩
  · by_cases h1 : a0 = b0
    · subst h1
      by_cases h2 : a1 < b1
      · go_enter Tryz.func116, Tryz.ntmps116
        go_wp2
        go_ret
        exact ⟨by simp, HB.out _ _⟩
      · go_enter Tryz.func116, Tryz.ntmps116
        go_wp2
        go_ret
        exact ⟨by simp [h2], HB.out _ _⟩
    · go_enter Tryz.func116, Tryz.ntmps116
      go_wp2
      go_ret
      exact ⟨by simp [h0], HB.out _ _⟩

theorem Tryz.elemP : Tryz.prog.underlying 22 = some (.slice (Tryz.prog.elem 22)) := by kernel_rfl
theorem Tryz.sizeP (w : World) : (sizeOf (Tryz.prog.elem 22)).run Tryz.prog w = .ok 3 w := by kernel_rfl
/-- a slice that can be cut. -/
def Cut (lo : Option Addr) (n lc : Nat) : Prop := (lo = none ∧ n = 0 ∧ lc = 0) ∨ ∃ b off, lo = some ⟨b, off, none⟩ ∧ 0 < n ∧ n ≤ lc
theorem Cut.le {lo : Option Addr} {n lc : Nat} (h : Cut lo n lc) : n ≤ lc ∧ (lo = none → lc = 0) := by
  rcases h with ⟨rfl, rfl, rfl⟩ | ⟨b, off, rfl, h1, h2⟩
  · exact ⟨Nat.le_refl _, fun _ => rfl⟩
  · exact ⟨h2, fun e => by cases e⟩
theorem Cut.to {lo : Option Addr} {n lc : Nat} (h : Cut lo n lc) (i : Nat) (hi : i ≤ n) (w : World) : (Instr.slice 22 (.slice lo n lc) none (some (.int .i64 (i : Int))) none).run Tryz.prog w = .ok (.slice lo i lc) w := by
  have hle := h.le.1
  rw [run_slice_h (ht := Tryz.elemP) (h0 := by omega) (h2 := by omega), Tryz.sizeP]
  have e2 : (i : Int).toNat = i := by omega
  simp only [Result.andThen_ok, sliced, e2]
  rcases h with ⟨rfl, rfl, rfl⟩ | ⟨b, off, rfl, h1, h2⟩
  · simp
  · simp [Addr.add]
theorem Cut.from {lo : Option Addr} {n lc : Nat} (h : Cut lo n lc) (i : Nat) (hi : i ≤ n) : ∃ ao, (∀ w, (Instr.slice 22 (.slice lo n lc) (some (.int .i64 (i : Int))) none none).run Tryz.prog w = .ok (.slice ao (n - i) (lc - i)) w) ∧ (ao = none → lc - i = 0) ∧ ∀ (w : World) (l : List (Int × Int × Int)), l.length = n → HasArcs w (.slice lo n lc) l → HasArcs w (.slice ao (n - i) (lc - i)) (l.drop i) := by
  have hle := h.le.1
  have e2 : (i : Int).toNat = i := by omega
  refine ⟨if lc = i then lo else lo.map (·.add (i * 3)), fun w => ?_, fun e => ?_, fun w l hl hA => ?_⟩
  · rw [run_slice_l (ht := Tryz.elemP) (h0 := by omega) (h1 := by omega), Tryz.sizeP]
    simp only [Result.andThen_ok, sliced, e2]
  · rcases h with ⟨rfl, rfl, rfl⟩ | ⟨b, off, rfl, h1, h2⟩
    · omega
    · split at e
      · omega
      · simp at e
  · refine ⟨_, _, by rw [List.length_drop, hl], fun j a hj => ?_⟩
    rw [List.getElem?_drop] at hj
    have hlt := (List.getElem?_eq_some_iff.1 hj).1
    obtain ⟨b, off, e, hb, c0, c1, c2⟩ := hA.at hj
    rw [if_neg (by omega), e]
    refine ⟨b, off + i * 3, by simp [Addr.add], hb, ?_, ?_, ?_⟩
    · rw [show off + i * 3 + j * 3 = off + (i + j) * 3 by omega]; exact c0
    · rw [show off + i * 3 + j * 3 = off + (i + j) * 3 by omega]; exact c1
    · rw [show off + i * 3 + j * 3 = off + (i + j) * 3 by omega]; exact c2
theorem arcs_take {w : World} {lo : Option Addr} {n lc : Nat} {l : List (Int × Int × Int)} (h : HasArcs w (.slice lo n lc) l) (i : Nat) (hi : i ≤ l.length) : HasArcs w (.slice lo i lc) (l.take i) := by
  refine ⟨lo, lc, by rw [List.length_take, Nat.min_eq_left hi], fun j a hj => ?_⟩
  have hlt := (List.getElem?_eq_some_iff.1 hj).1
  rw [List.length_take] at hlt
  rw [List.getElem?_take_of_lt (by omega)] at hj
  exact h.at hj
/-- where an arc is put. -/
theorem put_split : ∀ (l : List (Int × Int × Int)) (a : Int × Int × Int), ∃ k, k ≤ l.length ∧ (∀ j x, j < k → l[j]? = some x → lessA x a) ∧ ((k = l.length ∧ putA l a = l.take k ++ [a] ++ l.drop k) ∨ ∃ b, l[k]? = some b ∧ ¬ lessA b a ∧ ((sameA b a ∧ putA l a = l.take k ++ [(a.1, a.2.1, min a.2.2 b.2.2)] ++ l.drop (k + 1)) ∨ (¬ sameA b a ∧ putA l a = l.take k ++ [a] ++ l.drop k)))
  | [], a => ⟨0, Nat.le_refl _, fun j x h => by omega, Or.inl ⟨rfl, rfl⟩⟩
  | b :: r, a => by
    by_cases h : lessA b a
    · obtain ⟨k, hk, h1, h2⟩ := put_split r a
      have e : putA (b :: r) a = b :: putA r a := by rw [putA, if_pos h]
      refine ⟨k + 1, by simp; omega, fun j x hj hx => ?_, ?_⟩
      · cases j with
        | zero => simp at hx; subst hx; exact h
        | succ j => exact h1 j x (by omega) (by simpa using hx)
      · rw [e]
        rcases h2 with ⟨hk', e'⟩ | ⟨c, hc, hn, ⟨hs, e'⟩ | ⟨hs, e'⟩⟩
        · exact Or.inl ⟨by simp; exact hk', by rw [e']; simp⟩
        · exact Or.inr ⟨c, by simpa using hc, hn, Or.inl ⟨hs, by rw [e']; simp⟩⟩
        · exact Or.inr ⟨c, by simpa using hc, hn, Or.inr ⟨hs, by rw [e']; simp⟩⟩
    · refine ⟨0, Nat.zero_le _, fun j x hj => by omega, Or.inr ⟨b, rfl, h, ?_⟩⟩
      by_cases hs : sameA b a
      · exact Or.inl ⟨hs, by rw [putA, if_neg h, if_pos hs]; simp⟩
      · exact Or.inr ⟨hs, by rw [putA, if_neg h, if_neg hs]; simp⟩
end Go.Proofs.YtbkclhaonbjobaaGreatDoor

namespace Go.Proofs.YtbkclhaonbjobaaGreatDoor
open Go.RowKit Go.Extern Go.Sort Go.Shelf

attribute [local go_sem] Oper.semAt_some

/-- one arc in a block of its own. -/
theorem arcs_one (w : World) (a : Int × Int × Int) (T : TypeId) : HasArcs (w.alloc (.cells #[.int .i64 a.1, .int .i64 a.2.1, .int .i64 a.2.2] T)) (.slice (some ⟨w.heap.size, 0, none⟩) 1 1) [a] := by
  have h := heap_new w (.cells #[.int .i64 a.1, .int .i64 a.2.1, .int .i64 a.2.2] T)
  generalize w.alloc (.cells #[.int .i64 a.1, .int .i64 a.2.1, .int .i64 a.2.2] T) = W at h ⊢
  refine ⟨_, _, rfl, fun j x hj => ?_⟩
  cases j with
  | zero =>
    simp at hj
    subst hj
    exact ⟨_, 0, rfl, lt_of_get h, by simp [World.cell?, h], by simp [World.cell?, h], by simp [World.cell?, h]⟩
  | succ j => simp at hj
/-- a row of one's own is kept where its block is. -/
theorem rowC_keep {w w' : World} {base n : Nat} {xs : List Value} {v : Value} (h : w.ownsRow base 70 3 v n xs) (hk : RowKit.Below w.heap.size w w') : w'.ownsRow base 70 3 v n xs := by
  obtain ⟨h1, h2⟩ := h
  refine ⟨h1, ?_⟩
  rcases h2 with h2 | ⟨g, cap, cur, e, hb, hh, r⟩
  · exact Or.inl h2
  · exact Or.inr ⟨g, cap, cur, e, hb, (hk.block g (lt_of_get hh)).trans hh, r⟩
theorem below_grown {w0 w w' : World} {base n : Nat} {xs : List Value} {v : Value} (hb : RowKit.Below base w0 w) (h : w.ownsRow base 70 3 v n xs) (hg : w.grownBy w' v.ownBlock) (hs : base ≤ w.heap.size) : RowKit.Below base w0 w' :=
  hb.trans ⟨hg.os, hg.tape, hg.output, hg.size, fun j hj => hg.block j (Nat.lt_of_lt_of_le hj hs) (fun e => by have := (h.lt j e.symm).1; omega)⟩

theorem below_grown2 {w0 w w' : World} {base base' n : Nat} {xs : List Value} {v : Value} (hb : RowKit.Below base w0 w) (h : w.ownsRow base' 70 3 v n xs) (hg : w.grownBy w' v.ownBlock) (hs : base ≤ w.heap.size) (hbb : base ≤ base') : RowKit.Below base w0 w' :=
  hb.trans ⟨hg.os, hg.tape, hg.output, hg.size, fun j hj => hg.block j (Nat.lt_of_lt_of_le hj hs) (fun e => by have := (h.lt j e.symm).1; omega)⟩
theorem rowC_far {w w' : World} {base n : Nat} {xs : List Value} {v : Value} (h : w.ownsRow base 70 3 v n xs) (hk : ∀ g, base ≤ g → g < w.heap.size → w'.heap[g]? = w.heap[g]?) : w'.ownsRow base 70 3 v n xs := by
  obtain ⟨h1, h2⟩ := h
  refine ⟨h1, ?_⟩
  rcases h2 with h2 | ⟨g, cap, cur, e, hb, hh, r⟩
  · exact Or.inl h2
  · exact Or.inr ⟨g, cap, cur, e, hb, (hk g hb (lt_of_get hh)).trans hh, r⟩
theorem below_dalloc (w : World) (q : Nat) (X : Obj) : RowKit.Below w.heap.size w ((w.drewN q).alloc X) := (show RowKit.Below w.heap.size w (w.drewN q) from ⟨rfl, rfl, rfl, Nat.le_refl _, fun _ _ => rfl⟩).alloc (Nat.le_refl _) X

set_option maxRecDepth 100000 in
set_option maxHeartbeats 1000000 in
theorem put_calls (a : Int × Int × Int) (lo : Option Addr) (lc : Nat) (l : List (Int × Int × Int)) (w : World) (hl : HasArcs w (.slice lo l.length lc) l) (hcut : Cut lo l.length lc) (hm : l.length ≤ 262144) :
    Calls Tryz.prog 95 #[.slice lo l.length lc, arcV a] w fun e w' => ∃ v, e = .returned v ∧ w'.ownsRow (w.heap.size + 1) 70 3 v (putA l a).length (flatC (putA l a)) ∧ RowKit.Below w.heap.size w w' := by
  obtain ⟨k0, hk0, hless, hsp⟩ := put_split l a
  have HLS : Hid (∀ x y wx, Calls Tryz.prog 116 #[arcV x, arcV y] wx fun e w' => e = .returned (.bool (decide (lessA x y))) ∧ RowKit.Below wx.heap.size wx w') := fun x y wx => less_calls x y wx
  obtain ⟨W0, hW0⟩ : ∃ W0, w.alloc (.cells #[.int .i64 a.1, .int .i64 a.2.1, .int .i64 a.2.2] 70) = W0 := ⟨_, rfl⟩
  have hB0 : RowKit.Below w.heap.size w W0 := by rw [← hW0]; exact (RowKit.Below.refl _ w).alloc (Nat.le_refl _) _
  have k1 : W0.heap[w.heap.size]? = some (.cells #[.int .i64 a.1, .int .i64 a.2.1, .int .i64 a.2.2] 70) := by rw [← hW0]; exact heap_new _ _
  have hs0 : W0.heap.size = w.heap.size + 1 := by rw [← hW0]; simp
  have HW0 : Hid (w.alloc (.cells #[.int .i64 a.1, .int .i64 a.2.1, .int .i64 a.2.2] 70) = W0) := hW0
  have HK : Hid (∀ wx, RowKit.Below W0.heap.size W0 wx → wx.heap[w.heap.size]? = some (.cells #[.int .i64 a.1, .int .i64 a.2.1, .int .i64 a.2.2] 70) ∧ RowKit.Below w.heap.size w wx ∧ HasArcs wx (.slice lo l.length lc) l) := fun wx h => by
    have hb := hB0.trans (h.mono hB0.size)
    exact ⟨(h.block _ (lt_of_get k1)).trans k1, hb, hl.keep hb⟩
  have HS0 : Hid (W0.heap.size = w.heap.size + 1) := hs0
  have HLE : Hid (∀ j x, j < k0 → l[j]? = some x → lessA x a) := hless
  have HSP : Hid (type_of% hsp) := hsp
  have HCU : Hid (Cut lo l.length lc) := hcut
  have HL : Hid (HasArcs w (.slice lo l.length lc) l) := hl
  clear hl hcut hless hsp k1 hB0 hW0 hs0
  obtain ⟨a0, a1, a2⟩ := a
  unfold arcV
  simp only at *
  go_enter Tryz.func95, Tryz.ntmps95
  go_wp2_with fail
  rw [HW0.out]
  go_loopw [5] (fun iv wr => ∃ k : Nat, k ≤ k0 ∧ iv = .int .i64 k ∧ RowKit.Below W0.heap.size W0 wr) (fun iv _ => k0 - (intOf iv).toNat)
  case atStart => exact ⟨0, Nat.zero_le _, rfl, RowKit.Below.refl _ _⟩
  case round =>
    obtain ⟨k, hk, rfl, hb⟩ := hrel
    have HB : Hid (RowKit.Below W0.heap.size W0 wr) := hb
    obtain ⟨hbox, _, hA⟩ := HK.out wr hb
    have hwl : w.heap.size < wr.heap.size := lt_of_get hbox
    obtain ⟨t0, t1, t2⟩ : wr.cell? ⟨w.heap.size, 0, none⟩ = some (.int .i64 a0) ∧ wr.cell? ⟨w.heap.size, 1, none⟩ = some (.int .i64 a1) ∧ wr.cell? ⟨w.heap.size, 2, none⟩ = some (.int .i64 a2) := by simp [World.cell?, hbox]
    have b0 : (0 : Int) ≤ k := by omega
    clear hb hbox
    by_cases hlt : k < l.length
    · obtain ⟨x, hx⟩ : ∃ x, l[k]? = some x := ⟨l[k], List.getElem?_eq_getElem hlt⟩
      obtain ⟨b, off, hlo, hbl, q0, q1, q2⟩ := hA.at hx
      obtain ⟨x0, x1, x2⟩ := x
      simp only at q0 q1 q2
      subst hlo
      have HX : Hid (l[k]? = some (x0, x1, x2)) := hx
      have b1 : (k : Int) < (l.length : Int) := by omega
      have HCL : Hid (∀ wx, RowKit.Below wr.heap.size wr wx → (wx.cell? ⟨b, off + k * 3, none⟩ = some (.int .i64 x0) ∧ wx.cell? ⟨b, off + k * 3 + 1, none⟩ = some (.int .i64 x1) ∧ wx.cell? ⟨b, off + k * 3 + 2, none⟩ = some (.int .i64 x2)) ∧ wx.cell? ⟨w.heap.size, 0, none⟩ = some (.int .i64 a0) ∧ wx.cell? ⟨w.heap.size, 1, none⟩ = some (.int .i64 a1) ∧ wx.cell? ⟨w.heap.size, 2, none⟩ = some (.int .i64 a2)) := fun wx h =>
        ⟨⟨(h.cell (p := ⟨b, off + k * 3, none⟩) hbl).trans q0, (h.cell (p := ⟨b, off + k * 3 + 1, none⟩) hbl).trans q1, (h.cell (p := ⟨b, off + k * 3 + 2, none⟩) hbl).trans q2⟩, (h.cell (p := ⟨w.heap.size, 0, none⟩) hwl).trans t0, (h.cell (p := ⟨w.heap.size, 1, none⟩) hwl).trans t1, (h.cell (p := ⟨w.heap.size, 2, none⟩) hwl).trans t2⟩
      have HE : Hid (∀ wx, Calls Tryz.prog 116 #[.agg #[.int .i64 x0, .int .i64 x1, .int .i64 x2], .agg #[.int .i64 a0, .int .i64 a1, .int .i64 a2]] wx fun e w' => e = .returned (.bool (decide (lessA (x0, x1, x2) (a0, a1, a2)))) ∧ RowKit.Below wx.heap.size wx w') := fun wx => HLS.out (x0, x1, x2) (a0, a1, a2) wx
      clear hA hx
      by_cases hkk : k < k0
      · have HE' : Hid (∀ wx, Calls Tryz.prog 116 #[.agg #[.int .i64 x0, .int .i64 x1, .int .i64 x2], .agg #[.int .i64 a0, .int .i64 a1, .int .i64 a2]] wx fun e w' => e = .returned (.bool true) ∧ RowKit.Below wx.heap.size wx w') := fun wx => by
          have h := HE.out wx
          rw [decide_eq_true (HLE.out k _ hkk HX.out)] at h
          exact h
        clear HE
        go_wp2_with fail
        go_region_held3 (fun w' => w'.cell? ⟨b, off + k * 3, none⟩ = some (.int .i64 x0) ∧ w'.cell? ⟨b, off + k * 3 + 1, none⟩ = some (.int .i64 x1) ∧ w'.cell? ⟨b, off + k * 3 + 2, none⟩ = some (.int .i64 x2) ∧ w'.cell? ⟨w.heap.size, 0, none⟩ = some (.int .i64 a0) ∧ w'.cell? ⟨w.heap.size, 1, none⟩ = some (.int .i64 a1) ∧ w'.cell? ⟨w.heap.size, 2, none⟩ = some (.int .i64 a2)) (go_keep) (first
          | (go_at_call 116; refine (HE'.out _).mono ?_; rintro e w1 ⟨rfl, hL1⟩; have HL1 : Hid (RowKit.Below wr.heap.size wr w1) := (RowKit.Below.refl _ wr).drew.trans hL1; obtain ⟨⟨g0, g1, g2⟩, g3, g4, g5⟩ := HCL.out w1 HL1.out; clear hL1))
        all_goals
          have HB1 : Hid (RowKit.Below W0.heap.size W0 w1) := HB.out.trans (HL1.out.mono HB.out.size)
          go_wp2
          go_roundw
          case rel => exact ⟨k + 1, by omega, by go_num, HB1.out⟩
          case measure => simp [intOf]; omega
      · obtain rfl : k = k0 := by omega
        obtain ⟨hnl, hsp⟩ : ¬ lessA (x0, x1, x2) (a0, a1, a2) ∧ ((sameA (x0, x1, x2) (a0, a1, a2) ∧ putA l (a0, a1, a2) = l.take k ++ [(a0, a1, min a2 x2)] ++ l.drop (k + 1)) ∨ (¬ sameA (x0, x1, x2) (a0, a1, a2) ∧ putA l (a0, a1, a2) = l.take k ++ [(a0, a1, a2)] ++ l.drop k)) := by
          rcases HSP.out with ⟨h, _⟩ | ⟨c, hc, h1, h2⟩
          · exact absurd h (by omega)
          · obtain rfl : (x0, x1, x2) = c := Option.some.inj (HX.out.symm.trans hc)
            exact ⟨h1, h2⟩
        have HE' : Hid (∀ wx, Calls Tryz.prog 116 #[.agg #[.int .i64 x0, .int .i64 x1, .int .i64 x2], .agg #[.int .i64 a0, .int .i64 a1, .int .i64 a2]] wx fun e w' => e = .returned (.bool false) ∧ RowKit.Below wx.heap.size wx w') := fun wx => by
          have h := HE.out wx
          rw [decide_eq_false hnl] at h
          exact h
        clear HE hnl HSP HLE
        rcases hsp with ⟨hs, hsq⟩ | ⟨hs, hsq⟩
        · have HSQ : Hid (putA l (a0, a1, a2) = l.take k ++ [(a0, a1, min a2 x2)] ++ l.drop (k + 1)) := hsq
          clear hsq
          go_wp2_with fail
          go_region_held3 (fun w' => w'.cell? ⟨b, off + k * 3, none⟩ = some (.int .i64 x0) ∧ w'.cell? ⟨b, off + k * 3 + 1, none⟩ = some (.int .i64 x1) ∧ w'.cell? ⟨b, off + k * 3 + 2, none⟩ = some (.int .i64 x2) ∧ w'.cell? ⟨w.heap.size, 0, none⟩ = some (.int .i64 a0) ∧ w'.cell? ⟨w.heap.size, 1, none⟩ = some (.int .i64 a1) ∧ w'.cell? ⟨w.heap.size, 2, none⟩ = some (.int .i64 a2)) (go_keep) (first
            | (go_at_call 116; refine (HE'.out _).mono ?_; rintro e w1 ⟨rfl, hL1⟩; have HL1 : Hid (RowKit.Below wr.heap.size wr w1) := (RowKit.Below.refl _ wr).drew.trans hL1; obtain ⟨⟨g0, g1, g2⟩, g3, g4, g5⟩ := HCL.out w1 HL1.out; clear hL1))
          all_goals
            have HBW : Hid (RowKit.Below W0.heap.size W0 w1) := HB.out.trans (HL1.out.mono HB.out.size)
            clear HB HL1 HCL HE' g0 g1 g2 g3 g4 g5 t0 t1 t2 q0 q1 q2 hbl hwl
            obtain ⟨hx0, hx1⟩ := hs
            simp only at hx0 hx1
            have hto := fun wx => HCU.out.to k hk0 wx
            obtain ⟨fo, hfr, hfn, hfa⟩ := HCU.out.from (k + 1) (by omega)
            have HFA : Hid (type_of% hfa) := hfa
            have HLK : Hid ((l.take k).length = k) := by show _ = _; rw [List.length_take]; omega
            have HLD : Hid ((l.drop (k + 1)).length = l.length - (k + 1)) := List.length_drop
            have HFN : Hid (fo = none → lc - (k + 1) = 0) := hfn
            clear hfa hfn
            go_wp2_with (at_builtin; refine wpList_append_arcs rfl _ _ rfl W0.heap.size (.slice none 0 0) [] rfl (World.ownsRow_nil _ _ _ _) (some ⟨b, off, none⟩) lc (l.take k) (by rw [HLK.out]; rfl) (by rw [HLK.out]; exact arcs_take (HK.out _ HBW.out).2.2 k hk0) HCU.out.le.2 (by rw [HLK.out]; simp; omega) HBW.out.size ?_; intro v2 w2 hown2 hgr2; rw [List.nil_append] at hown2; obtain ⟨so2, sc2, hv2⟩ := rowC_slice hown2; rw [HLK.out] at hv2; subst hv2; have HO2 : Hid (w2.ownsRow W0.heap.size 70 3 (.slice so2 k sc2) (l.take k).length (flatC (l.take k))) := hown2; have HB2 : Hid (RowKit.Below W0.heap.size W0 w2) := below_grown HBW.out (World.ownsRow_nil _ _ _ _) hgr2 HBW.out.size; obtain ⟨hbox2, _, hA2⟩ := HK.out w2 HB2.out; obtain ⟨u0, u1, u2⟩ : w2.cell? ⟨w.heap.size, 0, none⟩ = some (.int .i64 a0) ∧ w2.cell? ⟨w.heap.size, 1, none⟩ = some (.int .i64 a1) ∧ w2.cell? ⟨w.heap.size, 2, none⟩ = some (.int .i64 a2) := (by simp [World.cell?, hbox2]); have u3 : w2.frozen? ⟨w.heap.size, 2, none⟩ = false := (by simp [World.frozen?, hbox2]); have hwl2 : w.heap.size < w2.heap.size := lt_of_get hbox2; obtain ⟨b', off', e', _, s0, s1, s2⟩ := hA2.at HX.out; cases e'; clear hown2 hgr2 hbox2 hA2)
            have HO2b : Hid (∀ q v X, (((w2.drewN q).setCell ⟨w.heap.size, 2, none⟩ v).alloc X).ownsRow W0.heap.size 70 3 (.slice so2 k sc2) (l.take k).length (flatC (l.take k))) := fun q v X => by
              have hs := HS0.out
              refine rowC_keep (rowC_far HO2.out (fun g hg _ => ?_)) ((RowKit.Below.refl _ _).alloc (Nat.le_refl _) _)
              exact heap_setCell_other _ _ _ _ (by show g ≠ w.heap.size; omega)
            have HBb : Hid (∀ q v X, RowKit.Below w.heap.size w (((w2.drewN q).setCell ⟨w.heap.size, 2, none⟩ v).alloc X)) := fun q v X => by
              have h := (HK.out w2 HB2.out).2.1
              have h2 : RowKit.Below w.heap.size w (w2.drewN q) := ⟨h.os, h.tape, h.output, h.size, h.block⟩
              exact (h2.setCell (p := ⟨w.heap.size, 2, none⟩) (Nat.le_refl _) v).alloc (by simp; exact h.size) X
            have hk1 : ((k + 1 : Nat) : Int) = (k : Int) + 1 := by omega
            rw [hk1] at hfr
            clear hk1
            go_quiet (fail)
            go_wp2_with fail
            go_region
            go_wp2_with (at_builtin; first | (refine wpList_append_arcs rfl _ _ rfl W0.heap.size (.slice so2 k sc2) (l.take k) rfl (HO2b.out _ _ _) (some ⟨w2.heap.size, 0, none⟩) 1 [(a0, a1, min a2 x2)] rfl (by simpa using arcs_one ((w2.drewN _).setCell ⟨w.heap.size, 2, none⟩ (.int .i64 (min a2 x2))) (a0, a1, min a2 x2) 70) (fun e => by cases e) (by simp only [HLK.out, List.length_cons, List.length_nil]; omega) (by have := HB2.out.size; simp; omega) ?_; intro v3 w3 hown3 hgr3; obtain ⟨so3, sc3, hv3⟩ := rowC_slice hown3; have hv3' : v3 = .slice so3 (k + 1) sc3 := (by rw [hv3, List.length_append, HLK.out]; rfl); clear hv3; subst hv3'; have HO3 : Hid (w3.ownsRow W0.heap.size 70 3 (.slice so3 (k + 1) sc3) (l.take k ++ [(a0, a1, min a2 x2)]).length (flatC (l.take k ++ [(a0, a1, min a2 x2)]))) := hown3; have HB3 : Hid (RowKit.Below w.heap.size w w3 ∧ W0.heap.size ≤ w3.heap.size) := ⟨below_grown2 (HBb.out _ _ _) (HO2b.out _ _ _) hgr3 (HBb.out _ _ _).size (by have := HS0.out; omega), Nat.le_trans HB2.out.size (Nat.le_trans (by simp) hgr3.size)⟩; clear hown3 hgr3 u0 u1 u2 u3 hwl2 s0 s1 s2) | (refine wpList_append_arcs rfl _ _ rfl W0.heap.size (.slice so3 (k + 1) sc3) (l.take k ++ [(a0, a1, min a2 x2)]) rfl HO3.out fo (lc - (k + 1)) (l.drop (k + 1)) (by rw [HLD.out]; rfl) (by rw [HLD.out]; exact HFA.out _ l rfl (HL.out.keep HB3.out.1)) HFN.out (by simp only [List.length_append, HLK.out, HLD.out, List.length_cons, List.length_nil]; omega) HB3.out.2 ?_; intro v4 w4 hown4 hgr4; have HO4 : Hid (w4.ownsRow W0.heap.size 70 3 v4 (l.take k ++ [(a0, a1, min a2 x2)] ++ l.drop (k + 1)).length (flatC (l.take k ++ [(a0, a1, min a2 x2)] ++ l.drop (k + 1)))) := hown4; have HB4 : Hid (RowKit.Below w.heap.size w w4) := below_grown2 HB3.out.1 HO3.out hgr4 HB3.out.1.size (by have := HS0.out; omega); clear hown4 hgr4))
            go_wp2
            go_ret
            refine ⟨_, rfl, ?_, HB4.out⟩
            have h := HO4.out
            rw [HSQ.out, ← HS0.out]
            exact h
        · have HSQ : Hid (putA l (a0, a1, a2) = l.take k ++ [(a0, a1, a2)] ++ l.drop k) := hsq
          clear hsq
          go_wp2_with fail
          go_region_held3 (fun w' => w'.cell? ⟨b, off + k * 3, none⟩ = some (.int .i64 x0) ∧ w'.cell? ⟨b, off + k * 3 + 1, none⟩ = some (.int .i64 x1) ∧ w'.cell? ⟨b, off + k * 3 + 2, none⟩ = some (.int .i64 x2) ∧ w'.cell? ⟨w.heap.size, 0, none⟩ = some (.int .i64 a0) ∧ w'.cell? ⟨w.heap.size, 1, none⟩ = some (.int .i64 a1) ∧ w'.cell? ⟨w.heap.size, 2, none⟩ = some (.int .i64 a2)) (go_keep) (first
            | (go_at_call 116; refine (HE'.out _).mono ?_; rintro e w1 ⟨rfl, hL1⟩; have HL1 : Hid (RowKit.Below wr.heap.size wr w1) := (RowKit.Below.refl _ wr).drew.trans hL1; obtain ⟨⟨g0, g1, g2⟩, g3, g4, g5⟩ := HCL.out w1 HL1.out; clear hL1))
          all_goals
            have HBW : Hid (RowKit.Below W0.heap.size W0 w1) := HB.out.trans (HL1.out.mono HB.out.size)
            clear HB HL1 HCL HE' g0 g1 g2 g3 g4 g5 t0 t1 t2 q0 q1 q2 hbl hwl
            by_cases hx0 : x0 = a0
            · have hx1 : ¬ x1 = a1 := fun h => hs ⟨hx0, h⟩
              clear hs
              have hto := fun wx => HCU.out.to k hk0 wx
              obtain ⟨fo, hfr, hfn, hfa⟩ := HCU.out.from k hk0
              have HFA : Hid (type_of% hfa) := hfa
              have HLK : Hid ((l.take k).length = k) := by show _ = _; rw [List.length_take]; omega
              have HLD : Hid ((l.drop k).length = l.length - k) := List.length_drop
              have HFN : Hid (fo = none → lc - k = 0) := hfn
              clear hfa hfn
              go_wp2_with (at_builtin; refine wpList_append_arcs rfl _ _ rfl W0.heap.size (.slice none 0 0) [] rfl (World.ownsRow_nil _ _ _ _) (some ⟨b, off, none⟩) lc (l.take k) (by rw [HLK.out]; rfl) (by rw [HLK.out]; exact arcs_take (HK.out _ HBW.out).2.2 k hk0) HCU.out.le.2 (by rw [HLK.out]; simp; omega) HBW.out.size ?_; intro v2 w2 hown2 hgr2; rw [List.nil_append] at hown2; obtain ⟨so2, sc2, hv2⟩ := rowC_slice hown2; rw [HLK.out] at hv2; subst hv2; have HO2 : Hid (w2.ownsRow W0.heap.size 70 3 (.slice so2 k sc2) (l.take k).length (flatC (l.take k))) := hown2; have HB2 : Hid (RowKit.Below W0.heap.size W0 w2) := below_grown HBW.out (World.ownsRow_nil _ _ _ _) hgr2 HBW.out.size; obtain ⟨hbox2, _, hA2⟩ := HK.out w2 HB2.out; obtain ⟨u0, u1, u2⟩ : w2.cell? ⟨w.heap.size, 0, none⟩ = some (.int .i64 a0) ∧ w2.cell? ⟨w.heap.size, 1, none⟩ = some (.int .i64 a1) ∧ w2.cell? ⟨w.heap.size, 2, none⟩ = some (.int .i64 a2) := (by simp [World.cell?, hbox2]); have hwl2 : w.heap.size < w2.heap.size := lt_of_get hbox2; obtain ⟨b', off', e', _, s0, s1, s2⟩ := hA2.at HX.out; cases e'; clear hown2 hgr2 hbox2 hA2)
              go_quiet (fail)
              go_wp2_with (at_builtin; first | (refine wpList_append_arcs rfl _ _ rfl W0.heap.size (.slice so2 k sc2) (l.take k) rfl (rowC_keep HO2.out (below_dalloc w2 _ _)) (some ⟨w2.heap.size, 0, none⟩) 1 [(a0, a1, a2)] rfl (arcs_one (w2.drewN _) (a0, a1, a2) 70) (fun e => by cases e) (by simp only [HLK.out, List.length_cons, List.length_nil]; omega) (Nat.le_trans HB2.out.size (below_dalloc w2 _ _).size) ?_; intro v3 w3 hown3 hgr3; obtain ⟨so3, sc3, hv3⟩ := rowC_slice hown3; have hv3' : v3 = .slice so3 (k + 1) sc3 := (by rw [hv3, List.length_append, HLK.out]; rfl); clear hv3; subst hv3'; have HO3 : Hid (w3.ownsRow W0.heap.size 70 3 (.slice so3 (k + 1) sc3) (l.take k ++ [(a0, a1, a2)]).length (flatC (l.take k ++ [(a0, a1, a2)]))) := hown3; have HB3 : Hid (RowKit.Below W0.heap.size W0 w3) := below_grown (HB2.out.trans ((below_dalloc w2 _ _).mono HB2.out.size)) (rowC_keep HO2.out (below_dalloc w2 _ _)) hgr3 (Nat.le_trans HB2.out.size (below_dalloc w2 _ _).size); clear hown3 hgr3 u0 u1 u2 hwl2 s0 s1 s2) | (refine wpList_append_arcs rfl _ _ rfl W0.heap.size (.slice so3 (k + 1) sc3) (l.take k ++ [(a0, a1, a2)]) rfl HO3.out fo (lc - k) (l.drop k) (by rw [HLD.out]; rfl) (by rw [HLD.out]; exact HFA.out _ l rfl (HK.out _ HB3.out).2.2) HFN.out (by simp only [List.length_append, HLK.out, HLD.out, List.length_cons, List.length_nil]; omega) HB3.out.size ?_; intro v4 w4 hown4 hgr4; have HO4 : Hid (w4.ownsRow W0.heap.size 70 3 v4 (l.take k ++ [(a0, a1, a2)] ++ l.drop k).length (flatC (l.take k ++ [(a0, a1, a2)] ++ l.drop k))) := hown4; have HB4 : Hid (RowKit.Below W0.heap.size W0 w4) := below_grown HB3.out HO3.out hgr4 HB3.out.size; clear hown4 hgr4))
              go_wp2
              go_ret
              refine ⟨_, rfl, ?_, (HK.out w4 HB4.out).2.1⟩
              have h := HO4.out
              rw [HSQ.out, ← HS0.out]
              exact h
            · clear hs
              have hto := fun wx => HCU.out.to k hk0 wx
              obtain ⟨fo, hfr, hfn, hfa⟩ := HCU.out.from k hk0
              have HFA : Hid (type_of% hfa) := hfa
              have HLK : Hid ((l.take k).length = k) := by show _ = _; rw [List.length_take]; omega
              have HLD : Hid ((l.drop k).length = l.length - k) := List.length_drop
              have HFN : Hid (fo = none → lc - k = 0) := hfn
              clear hfa hfn
              go_wp2_with (at_builtin; refine wpList_append_arcs rfl _ _ rfl W0.heap.size (.slice none 0 0) [] rfl (World.ownsRow_nil _ _ _ _) (some ⟨b, off, none⟩) lc (l.take k) (by rw [HLK.out]; rfl) (by rw [HLK.out]; exact arcs_take (HK.out _ HBW.out).2.2 k hk0) HCU.out.le.2 (by rw [HLK.out]; simp; omega) HBW.out.size ?_; intro v2 w2 hown2 hgr2; rw [List.nil_append] at hown2; obtain ⟨so2, sc2, hv2⟩ := rowC_slice hown2; rw [HLK.out] at hv2; subst hv2; have HO2 : Hid (w2.ownsRow W0.heap.size 70 3 (.slice so2 k sc2) (l.take k).length (flatC (l.take k))) := hown2; have HB2 : Hid (RowKit.Below W0.heap.size W0 w2) := below_grown HBW.out (World.ownsRow_nil _ _ _ _) hgr2 HBW.out.size; obtain ⟨hbox2, _, hA2⟩ := HK.out w2 HB2.out; obtain ⟨u0, u1, u2⟩ : w2.cell? ⟨w.heap.size, 0, none⟩ = some (.int .i64 a0) ∧ w2.cell? ⟨w.heap.size, 1, none⟩ = some (.int .i64 a1) ∧ w2.cell? ⟨w.heap.size, 2, none⟩ = some (.int .i64 a2) := (by simp [World.cell?, hbox2]); have hwl2 : w.heap.size < w2.heap.size := lt_of_get hbox2; obtain ⟨b', off', e', _, s0, s1, s2⟩ := hA2.at HX.out; cases e'; clear hown2 hgr2 hbox2 hA2)
              go_quiet (fail)
              go_wp2_with (at_builtin; first | (refine wpList_append_arcs rfl _ _ rfl W0.heap.size (.slice so2 k sc2) (l.take k) rfl (rowC_keep HO2.out (below_dalloc w2 _ _)) (some ⟨w2.heap.size, 0, none⟩) 1 [(a0, a1, a2)] rfl (arcs_one (w2.drewN _) (a0, a1, a2) 70) (fun e => by cases e) (by simp only [HLK.out, List.length_cons, List.length_nil]; omega) (Nat.le_trans HB2.out.size (below_dalloc w2 _ _).size) ?_; intro v3 w3 hown3 hgr3; obtain ⟨so3, sc3, hv3⟩ := rowC_slice hown3; have hv3' : v3 = .slice so3 (k + 1) sc3 := (by rw [hv3, List.length_append, HLK.out]; rfl); clear hv3; subst hv3'; have HO3 : Hid (w3.ownsRow W0.heap.size 70 3 (.slice so3 (k + 1) sc3) (l.take k ++ [(a0, a1, a2)]).length (flatC (l.take k ++ [(a0, a1, a2)]))) := hown3; have HB3 : Hid (RowKit.Below W0.heap.size W0 w3) := below_grown (HB2.out.trans ((below_dalloc w2 _ _).mono HB2.out.size)) (rowC_keep HO2.out (below_dalloc w2 _ _)) hgr3 (Nat.le_trans HB2.out.size (below_dalloc w2 _ _).size); clear hown3 hgr3 u0 u1 u2 hwl2 s0 s1 s2) | (refine wpList_append_arcs rfl _ _ rfl W0.heap.size (.slice so3 (k + 1) sc3) (l.take k ++ [(a0, a1, a2)]) rfl HO3.out fo (lc - k) (l.drop k) (by rw [HLD.out]; rfl) (by rw [HLD.out]; exact HFA.out _ l rfl (HK.out _ HB3.out).2.2) HFN.out (by simp only [List.length_append, HLK.out, HLD.out, List.length_cons, List.length_nil]; omega) HB3.out.size ?_; intro v4 w4 hown4 hgr4; have HO4 : Hid (w4.ownsRow W0.heap.size 70 3 v4 (l.take k ++ [(a0, a1, a2)] ++ l.drop k).length (flatC (l.take k ++ [(a0, a1, a2)] ++ l.drop k))) := hown4; have HB4 : Hid (RowKit.Below W0.heap.size W0 w4) := below_grown HB3.out HO3.out hgr4 HB3.out.size; clear hown4 hgr4))
              go_wp2
              go_ret
              refine ⟨_, rfl, ?_, (HK.out w4 HB4.out).2.1⟩
              have h := HO4.out
              rw [HSQ.out, ← HS0.out]
              exact h
    · obtain rfl : k = k0 := by omega
      have HBW : Hid (∀ q, RowKit.Below W0.heap.size W0 (wr.drewN q)) := fun q => ⟨HB.out.os, HB.out.tape, HB.out.output, HB.out.size, HB.out.block⟩
      have b1 : ¬ (k : Int) < (l.length : Int) := by omega
      have HSQ : Hid (putA l (a0, a1, a2) = l.take k ++ [(a0, a1, a2)] ++ l.drop k) := by
        rcases HSP.out with ⟨_, h⟩ | ⟨b, hb, _⟩
        · exact h
        · exact absurd (List.getElem?_eq_some_iff.1 hb).1 hlt
      clear HSP HLE HB hA
      go_wp2_with fail
      go_quiet (fail)
      have hto := fun wx => HCU.out.to k hk0 wx
      obtain ⟨fo, hfr, hfn, hfa⟩ := HCU.out.from k hk0
      have HFA : Hid (type_of% hfa) := hfa
      have HLK : Hid ((l.take k).length = k) := by show _ = _; rw [List.length_take]; omega
      have HLD : Hid ((l.drop k).length = l.length - k) := List.length_drop
      have HFN : Hid (fo = none → lc - k = 0) := hfn
      clear hfa hfn
      go_wp2_with (at_builtin; refine wpList_append_arcs rfl _ _ rfl W0.heap.size (.slice none 0 0) [] rfl (World.ownsRow_nil _ _ _ _) lo lc (l.take k) (by rw [HLK.out]; rfl) (by rw [HLK.out]; exact arcs_take (HK.out _ (HBW.out _)).2.2 k hk0) HCU.out.le.2 (by rw [HLK.out]; simp; omega) (HBW.out 0).size ?_; intro v2 w2 hown2 hgr2; rw [List.nil_append] at hown2; obtain ⟨so2, sc2, hv2⟩ := rowC_slice hown2; rw [HLK.out] at hv2; subst hv2; have HO2 : Hid (w2.ownsRow W0.heap.size 70 3 (.slice so2 k sc2) (l.take k).length (flatC (l.take k))) := hown2; have HB2 : Hid (RowKit.Below W0.heap.size W0 w2) := below_grown (HBW.out _) (World.ownsRow_nil _ _ _ _) hgr2 (HBW.out 0).size; obtain ⟨hbox2, _, hA2⟩ := HK.out w2 HB2.out; obtain ⟨u0, u1, u2⟩ : w2.cell? ⟨w.heap.size, 0, none⟩ = some (.int .i64 a0) ∧ w2.cell? ⟨w.heap.size, 1, none⟩ = some (.int .i64 a1) ∧ w2.cell? ⟨w.heap.size, 2, none⟩ = some (.int .i64 a2) := (by simp [World.cell?, hbox2]); have hwl2 : w.heap.size < w2.heap.size := lt_of_get hbox2; clear hown2 hgr2 hbox2 t0 t1 t2 hA2)
      go_quiet (fail)
      go_wp2_with (at_builtin; first | (refine wpList_append_arcs rfl _ _ rfl W0.heap.size (.slice so2 k sc2) (l.take k) rfl (rowC_keep HO2.out (below_dalloc w2 _ _)) (some ⟨w2.heap.size, 0, none⟩) 1 [(a0, a1, a2)] rfl (arcs_one (w2.drewN _) (a0, a1, a2) 70) (fun e => by cases e) (by simp only [HLK.out, List.length_cons, List.length_nil]; omega) (Nat.le_trans HB2.out.size (below_dalloc w2 _ _).size) ?_; intro v3 w3 hown3 hgr3; obtain ⟨so3, sc3, hv3⟩ := rowC_slice hown3; have hv3' : v3 = .slice so3 (k + 1) sc3 := (by rw [hv3, List.length_append, HLK.out]; rfl); clear hv3; subst hv3'; have HO3 : Hid (w3.ownsRow W0.heap.size 70 3 (.slice so3 (k + 1) sc3) (l.take k ++ [(a0, a1, a2)]).length (flatC (l.take k ++ [(a0, a1, a2)]))) := hown3; have HB3 : Hid (RowKit.Below W0.heap.size W0 w3) := below_grown (HB2.out.trans ((below_dalloc w2 _ _).mono HB2.out.size)) (rowC_keep HO2.out (below_dalloc w2 _ _)) hgr3 (Nat.le_trans HB2.out.size (below_dalloc w2 _ _).size); clear hown3 hgr3 u0 u1 u2 hwl2) | (refine wpList_append_arcs rfl _ _ rfl W0.heap.size (.slice so3 (k + 1) sc3) (l.take k ++ [(a0, a1, a2)]) rfl HO3.out fo (lc - k) (l.drop k) (by rw [HLD.out]; rfl) (by rw [HLD.out]; exact HFA.out _ l rfl (HK.out _ HB3.out).2.2) HFN.out (by simp only [List.length_append, HLK.out, HLD.out, List.length_cons, List.length_nil]; omega) HB3.out.size ?_; intro v4 w4 hown4 hgr4; have HO4 : Hid (w4.ownsRow W0.heap.size 70 3 v4 (l.take k ++ [(a0, a1, a2)] ++ l.drop k).length (flatC (l.take k ++ [(a0, a1, a2)] ++ l.drop k))) := hown4; have HB4 : Hid (RowKit.Below W0.heap.size W0 w4) := below_grown HB3.out HO3.out hgr4 HB3.out.size; clear hown4 hgr4))
      go_wp2
      go_ret
      refine ⟨_, rfl, ?_, (HK.out w4 HB4.out).2.1⟩
      have h := HO4.out
      rw [HSQ.out, ← HS0.out]
      exact h
end Go.Proofs.YtbkclhaonbjobaaGreatDoor

namespace Go.Proofs.YtbkclhaonbjobaaGreatDoor
open Go.RowKit Go.Extern Go.Sort Go.Shelf

attribute [local go_sem] Oper.semAt_some

theorem normA_snoc {xs : List (Int × Int × Int)} {k : Nat} {a : Int × Int × Int} (h : xs[k]? = some a) : normA (xs.take (k + 1)) = if a.1 == a.2.1 then normA (xs.take k) else putA (normA (xs.take k)) a := by
  unfold normA
  rw [kept_snoc h, List.foldl_append]
  split <;> rfl
theorem put_len : ∀ (l : List (Int × Int × Int)) (a : Int × Int × Int), 0 < (putA l a).length ∧ (putA l a).length ≤ l.length + 1
  | [], a => ⟨by simp [putA], by simp [putA]⟩
  | b :: r, a => by
    have ih := put_len r a
    unfold putA
    split
    · simp; omega
    · split <;> simp
theorem normA_take_len {xs : List (Int × Int × Int)} (k : Nat) : (normA (xs.take k)).length ≤ k := by
  have h := (normA_norm (xs.take k))
  have : (normA (xs.take k)).length ≤ (kept (xs.take k)).length := by
    unfold normA
    have gen : ∀ (r l : List (Int × Int × Int)), (r.foldl putA l).length ≤ l.length + r.length := by
      intro r
      induction r with
      | nil => intro l; simp
      | cons a r ih => intro l; simp only [List.foldl_cons, List.length_cons]; have := ih (putA l a); have := (put_len l a).2; omega
    simpa using gen (kept (xs.take k)) []
  exact Nat.le_trans this (Nat.le_trans (kept_le _) (by rw [List.length_take]; omega))
theorem rowC_base {w : World} {base base' n : Nat} {xs : List Value} {v : Value} (h : w.ownsRow base' 70 3 v n xs) (hb : base ≤ base') : w.ownsRow base 70 3 v n xs := by
  obtain ⟨h1, h2⟩ := h
  refine ⟨h1, ?_⟩
  rcases h2 with h2 | ⟨g, cap, cur, e, hg, r⟩
  · exact Or.inl h2
  · exact Or.inr ⟨g, cap, cur, e, Nat.le_trans hb hg, r⟩
theorem cut_of_row {w : World} {base n cap : Nat} {xs : List Value} {so : Option Addr} (h : w.ownsRow base 70 3 (.slice so n cap) n xs) (h0 : n = 0 → so = none ∧ cap = 0) : Cut so n cap := by
  rcases h.2 with ⟨e, hn⟩ | ⟨g, cap', cur, e, _, _, hle, _⟩
  · exact Or.inl ⟨(h0 hn).1, hn, (h0 hn).2⟩
  · cases e
    rcases Nat.eq_zero_or_pos n with hn | hn
    · exact absurd (h0 hn).1 (by simp)
    · exact Or.inr ⟨g, 0, rfl, hn, hle⟩
/-- what holds at each round. -/
structure ROI (w : World) (N : Int) (ao : Option Addr) (cap : Nat) (xs : List (Int × Int × Int)) (l : List (Int × Int × Int)) (so : Option Addr) (sc : Nat) (wr : World) : Prop where
  row : wr.ownsRow (w.heap.size + 3) 70 3 (.slice so l.length sc) l.length (flatC l)
  cut : Cut so l.length sc
  box : wr.heap[w.heap.size]? = some (.cells #[.int .i64 N, .slice ao xs.length cap] 24)
  res : wr.heap[w.heap.size + 1]? = some (.cells #[.int .i64 0, .slice none 0 0] 24)
  c : wr.heap[w.heap.size + 2]? = some (.cells #[.int .i64 N, .slice so l.length sc] 24)
  below : RowKit.Below w.heap.size w wr
theorem ROI.keep {w : World} {N : Int} {ao : Option Addr} {cap : Nat} {xs l : List (Int × Int × Int)} {so : Option Addr} {sc : Nat} {wr wn : World} (h : ROI w N ao cap xs l so sc wr) (hb : RowKit.Below wr.heap.size wr wn) : ROI w N ao cap xs l so sc wn :=
  ⟨rowC_keep h.row hb, h.cut, (hb.block _ (lt_of_get h.box)).trans h.box, (hb.block _ (lt_of_get h.res)).trans h.res, (hb.block _ (lt_of_get h.c)).trans h.c, h.below.trans (hb.mono h.below.size)⟩
theorem ROI.put {w : World} {N : Int} {ao : Option Addr} {cap : Nat} {xs l l' : List (Int × Int × Int)} {so so' : Option Addr} {sc sc' base : Nat} {wr : World} (h : ROI w N ao cap xs l so sc wr) (hr : wr.ownsRow base 70 3 (.slice so' l'.length sc') l'.length (flatC l')) (hbase : w.heap.size + 3 ≤ base) (hl : 0 < l'.length) : ROI w N ao cap xs l' so' sc' (wr.setCell ⟨w.heap.size + 2, 1, none⟩ (.slice so' l'.length sc')) := by
  refine ⟨rowC_far (rowC_base hr hbase) (fun g hg _ => heap_setCell_other _ _ _ _ (by show g ≠ w.heap.size + 2; omega)), cut_of_row hr (fun e => by omega), ?_, ?_, ?_, h.below.setCell (p := ⟨w.heap.size + 2, 1, none⟩) (by show w.heap.size ≤ w.heap.size + 2; omega) _⟩
  · rw [heap_setCell_other _ _ _ _ (by show w.heap.size ≠ w.heap.size + 2; omega)]; exact h.box
  · rw [heap_setCell_other _ _ _ _ (by show w.heap.size + 1 ≠ w.heap.size + 2; omega)]; exact h.res
  · simp only [World.setCell, Array.getElem?_modify]
    rw [if_pos True.intro, h.c]
    rfl

set_option maxRecDepth 100000 in
set_option maxHeartbeats 1000000 in
theorem refOf_calls (N : Int) (ao : Option Addr) (cap : Nat) (xs : List (Int × Int × Int)) (w : World) (hl : HasArcs w (.slice ao xs.length cap) xs) (hm : xs.length ≤ 262144) :
    Calls Tryz.prog 77 #[.agg #[.int .i64 N, .slice ao xs.length cap]] w fun e w' => ∃ lo lc, e = .returned (.agg #[.int .i64 N, .slice lo (normA xs).length lc]) ∧ HasArcs w' (.slice lo (normA xs).length lc) (normA xs) ∧ NewA w.heap.size (.slice lo (normA xs).length lc) ∧ RowKit.Below w.heap.size w w' := by
  obtain ⟨W0, hW0⟩ : ∃ W0, ((w.alloc (.cells #[.int .i64 N, .slice ao xs.length cap] 24)).alloc (.cells #[.int .i64 0, .slice none 0 0] 24)).alloc (.cells #[.int .i64 N, .slice none 0 0] 24) = W0 := ⟨_, rfl⟩
  have hB0 : RowKit.Below w.heap.size w W0 := by rw [← hW0]; exact (((RowKit.Below.refl _ w).alloc (Nat.le_refl _) _).alloc (by simp) _).alloc (by simp; omega) _
  have k0 : W0.heap[w.heap.size]? = some (.cells #[.int .i64 N, .slice ao xs.length cap] 24) := by rw [← hW0, RowKit.Below.heap_alloc _ _ _ (by simp; omega), RowKit.Below.heap_alloc _ _ _ (by simp)]; exact heap_new _ _
  have k1 : W0.heap[w.heap.size + 1]? = some (.cells #[.int .i64 0, .slice none 0 0] 24) := by
    rw [← hW0, RowKit.Below.heap_alloc _ _ _ (by simp)]
    have h := heap_new (w.alloc (.cells #[.int .i64 N, .slice ao xs.length cap] 24)) (.cells #[.int .i64 0, .slice none 0 0] 24)
    simpa using h
  have k2 : W0.heap[w.heap.size + 2]? = some (.cells #[.int .i64 N, .slice none 0 0] 24) := by
    have h := heap_new ((w.alloc (.cells #[.int .i64 N, .slice ao xs.length cap] 24)).alloc (.cells #[.int .i64 0, .slice none 0 0] 24)) (.cells #[.int .i64 N, .slice none 0 0] 24)
    rw [hW0] at h
    simpa using h
  have HW0 : Hid (((w.alloc (.cells #[.int .i64 N, .slice ao xs.length cap] 24)).alloc (.cells #[.int .i64 0, .slice none 0 0] 24)).alloc (.cells #[.int .i64 N, .slice none 0 0] 24) = W0) := hW0
  have HI0 : Hid (ROI w N ao cap xs [] none 0 W0) := ⟨World.ownsRow_nil _ _ _ _, Or.inl ⟨rfl, rfl, rfl⟩, k0, k1, k2, hB0⟩
  have HL : Hid (HasArcs w (.slice ao xs.length cap) xs) := hl
  clear hl k0 k1 k2 hB0 hW0
  go_enter Tryz.func77, Tryz.ntmps77
  go_wp2_with fail
  rw [HW0.out]
  go_loopw [12] (fun iv wr => ∃ (k : Nat) (so : Option Addr) (sc : Nat), k ≤ xs.length ∧ iv = .int .i64 k ∧ ROI w N ao cap xs (normA (xs.take k)) so sc wr) (fun iv _ => xs.length - (intOf iv).toNat)
  case atStart => exact ⟨0, none, 0, Nat.zero_le _, rfl, HI0.out⟩
  case round =>
    obtain ⟨k, so, sc, hk, rfl, hinv⟩ := hrel
    have HI : Hid (ROI w N ao cap xs (normA (xs.take k)) so sc wr) := hinv
    have hcx := hinv.c
    have hrx := hinv.res
    have hlc : w.heap.size + 1 + 1 < wr.heap.size := lt_of_get hcx
    have b0 : (0 : Int) ≤ k := by omega
    clear hinv
    by_cases hlt : k < xs.length
    · obtain ⟨a, ha⟩ : ∃ a, xs[k]? = some a := ⟨xs[k], List.getElem?_eq_getElem hlt⟩
      obtain ⟨b, off, hao, hbl, q0, q1, q2⟩ := HL.out.at ha
      subst hao
      have e0 := (HI.out.below.cell (p := ⟨b, off + k * 3, none⟩) hbl).trans q0
      have e1 := (HI.out.below.cell (p := ⟨b, off + k * 3 + 1, none⟩) hbl).trans q1
      have e2 := (HI.out.below.cell (p := ⟨b, off + k * 3 + 2, none⟩) hbl).trans q2
      have HSN : Hid (normA (xs.take (k + 1)) = if a.1 == a.2.1 then normA (xs.take k) else putA (normA (xs.take k)) a) := normA_snoc ha
      have HLN : Hid ((normA (xs.take k)).length ≤ k) := normA_take_len k
      have b1 : (k : Int) < (xs.length : Int) := by omega
      clear q0 q1 q2 ha
      obtain ⟨a0, a1, a2⟩ := a
      simp only at e0 e1 e2 HSN
      generalize normA (xs.take k) = l at *
      obtain ⟨W1, hW1⟩ : ∃ W1, wr.alloc (.cells #[.int .i64 a0, .int .i64 a1, .int .i64 a2] 70) = W1 := ⟨_, rfl⟩
      have HI1 : Hid (ROI w N (some ⟨b, off, none⟩) cap xs l so sc W1) := by rw [← hW1]; exact HI.out.keep ((RowKit.Below.refl _ _).alloc (Nat.le_refl _) _)
      have HW1 : Hid (wr.alloc (.cells #[.int .i64 a0, .int .i64 a1, .int .i64 a2] 70) = W1) := hW1
      obtain ⟨d0, d1, _, _⟩ : wr.cell? ⟨w.heap.size + 1 + 1, 0, none⟩ = some (.int .i64 N) ∧ wr.cell? ⟨w.heap.size + 1 + 1, 1, none⟩ = some (.slice so l.length sc) ∧ wr.frozen? ⟨w.heap.size + 1 + 1, 0, none⟩ = false ∧ wr.frozen? ⟨w.heap.size + 1 + 1, 1, none⟩ = false := cell_two hcx
      by_cases hab : a0 = a1
      · have HE : Hid (normA (xs.take (k + 1)) = l) := by have h := HSN.out; rw [if_pos (by simpa using hab)] at h; exact h
        clear HSN hcx hrx hW1
        subst hab
        go_wp2
        rw [HW1.out]
        go_roundw
        case rel => exact ⟨k + 1, so, sc, by omega, by go_num, by rw [HE.out]; exact HI1.out⟩
        case measure => simp [intOf]; omega
      · have HE : Hid (normA (xs.take (k + 1)) = putA l (a0, a1, a2)) := by have h := HSN.out; rw [if_neg (by simpa using hab)] at h; exact h
        have HPU : Hid (type_of% (put_calls (a0, a1, a2) so sc l W1 (arcs_of_rowC HI1.out.row) HI1.out.cut (by have := HLN.out; omega))) := put_calls (a0, a1, a2) so sc l W1 (arcs_of_rowC HI1.out.row) HI1.out.cut (by have := HLN.out; omega)
        unfold arcV at HPU
        simp only at HPU
        clear HSN hcx hrx hW1
        go_wp2_with fail
        rw [HW1.out]
        refine HPU.out.mono ?_
        rintro e w5 ⟨v, rfl, hown5, hb5⟩
        obtain ⟨so', sc', hv⟩ := rowC_slice hown5
        subst hv
        have HI5 : Hid (ROI w N (some ⟨b, off, none⟩) cap xs l so sc w5) := HI1.out.keep hb5
        have HI6 : Hid (ROI w N (some ⟨b, off, none⟩) cap xs (putA l (a0, a1, a2)) so' sc' (w5.setCell ⟨w.heap.size + 1 + 1, 1, none⟩ (.slice so' (putA l (a0, a1, a2)).length sc'))) := HI5.out.put hown5 (by have := lt_of_get HI1.out.c; omega) (put_len l _).1
        obtain ⟨f0, f1, f2, f3⟩ : w5.cell? ⟨w.heap.size + 1 + 1, 0, none⟩ = some (.int .i64 N) ∧ w5.cell? ⟨w.heap.size + 1 + 1, 1, none⟩ = some (.slice so l.length sc) ∧ w5.frozen? ⟨w.heap.size + 1 + 1, 0, none⟩ = false ∧ w5.frozen? ⟨w.heap.size + 1 + 1, 1, none⟩ = false := cell_two HI5.out.c
        clear hown5 hb5 d0 d1 e0 e1 e2
        go_wp2
        go_roundw
        case rel => exact ⟨k + 1, so', sc', by omega, by go_num, by rw [HE.out]; exact HI6.out⟩
        case measure => simp [intOf]; omega
    · obtain rfl : k = xs.length := by omega
      rw [List.take_length] at HI hcx
      obtain ⟨d0, d1, _, _⟩ : wr.cell? ⟨w.heap.size + 1 + 1, 0, none⟩ = some (.int .i64 N) ∧ wr.cell? ⟨w.heap.size + 1 + 1, 1, none⟩ = some (.slice so (normA xs).length sc) ∧ wr.frozen? ⟨w.heap.size + 1 + 1, 0, none⟩ = false ∧ wr.frozen? ⟨w.heap.size + 1 + 1, 1, none⟩ = false := cell_two hcx
      obtain ⟨b0', b1', y0, y1⟩ := cell_two hrx
      have HA : Hid (HasArcs wr (.slice so (normA xs).length sc) (normA xs)) := arcs_of_rowC HI.out.row
      have HNR : Hid (∀ a, so = some a → w.heap.size + 3 ≤ a.block) := fun a ha => by
        rcases HI.out.row.2 with ⟨h, _⟩ | ⟨g, cap', cur, h, hg, _⟩
        · injection h with h1; rw [h1] at ha; cases ha
        · injection h with h1; rw [h1] at ha; cases ha; exact hg
      clear hcx hrx
      go_wp2
      refine bodyPost_ret (v := .agg #[.int .i64 N, .slice so (normA xs).length sc]) (by simp [results, Tryz.results77, go_sem, b0', b1']) rfl ⟨so, sc, rfl, ?_, newA_of fun a ha => by have := HNR.out a ha; omega, ?_⟩
      · obtain ⟨ao', cap', e, hc⟩ := HA.out
        refine ⟨ao', cap', e, fun j a hj => ?_⟩
        obtain ⟨b', off', ea, hl', h0, h1, h2⟩ := hc j a hj
        injection e with e1
        have hb' := HNR.out ⟨b', off', none⟩ (e1.trans ea)
        refine ⟨b', off', ea, by simp; exact hl', ?_, ?_, ?_⟩
        · rw [World.cell?_setCell_other _ _ _ _ (by intro e; have := congrArg Addr.block e; simp at this hb'; omega), World.cell?_setCell_other _ _ _ _ (by intro e; have := congrArg Addr.block e; simp at this hb'; omega)]; exact h0
        · rw [World.cell?_setCell_other _ _ _ _ (by intro e; have := congrArg Addr.block e; simp at this hb'; omega), World.cell?_setCell_other _ _ _ _ (by intro e; have := congrArg Addr.block e; simp at this hb'; omega)]; exact h1
        · rw [World.cell?_setCell_other _ _ _ _ (by intro e; have := congrArg Addr.block e; simp at this hb'; omega), World.cell?_setCell_other _ _ _ _ (by intro e; have := congrArg Addr.block e; simp at this hb'; omega)]; exact h2
      · exact (HI.out.below.setCell (p := ⟨w.heap.size + 1, 0, none⟩) (by simp) _).setCell (p := ⟨w.heap.size + 1, 1, none⟩) (by simp) _
end Go.Proofs.YtbkclhaonbjobaaGreatDoor

namespace Go.Proofs.YtbkclhaonbjobaaGreatDoor
open Go.RowKit Go.Extern Go.Sort Go.Shelf

attribute [local go_sem] Oper.semAt_some

theorem firstBad_ne (N : Int) : ∀ (xs : List (Int × Int × Int)) (i : Nat) (q : Nat × Int), firstBad N xs i = some q → q.2 ≠ 0
  | [], _, _, h => by cases h
  | a :: r, i, q, h => by
    rw [firstBad] at h
    split at h
    · exact firstBad_ne N r (i + 1) q h
    · rename_i hne
      cases h
      exact hne
/-- two pairs of cells are laid; nothing of old turns. -/
theorem Below.lay4 {w w2 : World} (h : Below w.heap.size w w2) (c0 c1 c2 c3 : Value) : Below w.heap.size w ((((w2.setCell ⟨w.heap.size + 1, 0, none⟩ c0).setCell ⟨w.heap.size + 1, 1, none⟩ c1).setCell ⟨w.heap.size + 1 + 1, 0, none⟩ c2).setCell ⟨w.heap.size + 1 + 1, 1, none⟩ c3) :=
  (((h.setCell (p := ⟨w.heap.size + 1, 0, none⟩) (by simp) _).setCell (p := ⟨w.heap.size + 1, 1, none⟩) (by simp) _).setCell (p := ⟨w.heap.size + 1 + 1, 0, none⟩) (by show w.heap.size ≤ w.heap.size + 1 + 1; omega) _).setCell (p := ⟨w.heap.size + 1 + 1, 1, none⟩) (by show w.heap.size ≤ w.heap.size + 1 + 1; omega) _
theorem cell_lay4 {b1 b2 : Nat} {W : World} (c0 c1 c2 c3 : Value) {p : Addr} (h1 : p.block ≠ b1) (h2 : p.block ≠ b2) : ((((W.setCell ⟨b1, 0, none⟩ c0).setCell ⟨b1, 1, none⟩ c1).setCell ⟨b2, 0, none⟩ c2).setCell ⟨b2, 1, none⟩ c3).cell? p = W.cell? p := by
  rw [World.cell?_setCell_other _ _ _ _ (fun e => h2 (congrArg Addr.block e).symm), World.cell?_setCell_other _ _ _ _ (fun e => h2 (congrArg Addr.block e).symm), World.cell?_setCell_other _ _ _ _ (fun e => h1 (congrArg Addr.block e).symm), World.cell?_setCell_other _ _ _ _ (fun e => h1 (congrArg Addr.block e).symm)]

theorem HasArcs.lay {W : World} {v : Value} {l : List (Int × Int × Int)} (h : HasArcs W v l) {b1 b2 : Nat} {x0 x1 y0 y1 : Value} {t1 t2 : TypeId} (h1 : W.heap[b1]? = some (.cells #[x0, x1] t1)) (h2 : W.heap[b2]? = some (.cells #[y0, y1] t2)) (c0 c1 c2 c3 : Value) :
    HasArcs ((((W.setCell ⟨b1, 0, none⟩ c0).setCell ⟨b1, 1, none⟩ c1).setCell ⟨b2, 0, none⟩ c2).setCell ⟨b2, 1, none⟩ c3) v l := by
  obtain ⟨ao, cap, e, hc⟩ := h
  refine ⟨ao, cap, e, fun j a hj => ?_⟩
  obtain ⟨b, off, ea, hl, q0, q1, q2⟩ := hc j a hj
  have n1 : b ≠ b1 := fun e => by
    subst e
    simp only [World.cell?, h1] at q2
    have : off + j * 3 + 2 < 2 := by
      rcases Nat.lt_or_ge (off + j * 3 + 2) 2 with h | h
      · exact h
      · rw [if_neg (by simp), Array.getElem?_eq_none (by simp)] at q2; cases q2
    omega
  have n2 : b ≠ b2 := fun e => by
    subst e
    simp only [World.cell?, h2] at q2
    have : off + j * 3 + 2 < 2 := by
      rcases Nat.lt_or_ge (off + j * 3 + 2) 2 with h | h
      · exact h
      · rw [if_neg (by simp), Array.getElem?_eq_none (by simp)] at q2; cases q2
    omega
  exact ⟨b, off, ea, by simp; exact hl, (cell_lay4 _ _ _ _ n1 n2).trans q0, (cell_lay4 _ _ _ _ n1 n2).trans q1, (cell_lay4 _ _ _ _ n1 n2).trans q2⟩

theorem HasPlaces.lay {W : World} {v : Value} {l : List (Int × Int)} (h : HasPlaces W v l) {b1 b2 : Nat} {x0 y0 : Value} {t1 t2 : TypeId} (h1 : W.heap[b1]? = some (.cells #[x0, .slice none 0 0] t1)) (h2 : W.heap[b2]? = some (.cells #[y0, .slice none 0 0] t2)) (c0 c1 c2 c3 : Value) :
    HasPlaces ((((W.setCell ⟨b1, 0, none⟩ c0).setCell ⟨b1, 1, none⟩ c1).setCell ⟨b2, 0, none⟩ c2).setCell ⟨b2, 1, none⟩ c3) v l := by
  obtain ⟨ao, cap, e, hc⟩ := h
  refine ⟨ao, cap, e, fun j a hj => ?_⟩
  obtain ⟨b, off, ea, hl, q0, q1⟩ := hc j a hj
  have key : ∀ (x : Value) (t : TypeId), W.heap[b]? = some (.cells #[x, .slice none 0 0] t) → False := fun x t hb => by
    simp only [World.cell?, hb] at q1
    rw [if_neg (by simp)] at q1
    rcases (show off + j * 2 = 0 ∨ 2 ≤ off + j * 2 + 1 by omega) with h | h
    · rw [h] at q1; simp at q1
    · rw [Array.getElem?_eq_none (by simpa using h)] at q1; cases q1
  have n1 : b ≠ b1 := fun e => key x0 t1 (e ▸ h1)
  have n2 : b ≠ b2 := fun e => key y0 t2 (e ▸ h2)
  exact ⟨b, off, ea, by simp; exact hl, (cell_lay4 _ _ _ _ n1 n2).trans q0, (cell_lay4 _ _ _ _ n1 n2).trans q1⟩

end Go.Proofs.YtbkclhaonbjobaaGreatDoor

namespace Go.Proofs.YtbkclhaonbjobaaGreatDoor
open Go.RowKit Go.Extern Go.Sort Go.Shelf

attribute [local go_sem] Oper.semAt_some

set_option maxRecDepth 100000 in
set_option maxHeartbeats 4000000 in
theorem docOf_calls (N : Int) (ao : Option Addr) (cap : Nat) (xs : List (Int × Int × Int)) (w : World) (hl : HasArcs w (.slice ao xs.length cap) xs) (hm : xs.length ≤ maxLen) :
    Calls Tryz.prog 48 #[.agg #[.int .i64 N, .slice ao xs.length cap]] w fun e w' => ∃ M lo n lc ys po pc, e = .returned (.tuple #[.agg #[.int .i64 M, .slice lo n lc], .agg #[.int .i64 (graphErr N xs).1, .slice po (graphErr N xs).2.length pc]]) ∧ HasArcs w' (.slice lo n lc) ys ∧ NewA w.heap.size (.slice lo n lc) ∧ HasPlaces w' (.slice po (graphErr N xs).2.length pc) (graphErr N xs).2 ∧ ((graphErr N xs = (0, []) ∧ M = N ∧ ys = normA xs) ∨ (graphErr N xs ≠ (0, []) ∧ M = 0 ∧ ys = [])) ∧ RowKit.Below w.heap.size w w' := by
  obtain ⟨W0, hW0⟩ : ∃ W0, ((w.alloc (.cells #[.int .i64 N, .slice ao xs.length cap] 24)).alloc (.cells #[.int .i64 0, .slice none 0 0] 24)).alloc (.cells #[.int .i64 0, .slice none 0 0] 44) = W0 := ⟨_, rfl⟩
  have hB0 : RowKit.Below w.heap.size w W0 := by rw [← hW0]; exact (((RowKit.Below.refl _ w).alloc (Nat.le_refl _) _).alloc (by simp) _).alloc (by simp; omega) _
  have k0 : W0.heap[w.heap.size]? = some (.cells #[.int .i64 N, .slice ao xs.length cap] 24) := by rw [← hW0, RowKit.Below.heap_alloc _ _ _ (by simp; omega), RowKit.Below.heap_alloc _ _ _ (by simp)]; exact heap_new _ _
  have k1 : W0.heap[w.heap.size + 1]? = some (.cells #[.int .i64 0, .slice none 0 0] 24) := by
    rw [← hW0, RowKit.Below.heap_alloc _ _ _ (by simp)]
    have h := heap_new (w.alloc (.cells #[.int .i64 N, .slice ao xs.length cap] 24)) (.cells #[.int .i64 0, .slice none 0 0] 24)
    simpa using h
  have k2 : W0.heap[w.heap.size + 1 + 1]? = some (.cells #[.int .i64 0, .slice none 0 0] 44) := by
    have h := heap_new ((w.alloc (.cells #[.int .i64 N, .slice ao xs.length cap] 24)).alloc (.cells #[.int .i64 0, .slice none 0 0] 24)) (.cells #[.int .i64 0, .slice none 0 0] 44)
    rw [hW0] at h
    simpa using h
  have HW0 : Hid (((w.alloc (.cells #[.int .i64 N, .slice ao xs.length cap] 24)).alloc (.cells #[.int .i64 0, .slice none 0 0] 24)).alloc (.cells #[.int .i64 0, .slice none 0 0] 44) = W0) := hW0
  have HB0 : Hid (RowKit.Below w.heap.size w W0) := hB0
  have HK : Hid (∀ wx, RowKit.Below W0.heap.size W0 wx → wx.cell? ⟨w.heap.size, 0, none⟩ = some (.int .i64 N) ∧ wx.cell? ⟨w.heap.size, 1, none⟩ = some (.slice ao xs.length cap) ∧ (wx.cell? ⟨w.heap.size + 1, 0, none⟩ = some (.int .i64 0) ∧ wx.cell? ⟨w.heap.size + 1, 1, none⟩ = some (.slice none 0 0) ∧ wx.frozen? ⟨w.heap.size + 1, 0, none⟩ = false ∧ wx.frozen? ⟨w.heap.size + 1, 1, none⟩ = false) ∧ (wx.cell? ⟨w.heap.size + 1 + 1, 0, none⟩ = some (.int .i64 0) ∧ wx.cell? ⟨w.heap.size + 1 + 1, 1, none⟩ = some (.slice none 0 0) ∧ wx.frozen? ⟨w.heap.size + 1 + 1, 0, none⟩ = false ∧ wx.frozen? ⟨w.heap.size + 1 + 1, 1, none⟩ = false) ∧ w.heap.size + 1 + 1 < wx.heap.size ∧ RowKit.Below w.heap.size w wx ∧ wx.heap[w.heap.size + 1]? = some (.cells #[.int .i64 0, .slice none 0 0] 24) ∧ wx.heap[w.heap.size + 1 + 1]? = some (.cells #[.int .i64 0, .slice none 0 0] 44)) := fun wx h => by
    have g0 := (h.block _ (lt_of_get k0)).trans k0
    have g1 := (h.block _ (lt_of_get k1)).trans k1
    have g2 := (h.block _ (lt_of_get k2)).trans k2
    exact ⟨(cell_two g0).1, (cell_two g0).2.1, cell_two g1, cell_two g2, lt_of_get g2, hB0.trans (h.mono hB0.size), g1, g2⟩
  have HDC : Hid (Calls Tryz.prog 47 #[.agg #[.int .i64 N, .slice ao xs.length cap]] W0 fun e w' => ∃ lo lc, e = .returned (.agg #[.int .i64 (graphErr N xs).1, .slice lo (graphErr N xs).2.length lc]) ∧ HasPlaces w' (.slice lo (graphErr N xs).2.length lc) (graphErr N xs).2 ∧ RowKit.Below W0.heap.size W0 w') := docCheck_calls N ao cap xs W0 (hl.keep hB0) hm
  have HL : Hid (HasArcs w (.slice ao xs.length cap) xs) := hl
  have HSZ : Hid (graphErr N xs = (0, []) → xs.length ≤ 262144) := fun h => by
    unfold graphErr at h
    split at h
    · simp at h
    · omega
  have HCD : Hid (graphErr N xs = (0, []) ∨ (graphErr N xs).1 ≠ 0) := by
    show _ ∨ _
    by_cases h : (graphErr N xs).1 = 0
    · left
      unfold graphErr at *
      split at h
      · simp at h
      · rename_i hlim
        rw [if_neg hlim]
        cases hf : firstBad N xs 0 with
        | none => rfl
        | some q =>
          rw [hf] at h
          exact absurd h (firstBad_ne N xs 0 q hf)
    · exact Or.inr h
  clear hl k0 k1 k2 hB0 hW0
  have HBD : Hid (∀ wx C lo l lc, Calls Tryz.prog 27 #[.agg #[.int .i64 C, .slice lo l lc]] wx fun e w' => e = .returned (.bool (C != 0 || decide (0 < l))) ∧ RowKit.Below wx.heap.size wx w') := fun wx C lo l lc => bad_calls C lo l lc wx
  go_enter Tryz.func48, Tryz.ntmps48
  go_wp2_with fail
  rw [HW0.out]
  refine HDC.out.mono ?_
  rintro e w1 ⟨po, pc, rfl, hp1, hb1⟩
  have HP1 : Hid (HasPlaces w1 (.slice po (graphErr N xs).2.length pc) (graphErr N xs).2) := hp1
  have HB1 : Hid (RowKit.Below W0.heap.size W0 w1) := hb1
  clear hp1 hb1
  have HBE : Hid (RowKit.Below w1.heap.size w1 (w1.alloc (.cells #[.int .i64 (graphErr N xs).1, .slice po (graphErr N xs).2.length pc] 44))) := (RowKit.Below.refl _ w1).alloc (Nat.le_refl _) _
  have HNE : Hid ((w1.alloc (.cells #[.int .i64 (graphErr N xs).1, .slice po (graphErr N xs).2.length pc] 44)).heap[w1.heap.size]? = some (.cells #[.int .i64 (graphErr N xs).1, .slice po (graphErr N xs).2.length pc] 44)) := heap_new _ _
  rcases HCD.out with hgood | hbad
  · have HG : Hid (graphErr N xs = (0, [])) := hgood
    have hlen := HSZ.out hgood
    have hC : (graphErr N xs).1 = 0 := by rw [hgood]
    have hL : (graphErr N xs).2.length = 0 := by rw [hgood]; rfl
    rw [hC, hL] at HBE HNE ⊢
    clear hgood hC hL
    go_wp2_with fail
    refine (HBD.out _ _ _ _ _).mono ?_
    rintro e w2 ⟨rfl, hb2⟩
    have HB2 : Hid (RowKit.Below W0.heap.size W0 w2) := HB1.out.trans ((HBE.out.trans (hb2.mono HBE.out.size)).mono HB1.out.size)
    obtain ⟨c0, c1, ⟨b0, b1, y0, y1⟩, ⟨d0, d1, x0, x1⟩, hs2, hB2, _, _⟩ := HK.out w2 HB2.out
    have HRV : Hid (Calls Tryz.prog 77 #[.agg #[.int .i64 N, .slice ao xs.length cap]] w2 fun e w' => ∃ lo lc, e = .returned (.agg #[.int .i64 N, .slice lo (normA xs).length lc]) ∧ HasArcs w' (.slice lo (normA xs).length lc) (normA xs) ∧ NewA w2.heap.size (.slice lo (normA xs).length lc) ∧ RowKit.Below w2.heap.size w2 w') := refOf_calls N ao cap xs w2 (HL.out.keep hB2) hlen
    clear hb2 hB2 b0 b1 y0 y1 d0 d1 x0 x1
    go_wp2_with fail
    refine HRV.out.mono ?_
    rintro e w3 ⟨lo, lc, rfl, hA3, hn3, hb3⟩
    have HN3 : Hid (NewA w.heap.size (.slice lo (normA xs).length lc)) := hn3.base (HK.out w2 HB2.out).2.2.2.2.2.1.size
    clear hn3
    have HB3 : Hid (RowKit.Below W0.heap.size W0 w3) := HB2.out.trans (hb3.mono HB2.out.size)
    have HA3 : Hid (HasArcs w3 (.slice lo (normA xs).length lc) (normA xs)) := hA3
    obtain ⟨_, _, ⟨b0, b1, y0, y1⟩, ⟨d0, d1, x0, x1⟩, hs3, hB3, g1, g2⟩ := HK.out w3 HB3.out
    have H3 : Hid (RowKit.Below w.heap.size w w3 ∧ w3.heap[w.heap.size + 1]? = some (.cells #[.int .i64 0, .slice none 0 0] 24) ∧ w3.heap[w.heap.size + 1 + 1]? = some (.cells #[.int .i64 0, .slice none 0 0] 44)) := ⟨hB3, g1, g2⟩
    clear hA3 hb3 hB3 g1 g2 c0 c1
    go_wp2
    refine bodyPost_ret (v := .tuple #[.agg #[.int .i64 N, .slice lo (normA xs).length lc], .agg #[.int .i64 0, .slice none 0 0]]) (by simp [results, Tryz.results48, go_sem, b0, b1, d0, d1]) rfl ⟨N, lo, (normA xs).length, lc, normA xs, none, 0, by rw [HG.out]; rfl, HA3.out.lay H3.out.2.1 H3.out.2.2 _ _ _ _, HN3.out, ⟨none, 0, by rw [HG.out], fun j p hj => by rw [HG.out] at hj; simp at hj⟩, Or.inl ⟨HG.out, rfl, rfl⟩, Below.lay4 H3.out.1 _ _ _ _⟩
  · have HGN : Hid (graphErr N xs ≠ (0, [])) := fun e => hbad (by rw [e])
    have hbd : ((graphErr N xs).1 != 0 || decide (0 < (graphErr N xs).2.length)) = true := by simp [hbad]
    have HBD2 : Hid (∀ wx, Calls Tryz.prog 27 #[.agg #[.int .i64 (graphErr N xs).1, .slice po (graphErr N xs).2.length pc]] wx fun e w' => e = .returned (.bool true) ∧ RowKit.Below wx.heap.size wx w') := fun wx => by
      have h := HBD.out wx (graphErr N xs).1 po (graphErr N xs).2.length pc
      rw [hbd] at h
      exact h
    clear hbd hbad
    generalize hge : graphErr N xs = ge at *
    obtain ⟨C, ps⟩ := ge
    simp only at *
    go_wp2_with fail
    refine (HBD2.out _).mono ?_
    rintro e w2 ⟨rfl, hb2⟩
    have hbE2 : RowKit.Below w1.heap.size w1 w2 := HBE.out.trans (hb2.mono HBE.out.size)
    have HB2 : Hid (RowKit.Below W0.heap.size W0 w2) := HB1.out.trans (hbE2.mono HB1.out.size)
    have hN2 := (hb2.block w1.heap.size (lt_of_get HNE.out)).trans HNE.out
    obtain ⟨e0, e1, _, _⟩ := cell_two hN2
    have HP2 : Hid (HasPlaces w2 (.slice po ps.length pc) ps) := HP1.out.keep hbE2
    obtain ⟨c0, c1, ⟨b0, b1, y0, y1⟩, ⟨d0, d1, x0, x1⟩, hs2, hB2, g1, g2⟩ := HK.out w2 HB2.out
    have H2 : Hid (RowKit.Below w.heap.size w w2 ∧ w2.heap[w.heap.size + 1]? = some (.cells #[.int .i64 0, .slice none 0 0] 24) ∧ w2.heap[w.heap.size + 1 + 1]? = some (.cells #[.int .i64 0, .slice none 0 0] 44)) := ⟨hB2, g1, g2⟩
    clear hb2 hbE2 hN2 hB2 g1 g2
    have hle : w1.heap.size < w2.heap.size := by
      rcases Nat.lt_or_ge w1.heap.size w2.heap.size with h | h
      · exact h
      · simp [World.cell?, Array.getElem?_eq_none h] at e0
    have hw1 : w.heap.size + 1 + 1 < w1.heap.size := (HK.out w1 HB1.out).2.2.2.2.1
    have n1 : ¬ w.heap.size + 1 = w1.heap.size := by omega
    have n2 : ¬ w1.heap.size = w.heap.size + 1 := by omega
    have n3 : ¬ w.heap.size + 1 + 1 = w1.heap.size := by omega
    have n4 : ¬ w1.heap.size = w.heap.size + 1 + 1 := by omega
    go_wp2_with fail
    go_region_held (fun w' => w'.cell? ⟨w1.heap.size, 0, none⟩ = some (.int .i64 C) ∧ w'.cell? ⟨w1.heap.size, 1, none⟩ = some (.slice po ps.length pc)) (go_keep) (first | fail)
    all_goals
      go_wp2
      refine bodyPost_ret (v := .tuple #[.agg #[.int .i64 0, .slice none 0 0], .agg #[.int .i64 C, .slice po ps.length pc]]) (by simp [results, Tryz.results48, go_sem, b0, b1, d0, d1]) rfl ?_
      rw [hge]
      exact ⟨0, none, 0, 0, [], po, pc, rfl, ⟨none, 0, rfl, fun j a hj => by simp at hj⟩, newA_nil _ _ _, HP2.out.lay H2.out.2.1 H2.out.2.2 _ _ _ _, Or.inr ⟨HGN.out, rfl, rfl⟩, (Below.lay4 H2.out.1 _ _ _ _).drew⟩
end Go.Proofs.YtbkclhaonbjobaaGreatDoor

namespace Go.Proofs.YtbkclhaonbjobaaGreatDoor
open Go.RowKit Go.Extern Go.Sort

attribute [local go_sem] Oper.semAt_some

set_option maxRecDepth 100000 in
set_option maxHeartbeats 4000000 in
theorem rDocNew11_full (n : Nat) (ao : Option Addr) (cap : Nat) (xs : List (Int × Int × Int)) (w : World) (hl : HasArcs w (.slice ao xs.length cap) xs) (hg : graphErr (n : Int) xs = (0, [])) :
    Calls Tryz.prog 24 #[.agg #[.int .i64 (n : Int), .slice ao xs.length cap]] w fun e w' => ∃ bb so sc po pc, e = .returned (.tuple #[.agg #[.slice (some ⟨bb, 0, none⟩) n n, .slice so (normA xs).length sc], .agg #[.int .i64 0, .slice po 0 pc]]) ∧ w'.ownsRow w.heap.size 86 4 (.slice so (normA xs).length sc) (normA xs).length (flatA4 ((normA xs).map asA4)) ∧ w'.heap[bb]? = some (.cells (bC (List.replicate n true)) 4 (0, 0)) ∧ w.heap.size ≤ bb ∧ Below w.heap.size w w' := by
  obtain ⟨W0, hW0⟩ : ∃ W0, ((w.alloc (.cells #[.int .i64 (n : Int), .slice ao xs.length cap] 24)).alloc (.cells #[.slice none 0 0, .slice none 0 0] 33)).alloc (.cells #[.int .i64 0, .slice none 0 0] 44) = W0 := ⟨_, rfl⟩
  have hB0 : Below w.heap.size w W0 := by rw [← hW0]; exact (((Below.refl _ w).alloc (Nat.le_refl _) _).alloc (by simp) _).alloc (by simp; omega) _
  have k0 : W0.heap[w.heap.size]? = some (.cells #[.int .i64 (n : Int), .slice ao xs.length cap] 24) := by rw [← hW0, Below.heap_alloc _ _ _ (by simp; omega), Below.heap_alloc _ _ _ (by simp)]; exact heap_new _ _
  have k1 : W0.heap[w.heap.size + 1]? = some (.cells #[.slice none 0 0, .slice none 0 0] 33) := by
    rw [← hW0, Below.heap_alloc _ _ _ (by simp)]
    have h := heap_new (w.alloc (.cells #[.int .i64 (n : Int), .slice ao xs.length cap] 24)) (.cells #[.slice none 0 0, .slice none 0 0] 33)
    simpa using h
  have k2 : W0.heap[w.heap.size + 1 + 1]? = some (.cells #[.int .i64 0, .slice none 0 0] 44) := by
    have h := heap_new ((w.alloc (.cells #[.int .i64 (n : Int), .slice ao xs.length cap] 24)).alloc (.cells #[.slice none 0 0, .slice none 0 0] 33)) (.cells #[.int .i64 0, .slice none 0 0] 44)
    rw [hW0] at h
    simpa using h
  have HW0 : Hid (((w.alloc (.cells #[.int .i64 (n : Int), .slice ao xs.length cap] 24)).alloc (.cells #[.slice none 0 0, .slice none 0 0] 33)).alloc (.cells #[.int .i64 0, .slice none 0 0] 44) = W0) := hW0
  obtain ⟨c0, c1, _, _⟩ := cell_two k0
  have cs := lt_of_get k0
  have hgn := (good_iff _ _).1 (good_norm hg)
  have hx26 : xs.length ≤ 262144 := by have := ((good_iff _ _).1 hg).1; omega
  have HWT : Hid (∀ a ∈ normA xs, 0 ≤ a.2.2 ∧ a.2.2 ≤ 9223372036854775807) := fun a ha => by
    have h3 := hgn.2 a ha
    unfold arcBad at h3
    split at h3
    · cases h3
    · split at h3
      · cases h3
      · constructor <;> omega
  have HNN : Hid (n ≤ 65536 ∧ (normA xs).length ≤ 262144) := ⟨by have := hgn.1; omega, by have := hgn.1; omega⟩
  have HDO : Hid (Calls Tryz.prog 48 #[.agg #[.int .i64 (n : Int), .slice ao xs.length cap]] W0 fun e w' => ∃ lo lc po pc, e = .returned (.tuple #[.agg #[.int .i64 (n : Int), .slice lo (normA xs).length lc], .agg #[.int .i64 0, .slice po 0 pc]]) ∧ HasArcs w' (.slice lo (normA xs).length lc) (normA xs) ∧ Below W0.heap.size W0 w') := by
    refine (docOf_calls (n : Int) ao cap xs W0 (hl.keep hB0) (by unfold maxLen; omega)).mono ?_
    rintro e w' ⟨M, lo, m, lc, ys, po, pc, rfl, h1, _, _, (⟨_, rfl, rfl⟩ | ⟨h, _, _⟩), h2⟩
    · obtain rfl : m = (normA xs).length := arcs_len h1
      rw [hg]
      exact ⟨lo, lc, po, pc, rfl, h1, h2⟩
    · exact absurd hg h
  have HK : Hid (∀ wx, Below W0.heap.size W0 wx → wx.heap[w.heap.size + 1]? = some (.cells #[.slice none 0 0, .slice none 0 0] 33 (0, 0)) ∧ wx.heap[w.heap.size + 1 + 1]? = some (.cells #[.int .i64 0, .slice none 0 0] 44 (0, 0)) ∧ Below w.heap.size w wx) := fun wx h => ⟨(h.block _ (lt_of_get k1)).trans k1, (h.block _ (lt_of_get k2)).trans k2, hB0.trans (h.mono hB0.size)⟩
  generalize normA xs = zs at *
  clear hW0 hB0 k0 k1 k2 hgn hl hg
  go_enter Tryz.func24, Tryz.ntmps24
  go_wp2_with fail
  rw [HW0.out]
  refine HDO.out.mono ?_
  rintro e w1 ⟨lo, lc, po, pc, rfl, hA1, hb1⟩
  have H1 : Hid (HasArcs w1 (.slice lo zs.length lc) zs ∧ Below W0.heap.size W0 w1) := ⟨hA1, hb1⟩
  clear hA1 hb1 c0 c1 cs
  go_upto_region 2 with fail
  obtain ⟨W2, hW2⟩ : ∃ W2, (w1.alloc (.cells #[.int .i64 (n : Int), .slice lo zs.length lc] 24)).alloc (.cells #[.int .i64 0, .slice po 0 pc] 44) = W2 := ⟨_, rfl⟩
  rw [hW2]
  have bW2 : Below w1.heap.size w1 W2 := by rw [← hW2]; exact ((Below.refl _ w1).alloc (Nat.le_refl _) _).alloc (by simp) _
  have q4 : W2.heap[w1.heap.size]? = some (.cells #[.int .i64 (n : Int), .slice lo zs.length lc] 24) := by rw [← hW2, Below.heap_alloc _ _ _ (by simp)]; exact heap_new _ _
  have q5 : W2.heap[w1.heap.size + 1]? = some (.cells #[.int .i64 0, .slice po 0 pc] 44) := by
    have h := heap_new (w1.alloc (.cells #[.int .i64 (n : Int), .slice lo zs.length lc] 24)) (.cells #[.int .i64 0, .slice po 0 pc] 44)
    rw [hW2] at h
    simpa using h
  have HC : Hid (∀ wx, Below W2.heap.size W2 wx → (wx.cell? ⟨w1.heap.size, 0, none⟩ = some (.int .i64 (n : Int)) ∧ wx.cell? ⟨w1.heap.size, 1, none⟩ = some (.slice lo zs.length lc) ∧ wx.cell? ⟨w1.heap.size + 1, 0, none⟩ = some (.int .i64 0) ∧ wx.cell? ⟨w1.heap.size + 1, 1, none⟩ = some (.slice po 0 pc)) ∧ w1.heap.size + 1 < wx.heap.size ∧ HasArcs wx (.slice lo zs.length lc) zs ∧ Below W0.heap.size W0 wx) := fun wx h => by
    have h4 := (h.block _ (lt_of_get q4)).trans q4
    have h5 := (h.block _ (lt_of_get q5)).trans q5
    exact ⟨⟨(cell_two h4).1, (cell_two h4).2.1, (cell_two h5).1, (cell_two h5).2.1⟩, lt_of_get h5, H1.out.1.keep (bW2.trans (h.mono bW2.size)), (H1.out.2.trans (bW2.mono H1.out.2.size)).trans (h.mono (Nat.le_trans H1.out.2.size bW2.size))⟩
  have HX : Hid (w.heap.size + 1 + 1 < w1.heap.size) := lt_of_get (HK.out w1 H1.out.2).2.1
  obtain ⟨⟨r0, r1, r2, r3⟩, rs, _, _⟩ := HC.out W2 (Below.refl _ _)
  have HBD := bad_calls 0 po 0 pc W2
  have HBD' : Hid (type_of% HBD) := HBD
  clear hW2 bW2 q4 q5 HBD
  go_wp2_with fail
  refine HBD'.out.mono ?_
  rintro e w3 ⟨rfl, hb3⟩
  have H3' : Hid (Below W2.heap.size W2 w3) := hb3
  have HNW : Hid (∀ wx, Below w3.heap.size w3 wx → Calls Tryz.prog 49 #[.agg #[.int .i64 (n : Int), .slice lo zs.length lc]] wx fun e w' => ∃ bb so sc, e = .returned (.agg #[.slice (some ⟨bb, 0, none⟩) n n, .slice so zs.length sc]) ∧ Below W2.heap.size W2 w' ∧ (w'.ownsRow W2.heap.size 86 4 (.slice so zs.length sc) zs.length (flatA4 (zs.map asA4)) ∧ W2.heap.size ≤ bb ∧ w'.heap[bb]? = some (.cells (bC (List.replicate n true)) 4 (0, 0)))) := fun wx hx => by
    have hb := btr H3'.out hx
    refine (rNew11_calls n HNN.out.1 lo lc zs wx (HC.out wx hb).2.2.1 HNN.out.2 HWT.out).mono ?_
    rintro e w' ⟨bb, so, sc, rfl, h1, h2, h3, h4⟩
    exact ⟨bb, so, sc, rfl, btr hb h4, row4_base h1 hb.size, Nat.le_trans hb.size h2, h3⟩
  clear hb3 r0 r1 r2 r3 rs
  obtain ⟨⟨r0, r1, r2, r3⟩, rs, _, _⟩ := HC.out w3 H3'.out
  have m1 : w.heap.size + 1 ≠ w1.heap.size := by have := HX.out; omega
  have m2 : w1.heap.size ≠ w.heap.size + 1 := by have := HX.out; omega
  have m3 : w.heap.size + 1 ≠ w1.heap.size + 1 := by have := HX.out; omega
  have m4 : w1.heap.size + 1 ≠ w.heap.size + 1 := by have := HX.out; omega
  have m5 : w.heap.size + 1 + 1 ≠ w1.heap.size := by have := HX.out; omega
  have m6 : w1.heap.size ≠ w.heap.size + 1 + 1 := by have := HX.out; omega
  have m7 : w.heap.size + 1 + 1 ≠ w1.heap.size + 1 := by have := HX.out; omega
  have m8 : w1.heap.size + 1 ≠ w.heap.size + 1 + 1 := by have := HX.out; omega
  have m9 : w.heap.size ≠ w1.heap.size := by have := HX.out; omega
  have m10 : w1.heap.size ≠ w.heap.size := by have := HX.out; omega
  go_wp2_with fail
  go_region_held3 (fun w' => w'.cell? ⟨w1.heap.size, 0, none⟩ = some (.int .i64 (n : Int)) ∧ w'.cell? ⟨w1.heap.size, 1, none⟩ = some (.slice lo zs.length lc) ∧ w'.cell? ⟨w1.heap.size + 1, 0, none⟩ = some (.int .i64 0) ∧ w'.cell? ⟨w1.heap.size + 1, 1, none⟩ = some (.slice po 0 pc)) (go_keep) (first
    | (go_at_call 49; refine (HNW.out _ (Below.refl _ _).drew).mono ?_; rintro e y1 ⟨bb, so, sc, rfl, hy, hrow⟩; have Y1 : Hid (Below W2.heap.size W2 y1 ∧ y1.ownsRow W2.heap.size 86 4 (.slice so zs.length sc) zs.length (flatA4 (zs.map asA4)) ∧ W2.heap.size ≤ bb ∧ y1.heap[bb]? = some (.cells (bC (List.replicate n true)) 4 (0, 0))) := ⟨hy, hrow⟩; obtain ⟨z1, zs1, _, zb⟩ := HC.out y1 hy; obtain ⟨u1, u2, _⟩ := HK.out y1 zb; obtain ⟨a0, a1, a2, a3⟩ := cell_two u1; obtain ⟨b0, b1, b2, b3⟩ := cell_two u2; have l1 := lt_of_get u1; have l2 := lt_of_get u2; clear hy hrow zb u1 u2))
  obtain ⟨u1, u2, ub⟩ := HK.out y1 (HC.out y1 Y1.out.1).2.2.2
  have hk : ∀ j, j ≠ w.heap.size + 1 → j ≠ w.heap.size + 1 + 1 → ((((y1.setCell ⟨w.heap.size + 1, 0, none⟩ (.slice (some ⟨bb, 0, none⟩) n n)).setCell ⟨w.heap.size + 1, 1, none⟩ (.slice so zs.length sc)).setCell ⟨w.heap.size + 1 + 1, 0, none⟩ (.int .i64 0)).setCell ⟨w.heap.size + 1 + 1, 1, none⟩ (.slice po 0 pc)).heap[j]? = y1.heap[j]? := fun j h1 h2 => (hso _ h2).trans ((hso _ h2).trans ((hso _ h1).trans (hso _ h1)))
  have hz1 : ((((y1.setCell ⟨w.heap.size + 1, 0, none⟩ (.slice (some ⟨bb, 0, none⟩) n n)).setCell ⟨w.heap.size + 1, 1, none⟩ (.slice so zs.length sc)).setCell ⟨w.heap.size + 1 + 1, 0, none⟩ (.int .i64 0)).setCell ⟨w.heap.size + 1 + 1, 1, none⟩ (.slice po 0 pc)).heap[w.heap.size + 1]? = some (.cells #[.slice (some ⟨bb, 0, none⟩) n n, .slice so zs.length sc] 33 (0, 0)) := by
    rw [hso _ (by omega), hso _ (by omega), hsc_same _ (hsc_same _ u1)]
    rfl
  have hz2 : ((((y1.setCell ⟨w.heap.size + 1, 0, none⟩ (.slice (some ⟨bb, 0, none⟩) n n)).setCell ⟨w.heap.size + 1, 1, none⟩ (.slice so zs.length sc)).setCell ⟨w.heap.size + 1 + 1, 0, none⟩ (.int .i64 0)).setCell ⟨w.heap.size + 1 + 1, 1, none⟩ (.slice po 0 pc)).heap[w.heap.size + 1 + 1]? = some (.cells #[.int .i64 0, .slice po 0 pc] 44 (0, 0)) := by
    rw [hsc_same _ (hsc_same _ ((hso _ (by omega)).trans ((hso _ (by omega)).trans u2)))]
    rfl
  have hbz : Below w.heap.size y1 ((((y1.setCell ⟨w.heap.size + 1, 0, none⟩ (.slice (some ⟨bb, 0, none⟩) n n)).setCell ⟨w.heap.size + 1, 1, none⟩ (.slice so zs.length sc)).setCell ⟨w.heap.size + 1 + 1, 0, none⟩ (.int .i64 0)).setCell ⟨w.heap.size + 1 + 1, 1, none⟩ (.slice po 0 pc)) := ((((Below.refl _ y1).setCell (p := ⟨w.heap.size + 1, 0, none⟩) (show w.heap.size ≤ w.heap.size + 1 by omega) _).setCell (p := ⟨w.heap.size + 1, 1, none⟩) (show w.heap.size ≤ w.heap.size + 1 by omega) _).setCell (p := ⟨w.heap.size + 1 + 1, 0, none⟩) (show w.heap.size ≤ w.heap.size + 1 + 1 by omega) _).setCell (p := ⟨w.heap.size + 1 + 1, 1, none⟩) (show w.heap.size ≤ w.heap.size + 1 + 1 by omega) _
  have HE : Hid (type_of% (And.intro hk (And.intro hz1 (And.intro hz2 (ub.trans hbz))))) := ⟨hk, hz1, hz2, ub.trans hbz⟩
  have HWS : Hid (w.heap.size + 1 + 1 < W2.heap.size) := by have h1 := HX.out; have h2 := (HC.out W2 (Below.refl _ _)).2.1; show _ < _; omega
  clear hk hz1 hz2 hbz u1 u2 ub
  go_wp2
  obtain ⟨hk, hz1, hz2, hbz⟩ := HE.out
  generalize ((((y1.setCell ⟨w.heap.size + 1, 0, none⟩ (.slice (some ⟨bb, 0, none⟩) n n)).setCell ⟨w.heap.size + 1, 1, none⟩ (.slice so zs.length sc)).setCell ⟨w.heap.size + 1 + 1, 0, none⟩ (.int .i64 0)).setCell ⟨w.heap.size + 1 + 1, 1, none⟩ (.slice po 0 pc)) = Wf at *
  obtain ⟨f0, f1, _, _⟩ := cell_two hz1
  obtain ⟨f2, f3, _, _⟩ := cell_two hz2
  refine bodyPost_ret (v := .tuple #[.agg #[.slice (some ⟨bb, 0, none⟩) n n, .slice so zs.length sc], .agg #[.int .i64 0, .slice po 0 pc]]) (by simp [results, Tryz.results24, go_sem, f0, f1, f2, f3]) rfl ?_
  obtain ⟨_, y2, y3, y4⟩ := Y1.out
  have hws := HWS.out
  exact ⟨bb, so, sc, po, pc, rfl, row4_base (row4_keep (w' := Wf) y2 (fun g h1 _ => hk g (by omega) (by omega))) (by omega), (hk bb (by omega) (by omega)).trans y4, by omega, hbz⟩
end Go.Proofs.YtbkclhaonbjobaaGreatDoor
