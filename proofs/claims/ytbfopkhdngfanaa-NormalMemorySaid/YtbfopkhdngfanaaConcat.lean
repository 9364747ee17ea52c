/- slices.Grow of no list, and slices.Concat of two lists of arcs: a new row that holds both, one behind the other. -/
import Derived.Test.YtbfopkhdngfanaaCheck
import Derived.OwnWalk
import Derived.Lib.AppendZeros
import Derived.Laws.AppendOwnNone
namespace Go.Proofs.Ytbfopkhdngfanaa
open Go.RowKit Go.Extern Go.Sort

attribute [local go_sem] Oper.semAt_some

theorem Try.infoC : (Try.prog.info? 42).map (fun i => (i.zero, i.size, i.bytes)) = some (some (.agg #[.int .i64 0, .int .i64 0, .int .i64 0]), 3, 24) := by kernel_rfl
/-- the cells of arcs. -/
def flatC (l : List (Int × Int × Int)) : List Value := l.flatMap fun a => [.int .i64 a.1, .int .i64 a.2.1, .int .i64 a.2.2]
theorem flatC_len (l : List (Int × Int × Int)) : (flatC l).length = l.length * 3 := by
  induction l with
  | nil => rfl
  | cons a r ih => simp only [flatC, List.flatMap_cons, List.length_append, List.length_cons] at *; rw [ih]; simp; omega
theorem flatC_append (l r : List (Int × Int × Int)) : flatC (l ++ r) = flatC l ++ flatC r := by simp [flatC]
theorem flatC_get : ∀ (l : List (Int × Int × Int)) (i : Nat) (a : Int × Int × Int), l[i]? = some a → (flatC l)[i * 3]? = some (.int .i64 a.1) ∧ (flatC l)[i * 3 + 1]? = some (.int .i64 a.2.1) ∧ (flatC l)[i * 3 + 2]? = some (.int .i64 a.2.2)
  | [], i, a, h => by simp at h
  | b :: r, 0, a, h => by
    simp at h
    subst h
    simp [flatC]
  | b :: r, i + 1, a, h => by
    have ih := flatC_get r i a (by simpa using h)
    have e : flatC (b :: r) = [.int .i64 b.1, .int .i64 b.2.1, .int .i64 b.2.2] ++ flatC r := by simp [flatC]
    rw [e, show (i + 1) * 3 = i * 3 + 3 by omega]
    refine ⟨?_, ?_, ?_⟩
    · rw [List.getElem?_append_right (by simp)]; simpa using ih.1
    · rw [List.getElem?_append_right (by simp)]; simpa [show i * 3 + 3 + 1 - 3 = i * 3 + 1 by omega] using ih.2.1
    · rw [List.getElem?_append_right (by simp)]; simpa [show i * 3 + 3 + 2 - 3 = i * 3 + 2 by omega] using ih.2.2
theorem flatC_one (l : List (Int × Int × Int)) : ∀ u ∈ flatC l, u.oneCell' = true := by
  intro u hu
  simp only [flatC, List.mem_flatMap] at hu
  obtain ⟨a, _, ha⟩ := hu
  simp at ha
  rcases ha with rfl | rfl | rfl <;> rfl
theorem flatC_at {w : World} {a : Addr} {n cap : Nat} {xs : List (Int × Int × Int)} (h : HasArcs w (.slice (some a) n cap) xs) : ∀ j u, (flatC xs)[j]? = some u → w.cell? (a.add j) = some u := by
  intro j u hj
  have hlt := (List.getElem?_eq_some_iff.1 hj).1
  rw [flatC_len] at hlt
  have hx : xs[j / 3]? = some xs[j / 3] := List.getElem?_eq_getElem (by omega)
  obtain ⟨b, off, e, _, h0, h1, h2⟩ := h.at hx
  obtain ⟨g0, g1, g2⟩ := flatC_get xs (j / 3) _ hx
  obtain rfl : a = ⟨b, off, none⟩ := Option.some.inj e
  have ea : (⟨b, off, none⟩ : Addr).add j = ⟨b, off + j, none⟩ := by unfold Addr.add; split <;> simp_all
  rw [ea]
  rcases (show j = j / 3 * 3 ∨ j = j / 3 * 3 + 1 ∨ j = j / 3 * 3 + 2 by omega) with hj' | hj' | hj'
  · rw [hj'] at hj ⊢; rw [g0] at hj; cases hj; exact h0
  · rw [hj'] at hj ⊢; rw [g1] at hj; cases hj; exact h1
  · rw [hj'] at hj ⊢; rw [g2] at hj; cases hj; exact h2
theorem arcs_of_rowC {w : World} {base : Nat} {v : Value} {l : List (Int × Int × Int)} (h : w.ownsRow base 42 3 v l.length (flatC l)) : HasArcs w v l := by
  rcases h.2 with ⟨e, h0⟩ | ⟨g, cap, cur, rfl, hg, hh, _⟩
  · have : l = [] := List.eq_nil_of_length_eq_zero h0
    subst this
    exact ⟨none, 0, e, fun j p hj => by simp at hj⟩
  · refine ⟨_, cap, rfl, fun j a hj => ⟨g, 0, rfl, lt_of_get hh, ?_⟩⟩
    have hlt := (List.getElem?_eq_some_iff.1 hj).1
    obtain ⟨g0, g1, g2⟩ := flatC_get l j a hj
    rw [Nat.zero_add]
    exact ⟨(h.cellAt (j * 3) (by omega)).trans g0, (h.cellAt (j * 3 + 1) (by omega)).trans g1, (h.cellAt (j * 3 + 2) (by omega)).trans g2⟩
theorem own_of_row {w : World} {B n lc : Nat} {lo : Option Addr} {xs : List Value} (h : w.ownsRow B 42 3 (.slice lo n lc) n xs) : OwnS B w lo n lc := by
  rcases h.2 with ⟨e, h0⟩ | ⟨g, cap, cur, e, h1, h2, h3, h4, h5, _⟩
  · injection e with e1 e2 e3
    exact Or.inl ⟨e1, h0, e3⟩
  · injection e with e1 e2 e3
    subst e3
    exact Or.inr ⟨g, cur, e1, h1, h3, h4, h2, h5⟩
theorem rowC_slice {w : World} {base n : Nat} {xs : List Value} {v : Value} (h : w.ownsRow base 42 3 v n xs) : ∃ ao cap, v = .slice ao n cap := by
  rcases h.2 with ⟨h, h'⟩ | ⟨g, cap, cur, h, _⟩
  · exact ⟨none, 0, by rw [h']; exact h⟩
  · exact ⟨_, cap, h⟩

set_option maxRecDepth 100000 in
set_option maxHeartbeats 2000000 in
theorem grow_calls (n : Nat) (w : World) (hn : n ≤ 1048576) :
    Calls Try.prog 42 #[.slice none 0 0, .int .i64 (n : Int)] w fun e w' => ∃ v, e = .returned v ∧ w'.ownsRow w.heap.size 42 3 v 0 [] ∧ Below w.heap.size w w' := by
  obtain ⟨i0, hi, hz0, hz1, hz2⟩ : ∃ i, Try.prog.info? 42 = some i ∧ i.zero = some (.agg #[.int .i64 0, .int .i64 0, .int .i64 0]) ∧ i.size = 3 ∧ i.bytes = 24 := by
    have h := Try.infoC
    cases hi : Try.prog.info? 42 with
    | none => rw [hi] at h; cases h
    | some i => rw [hi] at h; simp at h; exact ⟨i, rfl, h.1, h.2.1, h.2.2⟩
  have hw : IntKind.i64.wrap ((n : Int) - (0 - 0)) = n := by rw [IntKind.wrap_i64]; omega
  have hw2 : IntKind.i64.wrap (n : Int) = n := by rw [IntKind.wrap_i64]; omega
  by_cases h0 : n = 0
  · subst h0
    go_enter Try.func42, Try.ntmps42
    go_wp2
    go_ret
    exact ⟨_, rfl, World.ownsRow_nil _ _ _ _, Below.refl _ _⟩
  · have hrun := Lib.run_append_nil_zeros (P := Try.prog) w 22 3 22 42 i0 (.agg #[.int .i64 0, .int .i64 0, .int .i64 0]) .i64 .i64 Try.underlying22 Try.underlying3 hi hz0 n (by omega) (by omega) (by omega) (by rw [hz2]; omega)
    have hcap := grownCap_ge w n 0 42
    have hcm := grownCap_le_maxLen w n 0 42 (by unfold maxLen; omega)
    have HN : Hid ((w.drew.alloc (.cells (Builtin.zeroCells (Value.agg #[.int .i64 0, .int .i64 0, .int .i64 0]).cells n ++ Builtin.zeroCells (Value.agg #[.int .i64 0, .int .i64 0, .int .i64 0]).cells (grownCap w n 0 42 - n)) 42)).heap[w.heap.size]? = some (.cells (Builtin.zeroCells (Value.agg #[.int .i64 0, .int .i64 0, .int .i64 0]).cells n ++ Builtin.zeroCells (Value.agg #[.int .i64 0, .int .i64 0, .int .i64 0]).cells (grownCap w n 0 42 - n)) 42)) := heap_new w.drew _
    have HZ : Hid ((Builtin.zeroCells (Value.agg #[.int .i64 0, .int .i64 0, .int .i64 0]).cells n ++ Builtin.zeroCells (Value.agg #[.int .i64 0, .int .i64 0, .int .i64 0]).cells (grownCap w n 0 42 - n)).size = grownCap w n 0 42 * 3) := by
      show _ = _
      rw [Array.size_append, size_zeroCells, size_zeroCells]
      show n * 3 + (grownCap w n 0 42 - n) * 3 = _
      omega
    have HB : Hid (Below w.heap.size w (w.drew.alloc (.cells (Builtin.zeroCells (Value.agg #[.int .i64 0, .int .i64 0, .int .i64 0]).cells n ++ Builtin.zeroCells (Value.agg #[.int .i64 0, .int .i64 0, .int .i64 0]).cells (grownCap w n 0 42 - n)) 42))) := (Below.refl _ w).drew.alloc (Nat.le_refl _) _
    generalize Builtin.zeroCells (Value.agg #[.int .i64 0, .int .i64 0, .int .i64 0]).cells n ++ Builtin.zeroCells (Value.agg #[.int .i64 0, .int .i64 0, .int .i64 0]).cells (grownCap w n 0 42 - n) = Z at *
    generalize grownCap w n 0 42 = C at *
    have HR : Hid ((Builtin.append_ #[22, 3] 22 #[.slice none 0 0, .int .i64 (n : Int)]).run Try.prog w = .ok (.slice (some ⟨w.heap.size, 0, none⟩) n C) (w.drew.alloc (.cells Z 42))) := hrun
    clear hrun
    have hpos : (0 : Int) < n := by omega
    go_enter Try.func42, Try.ntmps42
    go_wp2_with (at_builtin; refine Lib.wpList_append_run _ rfl _ _ _ _ rfl _ _ rfl rfl _ _ HR.out ?_)
    go_wp2
    go_ret
    exact ⟨_, rfl, ⟨rfl, Or.inr ⟨w.heap.size, C, Z, rfl, Nat.le_refl _, HN.out, Nat.zero_le _, hcm, HZ.out, rfl⟩⟩, HB.out⟩

/-- a list of arcs is appended to a row of one's own. -/
theorem wpList_append_arcs {w : World} {ops : Array Oper} {rest : List Oper} {o : Oper} {a : Act} {Q : Exit → Act → World → Prop} (hgd : o.guard = none) (s x : Operand)
    (ho : o.op = .call { callee := .builtin .append, args := #[s, x], argTypes := #[22, 22] })
    (base : Nat) (v : Value) (L : List (Int × Int × Int)) (hs : a.eval s = v) (hown : w.ownsRow base 42 3 v L.length (flatC L))
    (ao : Option Addr) (ac : Nat) (xs : List (Int × Int × Int)) (hx : a.eval x = .slice ao xs.length ac) (hl : HasArcs w (.slice ao xs.length ac) xs) (hno : ao = none → ac = 0)
    (hlen : L.length + xs.length ≤ 1048576) (hbase : base ≤ w.heap.size)
    (h : ∀ v' w', w'.ownsRow base 42 3 v' (L ++ xs).length (flatC (L ++ xs)) → w.grownBy w' v.ownBlock → wpList Try.prog ops Q rest (a.put o.dst v') w') : wpList Try.prog ops Q (o :: rest) a w := by
  obtain ⟨i0, hi, hz0, hz1, hz2⟩ : ∃ i, Try.prog.info? 42 = some i ∧ i.zero = some (.agg #[.int .i64 0, .int .i64 0, .int .i64 0]) ∧ i.size = 3 ∧ i.bytes = 24 := by
    have h := Try.infoC
    cases hi : Try.prog.info? 42 with
    | none => rw [hi] at h; cases h
    | some i => rw [hi] at h; simp at h; exact ⟨i, rfl, h.1, h.2.1, h.2.2⟩
  cases ao with
  | none =>
    have hc := hno rfl
    subst hc
    have hx0 : xs = [] := by
      cases xs with
      | nil => rfl
      | cons q r => obtain ⟨b, off, e, _⟩ := hl.at (k := 0) (a := q) rfl; cases e
    subst hx0
    refine wpList_append_own_none hgd s x 22 ho base 42 i0 3 Try.underlying22 hi v L.length (flatC L) hs hown hx ?_
    exact h v w (by simpa using hown) ⟨rfl, rfl, rfl, Nat.le_refl _, fun _ _ _ => rfl⟩
  | some ad =>
    refine wpList_append_own _ hgd s x 22 ho base 42 i0 _ 3 24 Try.underlying22 hi hz0 hz1 hz2 rfl (by decide) v L.length (flatC L) hs hown ad xs.length ac (flatC xs) hx (flatC_len xs) (flatC_at hl) (flatC_one xs) (by unfold maxLen; omega) (by omega) hbase ?_
    intro v' w' h1 h2 _
    exact h v' w' (by rw [List.length_append, flatC_append]; exact h1) h2

set_option maxRecDepth 100000 in
set_option maxHeartbeats 4000000 in
theorem concat_calls (b : Nat) (ao bo : Option Addr) (ac bc : Nat) (xs ys : List (Int × Int × Int)) (w : World) (h0 : w.cell? ⟨b, 0, none⟩ = some (.slice ao xs.length ac)) (h1 : w.cell? ⟨b, 1, none⟩ = some (.slice bo ys.length bc))
    (hx : HasArcs w (.slice ao xs.length ac) xs) (hy : HasArcs w (.slice bo ys.length bc) ys) (hxn : ao = none → ac = 0) (hyn : bo = none → bc = 0) (hm : xs.length + ys.length ≤ 262144) :
    Calls Try.prog 27 #[.slice (some ⟨b, 0, none⟩) 2 2] w fun e w' => ∃ lo lc, e = .returned (.slice lo (xs.length + ys.length) lc) ∧ OA w.heap.size w' lo (xs.length + ys.length) lc (xs ++ ys) ∧ Below w.heap.size w w' := by
  have hlb : b < w.heap.size := by
    rcases Nat.lt_or_ge b w.heap.size with h | h
    · exact h
    · simp [World.cell?, Array.getElem?_eq_none h] at h0
  have HG : Hid (Calls Try.prog 42 #[.slice none 0 0, .int .i64 ((xs.length + ys.length : Nat) : Int)] w fun e w' => ∃ v, e = .returned v ∧ w'.ownsRow w.heap.size 42 3 v 0 [] ∧ Below w.heap.size w w') := grow_calls _ w (by omega)
  have HX : Hid (HasArcs w (.slice ao xs.length ac) xs ∧ (ao = none → ac = 0)) := ⟨hx, hxn⟩
  have HY : Hid (HasArcs w (.slice bo ys.length bc) ys ∧ (bo = none → bc = 0)) := ⟨hy, hyn⟩
  have e1 : ((xs.length + ys.length : Nat) : Int) = (xs.length : Int) + (ys.length : Int) := by omega
  rw [e1] at HG
  have HH : Hid (w.cell? ⟨b, 0, none⟩ = some (.slice ao xs.length ac) ∧ w.cell? ⟨b, 1, none⟩ = some (.slice bo ys.length bc)) := ⟨h0, h1⟩
  clear hx hy hxn hyn
  go_enter Try.func27, Try.ntmps27
  go_wp2_with fail
  refine wp_loop_rounds 3 ?_
  rw [rounds_succ]
  go_wp2
  rw [rounds_succ]
  go_wp2
  rw [rounds_succ]
  go_wp2_with fail
  refine HG.out.mono ?_
  rintro e w1 ⟨v, rfl, hown, hb⟩
  obtain ⟨so, sc, hv⟩ := rowC_slice hown
  subst hv
  have HO : Hid (w1.ownsRow w.heap.size 42 3 (.slice so 0 sc) 0 []) := hown
  have HB1 : Hid (Below w.heap.size w w1) := hb
  have g0 := (hb.cell (p := ⟨b, 0, none⟩) hlb).trans HH.out.1
  have g1 := (hb.cell (p := ⟨b, 1, none⟩) hlb).trans HH.out.2
  clear hown hb h0 h1
  go_wp2_with fail
  refine wp_loop_rounds 3 ?_
  rw [rounds_succ]
  go_wp2_with (at_builtin; refine wpList_append_arcs rfl _ _ rfl w.heap.size (.slice so 0 sc) [] rfl HO.out ao ac xs rfl (HX.out.1.keep HB1.out) HX.out.2 (by simp; omega) HB1.out.size ?_; intro v' w2 hown2 hgr2; obtain ⟨so2, sc2, hv2⟩ := rowC_slice hown2; subst hv2; have HO2 : Hid (w2.ownsRow w.heap.size 42 3 (.slice so2 ([] ++ xs).length sc2) ([] ++ xs).length (flatC ([] ++ xs))) := hown2; have HB2 : Hid (Below w.heap.size w w2) := HB1.out.trans ⟨hgr2.os, hgr2.tape, hgr2.output, hgr2.size, fun j hj => hgr2.block j (Nat.lt_of_lt_of_le hj HB1.out.size) (fun e => by have := (HO.out.lt j e.symm).1; omega)⟩; have k0 : w2.cell? ⟨b, 0, none⟩ = some (.slice ao xs.length ac) := (HB2.out.cell (p := ⟨b, 0, none⟩) hlb).trans HH.out.1; have k1 : w2.cell? ⟨b, 1, none⟩ = some (.slice bo ys.length bc) := (HB2.out.cell (p := ⟨b, 1, none⟩) hlb).trans HH.out.2; clear hown2 hgr2 g0 g1)
  rw [rounds_succ]
  go_wp2_with (at_builtin; refine wpList_append_arcs rfl _ _ rfl w.heap.size (.slice so2 ([] ++ xs).length sc2) ([] ++ xs) rfl HO2.out bo bc ys rfl (HY.out.1.keep HB2.out) HY.out.2 (by simp; omega) HB2.out.size ?_; intro v' w3 hown3 hgr3; obtain ⟨so3, sc3, hv3⟩ := rowC_slice hown3; subst hv3; have HO3 : Hid (w3.ownsRow w.heap.size 42 3 (.slice so3 (([] ++ xs) ++ ys).length sc3) (([] ++ xs) ++ ys).length (flatC (([] ++ xs) ++ ys))) := hown3; have HB3 : Hid (Below w.heap.size w w3) := HB2.out.trans ⟨hgr3.os, hgr3.tape, hgr3.output, hgr3.size, fun j hj => hgr3.block j (Nat.lt_of_lt_of_le hj HB2.out.size) (fun e => by have := (HO2.out.lt j e.symm).1; omega)⟩; have q0 : w3.cell? ⟨b, 0, none⟩ = some (.slice ao xs.length ac) := (HB3.out.cell (p := ⟨b, 0, none⟩) hlb).trans HH.out.1; have q1 : w3.cell? ⟨b, 1, none⟩ = some (.slice bo ys.length bc) := (HB3.out.cell (p := ⟨b, 1, none⟩) hlb).trans HH.out.2; clear hown3 hgr3 k0 k1)
  rw [rounds_succ]
  go_wp2
  go_ret
  exact ⟨_, _, rfl, ⟨by have h := arcs_of_rowC HO3.out; simpa using h, by have h := own_of_row HO3.out; simpa using h⟩, HB3.out⟩
end Go.Proofs.Ytbfopkhdngfanaa
