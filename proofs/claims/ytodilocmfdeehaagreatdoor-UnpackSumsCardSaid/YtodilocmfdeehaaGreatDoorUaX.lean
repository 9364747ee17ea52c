/- unpack: the plain links for which links stand: plain mathematics. unpack's at and isPlain (after HrU's link_calls). slices.BinarySearch of words, unpack's standsAt, tail and head. rows of whole numbers of one's own (the first part of RefBu). What walk.Simple makes of a list, and what its map knows. walk.Simple, whatever the list: what simpS makes of it, in memory of its own. walk.Back and viaductref09.Back: the list turned about, in memory of its own. walk.Back and viaductref09.Back: the list turned about, in memory of its own. unpack's lay: the plain links for which links stand, or too many. unpack's lay, walked. unpack's standsAt, tail and head. unpack's along and nodes. unpack's Links, Count and Nodes, whatever they are handed. unpack's Count and Nodes, whatever they are handed. (genuh.py) -/
import Derived.Test.YtodilocmfdeehaaGreatDoorHrU
import Derived.Test.YtodilocmfdeehaaGreatDoorInts
import Derived.Deep.AppendLies
import Derived.Deep.RegionLaw
import Derived.OwnWalk
import Derived.Maps.OwnSet
import Derived.Maps.Views
import Derived.WalkKit
import Derived.Maps.OwnOps
import Derived.Shelf.Slices.Reverse
import Derived.Lib.SliceRun
import Derived.Test.YtodilocmfdeehaaGreatDoorHrJ
import Derived.BigQuiet
import Derived.Test.YtodilocmfdeehaaGreatDoorHdM
namespace Go.Proofs.YtodilocmfdeehaaGreatDoor.Hi

def lkO (h : Hr) (i : Nat) : Sd := sd (stds h) i
/-- is the link of a number plain? -/
def plO (h : Hr) (i : Nat) : Bool := (lkO h i).lk.plain
/-- the plain links for which the link of a number stands, so far down as f goes. -/
def flat (h : Hr) : Nat → Nat → List Nat
  | 0, i => [i]
  | f + 1, i => if plO h i then [i] else flat h f (lkO h i).lk.lf ++ flat h f (lkO h i).lk.rt
/-- how many links come up on the way. -/
def szF (h : Hr) : Nat → Nat → Nat
  | 0, _ => 1
  | f + 1, i => if plO h i then 1 else 1 + szF h f (lkO h i).lk.lf + szF h f (lkO h i).lk.rt
def flatI (h : Hr) (i : Nat) : List Nat := flat h ((lkO h i).rk + 1) i
def szI (h : Hr) (i : Nat) : Nat := szF h ((lkO h i).rk + 1) i
theorem rk_min {s : Sd} (h : s.rk < s.lk.hd) : (s.rk = s.tail ∧ s.tail < s.head) ∨ (s.rk = s.head ∧ s.head < s.tail) := by
  unfold Sd.tail Sd.head
  cases s.up
  · exact Or.inr ⟨rfl, h⟩
  · exact Or.inl ⟨rfl, h⟩
/-- a shortcut's children are numbers of links and stand below it. -/
theorem kidsU {h : Hr} (hc : chk h = (0, [])) {i : Nat} (hi : i < (stds h).length) (hp : plO h i = false) :
    (lkO h i).lk.lf < (stds h).length ∧ (lkO h i).lk.rt < (stds h).length ∧ (lkO h (lkO h i).lk.lf).rk < (lkO h i).rk ∧ (lkO h (lkO h i).lk.rt).rk < (lkO h i).rk := by
  have g := falls hc hi hp
  have k := link_ok hc hi
  have k1 := link_ok hc g.l1
  have k2 := link_ok hc g.l2
  have e1 := g.t1
  have e2 := g.t2
  have e3 := g.m1
  have e4 := g.m2
  have e5 := g.m3
  have l0 := k.low
  have l1 := k1.low
  have l2 := k2.low
  have q0 := rk_min l0
  have q1 := rk_min l1
  have q2 := rk_min l2
  refine ⟨g.l1, g.l2, ?_, ?_⟩
  · show (sd (stds h) (sd (stds h) i).lk.lf).rk < (sd (stds h) i).rk
    omega
  · show (sd (stds h) (sd (stds h) i).lk.rt).rk < (sd (stds h) i).rk
    omega
theorem flat_more {h : Hr} (hc : chk h = (0, [])) : ∀ (f g i : Nat), i < (stds h).length → (lkO h i).rk < f → (lkO h i).rk < g → flat h f i = flat h g i ∧ szF h f i = szF h g i
  | 0, _, _, _, h1, _ => absurd h1 (by omega)
  | _ + 1, 0, _, _, _, h2 => absurd h2 (by omega)
  | f + 1, g + 1, i, hi, h1, h2 => by
    unfold flat szF
    cases hp : plO h i with
    | true => simp
    | false =>
      obtain ⟨k1, k2, k3, k4⟩ := kidsU hc hi hp
      obtain ⟨a1, a2⟩ := flat_more hc f g (lkO h i).lk.lf k1 (by omega) (by omega)
      obtain ⟨b1, b2⟩ := flat_more hc f g (lkO h i).lk.rt k2 (by omega) (by omega)
      simp only [Bool.false_eq_true, if_false]
      rw [a1, a2, b1, b2]
      exact ⟨rfl, rfl⟩
theorem flatI_plain {h : Hr} {i : Nat} (hp : plO h i = true) : flatI h i = [i] ∧ szI h i = 1 := by
  unfold flatI szI flat szF
  rw [if_pos hp, if_pos hp]
  exact ⟨rfl, rfl⟩
theorem flatI_cut {h : Hr} (hc : chk h = (0, [])) {i : Nat} (hi : i < (stds h).length) (hp : plO h i = false) :
    flatI h i = flatI h (lkO h i).lk.lf ++ flatI h (lkO h i).lk.rt ∧ szI h i = 1 + szI h (lkO h i).lk.lf + szI h (lkO h i).lk.rt := by
  obtain ⟨k1, k2, k3, k4⟩ := kidsU hc hi hp
  obtain ⟨a1, a2⟩ := flat_more hc (lkO h i).rk ((lkO h (lkO h i).lk.lf).rk + 1) (lkO h i).lk.lf k1 k3 (by omega)
  obtain ⟨b1, b2⟩ := flat_more hc (lkO h i).rk ((lkO h (lkO h i).lk.rt).rk + 1) (lkO h i).lk.rt k2 k4 (by omega)
  refine ⟨?_, ?_⟩
  · show flat h ((lkO h i).rk + 1) i = _
    rw [flat, if_neg (by rw [hp]; decide), a1, b1]
    rfl
  · show szF h ((lkO h i).rk + 1) i = _
    rw [szF, if_neg (by rw [hp]; decide), a2, b2]
    rfl
/-- what several links stand for. -/
def layL (h : Hr) (L : List Nat) : List Nat := L.flatMap (flatI h)
theorem layL_cons (h : Hr) (i : Nat) (L : List Nat) : layL h (i :: L) = flatI h i ++ layL h L := by unfold layL; rw [List.flatMap_cons]
def sumZ (h : Hr) (L : List Nat) : Nat := (L.map (szI h)).sum
theorem sumZ_append (h : Hr) (L M : List Nat) : sumZ h (L ++ M) = sumZ h L + sumZ h M := by unfold sumZ; rw [List.map_append, List.sum_append]
theorem sumZ_one (h : Hr) (i : Nat) : sumZ h [i] = szI h i := by simp [sumZ]
/-- what still waits, the next one last: numbers of links, each the lower the higher up it stands. -/
structure Waits (h : Hr) (B : Nat) (W : List Nat) : Prop where
  lt : ∀ i ∈ W, i < (stds h).length
  low : ∀ p i : Nat, W[p]? = some i → p + (lkO h i).rk ≤ B
theorem Waits.len {h : Hr} {B : Nat} {W : List Nat} (g : Waits h B W) : W.length ≤ B + 1 := by
  rcases Nat.eq_zero_or_pos W.length with e | e
  · omega
  · have := g.low (W.length - 1) _ (List.getElem?_eq_getElem (by omega))
    omega
theorem Waits.pop {h : Hr} {B : Nat} {W : List Nat} {i : Nat} (g : Waits h B (W ++ [i])) : Waits h B W ∧ i < (stds h).length ∧ W.length + (lkO h i).rk ≤ B :=
  ⟨⟨fun j hj => g.lt j (by simp [hj]), fun p j hj => g.low p j (by rw [List.getElem?_append_left (List.getElem?_eq_some_iff.1 hj).1]; exact hj)⟩, g.lt i (by simp), g.low W.length i (by simp)⟩
theorem Waits.push {h : Hr} {B : Nat} {W : List Nat} {i a b : Nat} (g : Waits h B W) (hi : W.length + (lkO h i).rk ≤ B) (ha : a < (stds h).length) (hb : b < (stds h).length) (la : (lkO h a).rk < (lkO h i).rk) (lb : (lkO h b).rk < (lkO h i).rk) : Waits h B (W ++ [a, b]) := by
  refine ⟨fun j hj => ?_, fun p j hj => ?_⟩
  · simp only [List.mem_append, List.mem_cons, List.not_mem_nil, or_false] at hj
    rcases hj with hj | rfl | rfl
    · exact g.lt j hj
    · exact ha
    · exact hb
  · rcases Nat.lt_or_ge p W.length with hp | hp
    · rw [List.getElem?_append_left hp] at hj
      exact g.low p j hj
    · rw [List.getElem?_append_right hp] at hj
      rcases (show p - W.length = 0 ∨ p - W.length = 1 ∨ 2 ≤ p - W.length by omega) with e | e | e
      · rw [e] at hj
        simp at hj
        subst hj
        omega
      · rw [e] at hj
        simp at hj
        subst hj
        omega
      · rw [List.getElem?_eq_none (by simp; omega)] at hj
        cases hj
theorem Waits.back {h : Hr} (hc : chk h = (0, [])) {L : List Nat} (hl : ∀ i ∈ L, i < (stds h).length) : Waits h (L.length + 65536) L.reverse := by
  refine ⟨fun i hi => hl i (List.mem_reverse.1 hi), fun p i hp => ?_⟩
  have h1 := (List.getElem?_eq_some_iff.1 hp).1
  rw [List.length_reverse] at h1
  have hi : i < (stds h).length := hl i (List.mem_reverse.1 (List.mem_of_getElem? hp))
  have k := link_ok hc hi
  have k2 := (chk_ok hc).1
  have k3 := k.low
  have k4 := k.high
  show p + (sd (stds h) i).rk ≤ _
  omega
/-- one step: the next link is plain. -/
theorem lay_plain {h : Hr} {P W T : List Nat} {i : Nat} (e : P ++ layL h (W ++ [i]).reverse = T) (hp : plO h i = true) : (P ++ [i]) ++ layL h W.reverse = T ∧ sumZ h W < sumZ h (W ++ [i]) := by
  obtain ⟨f1, f2⟩ := flatI_plain hp
  refine ⟨?_, ?_⟩
  · rw [← e, List.reverse_append, List.reverse_singleton, List.singleton_append, layL_cons, f1, List.append_assoc]
  · rw [sumZ_append, sumZ_one, f2]
    omega
/-- one step: the next link is a shortcut. -/
theorem lay_cut {h : Hr} (hc : chk h = (0, [])) {P W T : List Nat} {i : Nat} (hi : i < (stds h).length) (e : P ++ layL h (W ++ [i]).reverse = T) (hp : plO h i = false) : P ++ layL h (W ++ [(lkO h i).lk.rt, (lkO h i).lk.lf]).reverse = T ∧ sumZ h (W ++ [(lkO h i).lk.rt, (lkO h i).lk.lf]) < sumZ h (W ++ [i]) := by
  obtain ⟨f1, f2⟩ := flatI_cut hc hi hp
  refine ⟨?_, ?_⟩
  · rw [← e, List.reverse_append, List.reverse_append, List.reverse_singleton, List.singleton_append, layL_cons, f1]
    show P ++ layL h ([(lkO h i).lk.lf, (lkO h i).lk.rt] ++ W.reverse) = _
    rw [List.cons_append, List.singleton_append, layL_cons, layL_cons, List.append_assoc]
  · rw [sumZ_append, sumZ_append, sumZ_one, f2]
    unfold sumZ
    simp only [List.map_cons, List.map_nil, List.sum_cons, List.sum_nil]
    omega
/-- where what a link stands for begins and ends: a walk from its tail to its head. -/
def Chain (h : Hr) : Nat → Nat → List Nat → Prop
  | a, b, [] => a = b
  | a, b, i :: L => i < (stds h).length ∧ plO h i = true ∧ (lkO h i).tail = a ∧ Chain h (lkO h i).head b L
theorem Chain.append {h : Hr} : ∀ {a b c : Nat} {L M : List Nat}, Chain h a b L → Chain h b c M → Chain h a c (L ++ M)
  | _, _, _, [], _, h1, h2 => by
    have e : _ = _ := h1
    subst e
    exact h2
  | _, _, _, _ :: L, _, ⟨k1, k2, k3, k4⟩, h2 => ⟨k1, k2, k3, Chain.append k4 h2⟩
theorem flat_chain {h : Hr} (hc : chk h = (0, [])) : ∀ (f i : Nat), i < (stds h).length → (lkO h i).rk < f → Chain h (lkO h i).tail (lkO h i).head (flat h f i) ∧ flat h f i ≠ []
  | 0, _, _, h1 => absurd h1 (by omega)
  | f + 1, i, hi, h1 => by
    cases hp : plO h i with
    | true =>
      unfold flat
      rw [if_pos hp]
      exact ⟨⟨hi, hp, rfl, rfl⟩, by simp⟩
    | false =>
      obtain ⟨k1, k2, k3, k4⟩ := kidsU hc hi hp
      have g := falls hc hi hp
      obtain ⟨c1, n1⟩ := flat_chain hc f (lkO h i).lk.lf k1 (by omega)
      obtain ⟨c2, _⟩ := flat_chain hc f (lkO h i).lk.rt k2 (by omega)
      unfold flat
      rw [if_neg (by rw [hp]; decide)]
      have e1 : (lkO h (lkO h i).lk.lf).tail = (lkO h i).tail := g.t1
      have e2 : (lkO h (lkO h i).lk.rt).head = (lkO h i).head := g.t2
      have e3 : (lkO h (lkO h i).lk.lf).head = (lkO h (lkO h i).lk.rt).tail := g.m1
      rw [e1, e3] at c1
      rw [e2] at c2
      exact ⟨c1.append c2, by simp [n1]⟩
end Go.Proofs.YtodilocmfdeehaaGreatDoor.Hi

namespace Go.Proofs.YtodilocmfdeehaaGreatDoor.Hi
open Go.RowKit Go.Extern

attribute [local go_sem] Oper.semAt_some

theorem uat_res {W : World} {z : Nat} {l : Lk} {tmps : Array Value} (h1 : W.heap[z]? = some (.cells #[.int .u32 (l.hd : Int), .int .u64 (l.wt : Int), .int .u32 (l.lf : Int), .int .u32 (l.rt : Int)] 65)) (t4 : tmps[4]?.getD undef = .pointer (some ⟨z, 0, none⟩)) :
    (results Tryz.f60 tmps).run Tryz.prog W = .ok (lvl l) W := by
  have c0 : W.cell? ⟨z, 0, none⟩ = some (.int .u32 (l.hd : Int)) := by simp [World.cell?, h1]
  have c1 : W.cell? ⟨z, 1, none⟩ = some (.int .u64 (l.wt : Int)) := by simp [World.cell?, h1]
  have c2 : W.cell? ⟨z, 2, none⟩ = some (.int .u32 (l.lf : Int)) := by simp [World.cell?, h1]
  have c3 : W.cell? ⟨z, 3, none⟩ = some (.int .u32 (l.rt : Int)) := by simp [World.cell?, h1]
  simp [results, Tryz.results60, go_sem, t4, c0, c1, c2, c3, lvl]
set_option maxRecDepth 100000 in
set_option maxHeartbeats 2000000 in
theorem uat_calls (v : HV) (h : Hr) (i : Nat) (w : World) (hH : HasH w v h) (hb2 : h.dn.length ≤ 1152921504606846976) (hi : i < h.up.length + h.dn.length) :
    Calls Tryz.prog 60 #[hvl v h, .int .i64 (i : Int)] w fun e w' => e = .returned (lvl (linkAt h i)) ∧ Below w.heap.size w w' := by
  obtain ⟨z, hz⟩ : ∃ z, w.heap.size = z := ⟨_, rfl⟩
  obtain ⟨W0, hW0⟩ : ∃ W0, (w.alloc (.cells (cellsH v h) 25)).alloc (.cells #[.int .u32 0, .int .u64 0, .int .u32 0, .int .u32 0] 65) = W0 := ⟨_, rfl⟩
  have hB0 : Below w.heap.size w W0 := by rw [← hW0]; exact ((Below.refl _ w).alloc (Nat.le_refl _) _).alloc (by simp) _
  have h0 : W0.heap[z]? = some (.cells (cellsH v h) 25) := by
    rw [← hW0, ← hz]; exact (Below.heap_alloc _ _ _ (by simp)).trans (heap_newW _ _)
  have h1 : W0.heap[z + 1]? = some (.cells #[.int .u32 0, .int .u64 0, .int .u32 0, .int .u32 0] 65) := by
    have g := heap_newW (w.alloc (.cells (cellsH v h) 25)) (.cells #[.int .u32 0, .int .u64 0, .int .u32 0, .int .u32 0] 65)
    rw [World.size_alloc, hW0, hz] at g
    exact g
  have HW0 : Hid ((w.alloc (.cells (cellsH v h) 25)).alloc (.cells #[.int .u32 0, .int .u64 0, .int .u32 0, .int .u32 0] 65) = W0) := hW0
  have HH : Hid (HasH W0 v h ∧ Below w.heap.size w W0) := ⟨hH.keep hB0, hB0⟩
  have H1 : Hid (W0.heap[z + 1]? = some (.cells #[.int .u32 0, .int .u64 0, .int .u32 0, .int .u32 0] 65)) := h1
  obtain ⟨c0, c1, c2, c3, c4⟩ := five_cells h0
  clear hW0 h0 hB0 hH h1
  unfold hvl
  unfold cellsH at HW0
  go_enter Tryz.func60, Tryz.ntmps60
  go_upto_region 1 with fail
  rw [HW0.out]
  have f0 : W0.heap[z + 1]? = some (.cells #[.int .u32 0, .int .u64 0, .int .u32 0, .int .u32 0] 65) := H1.out
  have e0 : W0.cell? ⟨z + 1, 0, none⟩ = some (.int .u32 0) := by simp [World.cell?, f0]
  have e1 : W0.cell? ⟨z + 1, 1, none⟩ = some (.int .u64 0) := by simp [World.cell?, f0]
  have e2 : W0.cell? ⟨z + 1, 2, none⟩ = some (.int .u32 0) := by simp [World.cell?, f0]
  have e3 : W0.cell? ⟨z + 1, 3, none⟩ = some (.int .u32 0) := by simp [World.cell?, f0]
  have z0 : W0.frozen? ⟨z + 1, 0, none⟩ = false := by simp [World.frozen?, f0]
  have z1 : W0.frozen? ⟨z + 1, 1, none⟩ = false := by simp [World.frozen?, f0]
  have z2 : W0.frozen? ⟨z + 1, 2, none⟩ = false := by simp [World.frozen?, f0]
  have z3 : W0.frozen? ⟨z + 1, 3, none⟩ = false := by simp [World.frozen?, f0]
  clear f0
  by_cases hlt : i < h.up.length
  · have d1 : decide ((i : Int) < (h.up.length : Int)) = true := by simp; omega
    obtain ⟨l, hl⟩ : ∃ l, h.up[i]? = some l := ⟨h.up[i], List.getElem?_eq_getElem hlt⟩
    have HL : Hid (linkAt h i = l) := by show _ = _; unfold linkAt; rw [List.getD_eq_getElem?_getD, List.getElem?_append_left hlt, hl]; rfl
    obtain ⟨hok, b, off, hbo, hbl, q0, q1, q2, q3⟩ := HH.out.1.up.at hl
    rw [hbo] at c2
    clear hok hl
    go_wp2
    have hS := set_four H1.out (.int .u32 (l.hd : Int)) (.int .u64 (l.wt : Int)) (.int .u32 (l.lf : Int)) (.int .u32 (l.rt : Int))
    refine bodyPost_ret (uat_res hS rfl) rfl ⟨by rw [HL.out], ?_⟩
    exact (((HH.out.2.setCell (by rw [hz]; exact Nat.le_succ _) _).setCell (by rw [hz]; exact Nat.le_succ _) _).setCell (by rw [hz]; exact Nat.le_succ _) _).setCell (by rw [hz]; exact Nat.le_succ _) _
  · have d1 : decide ((i : Int) < (h.up.length : Int)) = false := by simp; omega
    obtain ⟨k, hk⟩ : ∃ k, i = h.up.length + k := ⟨i - h.up.length, by omega⟩
    subst hk
    obtain ⟨l, hl⟩ : ∃ l, h.dn[k]? = some l := ⟨h.dn[k], List.getElem?_eq_getElem (by omega)⟩
    have HL : Hid (linkAt h (h.up.length + k) = l) := by show _ = _; unfold linkAt; rw [List.getD_eq_getElem?_getD, List.getElem?_append_right (by omega), Nat.add_sub_cancel_left, hl]; rfl
    obtain ⟨hok, b, off, hbo, hbl, q0, q1, q2, q3⟩ := HH.out.1.dn.at hl
    rw [hbo] at c4
    have hw : IntKind.i64.wrap (((h.up.length + k : Nat) : Int) - (h.up.length : Int)) = (k : Int) := by rw [IntKind.wrap_i64]; omega
    have k1 : (k : Int) < (h.dn.length : Int) := by omega
    have k2 : (0 : Int) ≤ (k : Int) := by omega
    clear hok hl
    go_wp2
    have hS := set_four H1.out (.int .u32 (l.hd : Int)) (.int .u64 (l.wt : Int)) (.int .u32 (l.lf : Int)) (.int .u32 (l.rt : Int))
    refine bodyPost_ret (uat_res hS rfl) rfl ⟨by rw [HL.out], ?_⟩
    exact (((HH.out.2.setCell (by rw [hz]; exact Nat.le_succ _) _).setCell (by rw [hz]; exact Nat.le_succ _) _).setCell (by rw [hz]; exact Nat.le_succ _) _).setCell (by rw [hz]; exact Nat.le_succ _) _

set_option maxRecDepth 100000 in
theorem uplain_calls (l : Lk) (w : World) : Calls Tryz.prog 61 #[lvl l] w fun e w' => e = .returned (.bool l.plain) ∧ Below w.heap.size w w' := by
  obtain ⟨hd, wt, lf, rt⟩ := l
  unfold lvl Lk.plain noLink
  dsimp only
  by_cases h1 : lf = 4294967295
  · subst h1
    by_cases h2 : rt = 4294967295
    · subst h2
      go_enter Tryz.func61, Tryz.ntmps61
      go_wp2
      go_ret
      exact ⟨rfl, (Below.refl _ _).alloc (Nat.le_refl _) _⟩
    · have g2 : ((rt : Int) == 4294967295) = false := by simp; omega
      have g3 : (rt == 4294967295) = false := by simp [h2]
      go_enter Tryz.func61, Tryz.ntmps61
      go_wp2
      go_ret
      exact ⟨by rw [g3]; rfl, (Below.refl _ _).alloc (Nat.le_refl _) _⟩
  · have g2 : ((lf : Int) == 4294967295) = false := by simp; omega
    have g3 : (lf == 4294967295) = false := by simp [h1]
    go_enter Tryz.func61, Tryz.ntmps61
    go_wp2
    go_ret
    exact ⟨by rw [g3]; rfl, (Below.refl _ _).alloc (Nat.le_refl _) _⟩
end Go.Proofs.YtodilocmfdeehaaGreatDoor.Hi

namespace Go.Proofs.YtodilocmfdeehaaGreatDoor.Hi
open Go.RowKit Go.Extern

attribute [local go_sem] Oper.semAt_some

/-- how many numbers at the front of a list that rises are below x. -/
def below32 (l : List Nat) (x : Nat) : Nat := l.countP (· < x)
theorem below32_le (l : List Nat) (x : Nat) : below32 l x ≤ l.length := List.countP_le_length
theorem below32_at {l : List Nat} {x i : Nat} (hi : i ≤ l.length) (h1 : ∀ t a, t < i → l[t]? = some a → a < x) (h2 : ∀ t a, i ≤ t → l[t]? = some a → x ≤ a) : below32 l x = i := by
  have e := List.take_append_drop i l
  unfold below32
  rw [← e, List.countP_append]
  have c1 : (l.take i).countP (fun a => decide (a < x)) = (l.take i).length := by
    rw [List.countP_eq_length]
    intro a ha
    obtain ⟨t, ht⟩ := List.getElem?_of_mem ha
    have hlt := (List.getElem?_eq_some_iff.1 ht).1
    rw [List.length_take] at hlt
    rw [List.getElem?_take_of_lt (by omega)] at ht
    exact decide_eq_true (h1 t a (by omega) ht)
  have c2 : (l.drop i).countP (fun a => decide (a < x)) = 0 := by
    rw [List.countP_eq_zero]
    intro a ha
    obtain ⟨t, ht⟩ := List.getElem?_of_mem ha
    rw [List.getElem?_drop] at ht
    have := h2 (i + t) a (by omega) ht
    simp
    omega
  rw [c1, c2, List.length_take]
  omega
theorem pair_le {l : List Nat} (hs : l.Pairwise (· ≤ ·)) {i j a b : Nat} (hi : l[i]? = some a) (hj : l[j]? = some b) (hij : i < j) : a ≤ b := by
  obtain ⟨h1, e1⟩ := List.getElem?_eq_some_iff.1 hi
  obtain ⟨h2, e2⟩ := List.getElem?_eq_some_iff.1 hj
  rw [← e1, ← e2]
  exact List.pairwise_iff_getElem.1 hs i j h1 h2 hij
theorem ws_get {w : World} {ao : Option Addr} {n cap : Nat} {l : List Nat} (h : HasWs w (.slice ao n cap) l) {j a : Nat} (hj : l[j]? = some a) : a < 4294967296 ∧ ∃ b off, ao = some ⟨b, off, none⟩ ∧ b < w.heap.size ∧ w.cell? ⟨b, off + j, none⟩ = some (.int .u32 (a : Int)) := by
  obtain ⟨ao', cap', e, _, hc⟩ := h
  injection e with e1 _ _
  subst e1
  exact hc j a hj
theorem cnan32_calls (a : Int) (w : World) : Calls Tryz.prog 122 #[.int .u32 a] w fun e w' => e = .returned (.bool false) ∧ w' = w := by
  go_enter Tryz.func122, Tryz.ntmps122
  go_wp2
  go_ret
  exact ⟨by simp, rfl⟩
theorem snan32_calls (a : Int) (w : World) : Calls Tryz.prog 109 #[.int .u32 a] w fun e w' => e = .returned (.bool false) ∧ w' = w := by
  go_enter Tryz.func109, Tryz.ntmps109
  go_wp2
  go_ret
  exact ⟨by simp, rfl⟩
set_option maxRecDepth 100000 in
theorem less32_calls (a b : Nat) (w : World) : Calls Tryz.prog 108 #[.int .u32 (a : Int), .int .u32 (b : Int)] w fun e w' => e = .returned (.bool (decide (a < b))) ∧ w' = w := by
  go_enter Tryz.func108, Tryz.ntmps108
  go_wp2_with fail
  refine (cnan32_calls (a : Int) w).mono ?_
  rintro e y ⟨rfl, hy⟩
  have hy' := hy.symm
  clear hy
  subst hy'
  go_wp2
  go_ret
  exact ⟨rfl, rfl⟩
set_option maxRecDepth 100000 in
set_option maxHeartbeats 4000000 in
theorem bs32_calls (ao : Option Addr) (cap : Nat) (l : List Nat) (x : Nat) (w : World) (h : HasWs w (.slice ao l.length cap) l) (hs : l.Pairwise (· ≤ ·)) (hn : l.length < 4611686018427387904) :
    Calls Tryz.prog 91 #[.slice ao l.length cap, .int .u32 (x : Int)] w fun e w' => ∃ f, e = .returned (.tuple #[.int .i64 (below32 l x : Int), .bool f]) ∧ w' = w := by
  have HL : Hid (HasWs w (.slice ao l.length cap) l ∧ l.Pairwise (· ≤ ·)) := ⟨h, hs⟩
  have HLE : Hid (∀ a wx, Calls Tryz.prog 108 #[.int .u32 ((a : Nat) : Int), .int .u32 (x : Int)] wx fun e w' => e = .returned (.bool (decide (a < x))) ∧ w' = wx) := fun a wx => less32_calls a x wx
  have HNA : Hid (∀ (a : Int) wx, Calls Tryz.prog 109 #[.int .u32 a] wx fun e w' => e = .returned (.bool false) ∧ w' = wx) := fun a wx => snan32_calls a wx
  clear h hs
  go_enter Tryz.func91, Tryz.ntmps91
  go_wp2_with fail
  go_loopw [7, 8] (fun iv jv wr => ∃ lo hi : Nat, iv = .int .i64 (lo : Int) ∧ jv = .int .i64 (hi : Int) ∧ lo ≤ hi ∧ hi ≤ l.length ∧ Hid (wr = w) ∧ (∀ t a, t < lo → l[t]? = some a → a < x) ∧ (∀ t a, hi ≤ t → l[t]? = some a → x ≤ a)) (fun iv jv _ => (intOf jv).toNat - (intOf iv).toNat)
  case atStart => exact ⟨0, l.length, rfl, rfl, Nat.zero_le _, Nat.le_refl _, by first | exact True.intro | exact rfl, fun t a ht => by omega, fun t a ht ha => by have := (List.getElem?_eq_some_iff.1 ha).1; omega⟩
  case round =>
    obtain ⟨lo, hi, rfl, rfl, hlh, hhl, HE, h1, h2⟩ := hrel
    have HI : Hid ((∀ t a, t < lo → l[t]? = some a → a < x) ∧ (∀ t a, hi ≤ t → l[t]? = some a → x ≤ a)) := ⟨h1, h2⟩
    have hE := HE.out.symm
    clear h1 h2 HE
    subst hE
    by_cases hlt : lo < hi
    · obtain ⟨m, hm⟩ : ∃ m, (lo + hi) / 2 = m := ⟨_, rfl⟩
      have hm1 : lo ≤ m ∧ m < hi := by omega
      have hm2 : ((lo : Int) + (hi : Int)) / 2 = (m : Int) := by omega
      obtain ⟨a, ha⟩ : ∃ a, l[m]? = some a := ⟨l[m]'(by omega), List.getElem?_eq_getElem _⟩
      obtain ⟨hok, b, off, rfl, bl, c0⟩ := ws_get HL.out.1 ha
      have HA : Hid (l[m]? = some a) := ha
      have i1 : (0 : Int) ≤ (m : Int) := by omega
      have i2 : (m : Int) < (l.length : Int) := by omega
      have w1 : IntKind.i64.wrap ((lo : Int) + (hi : Int)) = (lo : Int) + (hi : Int) := by rw [IntKind.wrap_i64] <;> omega
      have w2 : IntKind.i64.wrap (m : Int) = (m : Int) := by rw [IntKind.wrap_i64] <;> omega
      clear ha hok hm
      go_wp2_with fail
      refine (HLE.out a w).mono ?_
      rintro e y ⟨rfl, hy⟩
      have hy' := hy.symm
      clear hy
      subst hy'
      by_cases hax : a < x
      · have f1 : decide ((a : Int) < (x : Int)) = true := decide_eq_true (by omega)
        have f2 : decide (a < x) = true := decide_eq_true hax
        have HN : Hid (∀ t c, t < m + 1 → l[t]? = some c → c < x) := fun t c ht hta => by
          rcases Nat.lt_or_ge t m with h | h
          · have := pair_le HL.out.2 hta HA.out h
            omega
          · obtain rfl : t = m := by omega
            rw [HA.out] at hta
            cases hta
            exact hax
        go_wp2
        go_roundw
        case rel => exact ⟨m + 1, hi, by go_num, rfl, by omega, hhl, by first | exact True.intro | exact rfl, HN.out, HI.out.2⟩
        case measure => simp [intOf]; omega
      · have f1 : decide ((a : Int) < (x : Int)) = false := decide_eq_false (by omega)
        have f2 : decide (a < x) = false := decide_eq_false hax
        have HN : Hid (∀ t c, m ≤ t → l[t]? = some c → x ≤ c) := fun t c ht hta => by
          rcases Nat.lt_or_ge m t with h | h
          · have := pair_le HL.out.2 HA.out hta h
            omega
          · obtain rfl : t = m := by omega
            rw [HA.out] at hta
            cases hta
            omega
        go_wp2
        go_roundw
        case rel => exact ⟨lo, m, rfl, rfl, by omega, by omega, by first | exact True.intro | exact rfl, HI.out.1, HN.out⟩
        case measure => simp [intOf]; omega
    · obtain rfl : lo = hi := by omega
      have HLO : Hid (below32 l x = lo) := below32_at hhl HI.out.1 HI.out.2
      have q0 : decide ((lo : Int) < (lo : Int)) = false := by simp
      by_cases hlt2 : lo < l.length
      · obtain ⟨a, ha⟩ : ∃ a, l[lo]? = some a := ⟨l[lo]'hlt2, List.getElem?_eq_getElem _⟩
        obtain ⟨hok, b, off, rfl, bl, c0⟩ := ws_get HL.out.1 ha
        have l1 : (lo : Int) < (l.length : Int) := by omega
        have l2 : (0 : Int) ≤ (lo : Int) := by omega
        have l3 : decide ((lo : Int) < (l.length : Int)) = true := decide_eq_true l1
        have l4 : decide (lo < l.length) = true := decide_eq_true hlt2
        clear ha hok
        by_cases hax : a = x
        · have f1 : ((a : Int) == (x : Int)) = true := by simp; omega
          subst hax
          go_wp2
          go_ret2
          rw [HLO.out]
          exact ⟨_, rfl, rfl⟩
        · have f1 : ((a : Int) == (x : Int)) = false := by simp; omega
          go_wp2_with fail
          refine (HNA.out (a : Int) w).mono ?_
          rintro e y ⟨rfl, hy⟩
          have hy' := hy.symm
          clear hy
          subst hy'
          go_wp2
          go_ret2
          rw [HLO.out]
          exact ⟨_, rfl, rfl⟩
      · have l3 : decide ((lo : Int) < (l.length : Int)) = false := decide_eq_false (by omega)
        have l4 : decide (lo < l.length) = false := decide_eq_false hlt2
        go_wp2
        go_ret2
        rw [HLO.out]
        exact ⟨_, rfl, rfl⟩
end Go.Proofs.YtodilocmfdeehaaGreatDoor.Hi

namespace Go.Proofs.YtodilocmfdeehaaGreatDoor
open Go.RowKit Go.Extern

theorem infoJ : (Tryz.prog.info? 3).map (fun i => (i.zero, i.size, i.bytes)) = some (some (.int .i64 0), 1, 8) := by kernel_rfl
/-- numbers as cells. -/
def iv (l : List Int) : List Value := l.map (Value.int .i64)
theorem iv_len (l : List Int) : (iv l).length = l.length * 1 := by simp [iv]
theorem iv_append (l r : List Int) : iv (l ++ r) = iv l ++ iv r := by simp [iv]
theorem iown_keep {w w' : World} {B n : Nat} {v : Value} {xs : List Value} (h : w.ownsRow B 3 1 v n xs) (hk : ∀ k, v.ownBlock = some k → w'.heap[k]? = w.heap[k]?) : w'.ownsRow B 3 1 v n xs := by
  obtain ⟨h1, h2⟩ := h
  refine ⟨h1, ?_⟩
  rcases h2 with h2 | ⟨g, cap, cur, e, hb, hh, r⟩
  · exact Or.inl h2
  · subst e
    exact Or.inr ⟨g, cap, cur, rfl, hb, (hk g rfl).trans hh, r⟩
theorem iown_slice {w : World} {B n : Nat} {v : Value} {xs : List Value} (h : w.ownsRow B 3 1 v n xs) : ∃ ao cap, v = .slice ao n cap := by
  rcases h.2 with ⟨h, h'⟩ | ⟨g, cap, cur, h, _⟩
  · exact ⟨none, 0, by rw [h']; exact h⟩
  · exact ⟨_, cap, h⟩
/-- two rows that share no block. -/
def Apart (a b : Value) : Prop := ∀ k, a.ownBlock = some k → b.ownBlock ≠ some k
end Go.Proofs.YtodilocmfdeehaaGreatDoor

namespace Go.Proofs.YtodilocmfdeehaaGreatDoor
open Go.Maps

/-- one number more: what stands behind it is cut off, or it comes to stand there. -/
def stepS (s : List Int) (v : Int) : List Int := if v ∈ s then s.take (s.idxOf v + 1) else s ++ [v]
def simpS (xs : List Int) : List Int := xs.foldl stepS []
theorem take_snoc {xs : List Int} {k : Nat} {a : Int} (h : xs[k]? = some a) : xs.take (k + 1) = xs.take k ++ [a] := by
  rw [List.take_add_one, h]
  rfl
theorem simpS_snoc {xs : List Int} {k : Nat} {a : Int} (h : xs[k]? = some a) : simpS (xs.take (k + 1)) = stepS (simpS (xs.take k)) a := by
  rw [take_snoc h]
  simp [simpS, List.foldl_append]
theorem stepS_nodup {s : List Int} (h : s.Nodup) (v : Int) : (stepS s v).Nodup := by
  unfold stepS
  split
  · exact h.sublist (List.take_sublist _ _)
  · rename_i hv
    rw [List.nodup_append]
    refine ⟨h, by simp, ?_⟩
    intro a ha b hb
    simp at hb
    subst hb
    exact fun e => hv (e ▸ ha)
theorem stepS_len (s : List Int) (v : Int) : (stepS s v).length ≤ s.length + 1 := by
  unfold stepS
  split
  · rw [List.length_take]; omega
  · simp
theorem simp_fold : ∀ (xs s : List Int), s.Nodup → (xs.foldl stepS s).Nodup ∧ (xs.foldl stepS s).length ≤ s.length + xs.length
  | [], s, h => ⟨h, by simp⟩
  | x :: r, s, h => by
    have ih := simp_fold r (stepS s x) (stepS_nodup h x)
    have := stepS_len s x
    refine ⟨ih.1, Nat.le_trans ih.2 ?_⟩
    simp only [List.length_cons]
    omega
theorem simpS_nodup (xs : List Int) : (simpS xs).Nodup := (simp_fold xs [] List.nodup_nil).1
theorem simpS_len (xs : List Int) : (simpS xs).length ≤ xs.length := by
  have := (simp_fold xs [] List.nodup_nil).2
  unfold simpS
  simpa using this
theorem simpS_sub : ∀ (xs s : List Int) (x : Int), x ∈ xs.foldl stepS s → x ∈ s ∨ x ∈ xs
  | [], s, x, h => Or.inl h
  | a :: r, s, x, h => by
    rcases simpS_sub r (stepS s a) x h with h1 | h1
    · unfold stepS at h1
      split at h1
      · exact Or.inl (List.mem_of_mem_take h1)
      · rcases List.mem_append.1 h1 with h2 | h2
        · exact Or.inl h2
        · simp at h2
          subst h2
          exact Or.inr (by simp)
    · exact Or.inr (by simp [h1])
theorem simpS_mem {xs : List Int} {x : Int} (h : x ∈ simpS xs) : x ∈ xs := by
  rcases simpS_sub xs [] x h with h1 | h1
  · cases h1
  · exact h1

/-- the key of a number. -/
abbrev ky (x : Int) : Lit := .int .i64 x
theorem ky_ne {x y : Int} (h : x ≠ y) : ky x ≠ ky y := fun e => h (by injection e)
theorem ky_key (x : Int) : WideAt.IsKeyLit (ky x) := trivial
/-- the map knows the numbers of A, each by its place in s. -/
structure MapIs (D : DataW Unit) (A s : List Int) : Prop where
  isMap : IsMap D
  has : ∀ x, Maps.has D (ky x) = decide (x ∈ A)
  place : ∀ (i : Nat) (x : Int), s[i]? = some x → x ∈ A → ∀ z, D.atKey (ky x) z = .lit (.int .i64 (i : Int))
theorem MapIs.nil : MapIs (.map []) [] [] := ⟨isMap_empty, fun x => by simp [Maps.has], fun i x h => by simp at h⟩
theorem MapIs.add {D : DataW Unit} {s : List Int} {v : Int} (h : MapIs D s s) (hv : v ∉ s) : MapIs (D.put (ky v) (.lit (.int .i64 (s.length : Int)))) (s ++ [v]) (s ++ [v]) := by
  refine ⟨h.isMap.put _ _, fun x => ?_, fun i x hi hx z => ?_⟩
  · by_cases e : x = v
    · subst e
      rw [has_put_same h.isMap (ky_key _)]
      simp
    · rw [has_put_other (ky_ne e), h.has]
      simp [e]
  · rcases Nat.lt_or_ge i s.length with hl | hl
    · rw [List.getElem?_append_left hl] at hi
      have hm : x ∈ s := List.mem_of_getElem? hi
      have hne : x ≠ v := fun e => hv (e ▸ hm)
      rw [atKey_put_other (ky_ne hne)]
      exact h.place i x hi hm z
    · rw [List.getElem?_append_right hl] at hi
      rcases Nat.eq_or_lt_of_le hl with e | e
      · subst e
        simp at hi
        subst hi
        exact atKey_put_same h.isMap (ky_key _) _ _
      · rw [List.getElem?_eq_none (by simp; omega)] at hi
        cases hi
theorem MapIs.drop {D : DataW Unit} {P R s : List Int} {x : Int} (h : MapIs D (P ++ x :: R) s) (hn : x ∉ P ++ R) : MapIs (D.del (ky x)) (P ++ R) s := by
  refine ⟨h.isMap.del _, fun y => ?_, fun i y hi hy z => ?_⟩
  · by_cases e : y = x
    · subst e
      rw [has_del_same]
      rw [decide_eq_false hn]
    · rw [has_del_other (ky_ne e), h.has]
      simp [e]
  · have e : y ≠ x := fun e => hn (e ▸ hy)
    rw [atKey_del_other (ky_ne e)]
    refine h.place i y hi ?_ z
    rcases List.mem_append.1 hy with h1 | h1
    · exact List.mem_append.2 (Or.inl h1)
    · exact List.mem_append.2 (Or.inr (by simp [h1]))
theorem MapIs.cut {D : DataW Unit} {s : List Int} {m : Nat} (h : MapIs D (s.take m) s) : MapIs D (s.take m) (s.take m) := by
  refine ⟨h.isMap, h.has, fun i x hi hx z => ?_⟩
  rw [List.getElem?_take] at hi
  split at hi
  · exact h.place i x hi hx z
  · cases hi
/-- the place of a number that stands there. -/
theorem MapIs.look {D : DataW Unit} {s : List Int} {v c : Int} (h : MapIs D s s) (hv : v ∈ s) (hc : D.atKey (ky v) (.lit (.int .i64 0)) = .lit (.int .i64 c)) : c = (s.idxOf v : Int) ∧ s.idxOf v < s.length := by
  have hl : s.idxOf v < s.length := List.idxOf_lt_length_of_mem hv
  have hi : s[s.idxOf v]? = some v := by rw [List.getElem?_eq_getElem hl, List.getElem_idxOf]
  rw [h.place _ v hi hv] at hc
  injection hc with e
  injection e with _ e2
  exact ⟨e2.symm, hl⟩
theorem nodup_parts {s : List Int} (h : s.Nodup) {m : Nat} {x : Int} (hx : s[m]? = some x) (p : Nat) (hp : p ≤ m) : x ∉ s.take p ++ s.drop (m + 1) := by
  intro hm
  have key : ∀ j : Nat, s[j]? = some x → j = m := fun j hj => by
    obtain ⟨hj1, hj2⟩ := List.getElem?_eq_some_iff.1 hj
    obtain ⟨hm1, hm2⟩ := List.getElem?_eq_some_iff.1 hx
    have e1 := List.Nodup.idxOf_getElem h j hj1
    have e2 := List.Nodup.idxOf_getElem h m hm1
    rw [hj2] at e1
    rw [hm2] at e2
    omega
  rcases List.mem_append.1 hm with h1 | h1
  · obtain ⟨j, hj⟩ := List.getElem?_of_mem h1
    rw [List.getElem?_take] at hj
    split at hj
    · have := key j hj; omega
    · cases hj
  · obtain ⟨j, hj⟩ := List.getElem?_of_mem h1
    rw [List.getElem?_drop] at hj
    have := key _ hj
    omega
end Go.Proofs.YtodilocmfdeehaaGreatDoor

namespace Go.Proofs.YtodilocmfdeehaaGreatDoor
open Go.RowKit Go.Extern Go.Maps

attribute [local go_sem] Oper.semAt_some

theorem law_ii : Keyed Tryz.prog 3 := int_keyed Tryz.underlying3
theorem zero_ii (w : World) : (zeroValue 3).run Tryz.prog w = .ok (.int .i64 0) w := by kernel_rfl
theorem Tryz.elemS : Tryz.prog.underlying 28 = some (.slice (Tryz.prog.elem 28)) := by kernel_rfl
theorem Tryz.sizeS (w : World) : (sizeOf (Tryz.prog.elem 28)).run Tryz.prog w = .ok 1 w := by kernel_rfl
theorem isl_to (b n lc i : Nat) (h : n ≤ lc) (hi : i ≤ n) (w : World) : (Instr.slice 28 (.slice (some ⟨b, 0, none⟩) n lc) none (some (.int .i64 (i : Int))) none).run Tryz.prog w = .ok (.slice (some ⟨b, 0, none⟩) i lc) w := by
  rw [run_slice_h (ht := Tryz.elemS) (h0 := by omega) (h2 := by omega), Tryz.sizeS]
  have e2 : (i : Int).toNat = i := by omega
  simp only [Result.andThen_ok, sliced, e2]
  simp [Addr.add]
theorem isl_from (b n lc i : Nat) (h : n ≤ lc) (hi : i ≤ n) : ∃ ao, (∀ w, (Instr.slice 28 (.slice (some ⟨b, 0, none⟩) n lc) (some (.int .i64 (i : Int))) none none).run Tryz.prog w = .ok (.slice ao (n - i) (lc - i)) w) ∧ (i < n → ao = some ⟨b, i, none⟩) := by
  have e2 : (i : Int).toNat = i := by omega
  refine ⟨if lc = i then some ⟨b, 0, none⟩ else (some (⟨b, 0, none⟩ : Addr)).map (·.add (i * 1)), fun w => ?_, fun hl => ?_⟩
  · rw [run_slice_l (ht := Tryz.elemS) (h0 := by omega) (h1 := by omega), Tryz.sizeS]
    simp only [Result.andThen_ok, sliced, e2]
  · rw [if_neg (by omega)]
    show some ((⟨b, 0, none⟩ : Addr).add (i * 1)) = _
    rw [Addr.add_lit, Nat.zero_add, Nat.mul_one]
/-- a row that is cut is a row. -/
theorem iown_cut {w : World} {B g n cap m : Nat} {l : List Int} (h : w.ownsRow B 3 1 (.slice (some ⟨g, 0, none⟩) n cap) n (iv l)) (hm : m ≤ n) : w.ownsRow B 3 1 (.slice (some ⟨g, 0, none⟩) m cap) m (iv (l.take m)) := by
  have hl : l.length = n := by have := h.1; simp [iv] at this; exact this
  refine ⟨by simp [iv, hl]; omega, ?_⟩
  rcases h.2 with ⟨e, _⟩ | ⟨g', cap', cur, e, hb, hh, hle, hmx, hsz, ht⟩
  · cases e
  · cases e
    refine .inr ⟨g, cap, cur, rfl, hb, hh, by omega, hmx, hsz, ?_⟩
    have e2 : cur.toList.take (m * 1) = (cur.toList.take (n * 1)).take m := by rw [List.take_take]; congr 1; omega
    rw [e2, ht]
    simp [iv, List.map_take]
theorem cell_one1 (w : World) (v : Value) : ∀ j u, [v][j]? = some u → (w.alloc (.cells #[v] 3)).cell? ((⟨w.heap.size, 0, none⟩ : Addr).add j) = some u := by
  intro j u hj
  rcases j with _ | j
  · simp at hj
    subst hj
    have hg := heap_new w (.cells #[v] 3)
    rw [Addr.add_lit]
    generalize w.alloc (.cells #[v] 3) = W at hg ⊢
    simp [World.cell?, hg]
  · simp at hj
theorem iown_alloc {w : World} {B n : Nat} {v : Value} {xs : List Value} (h : w.ownsRow B 3 1 v n xs) (o : Obj) : (w.alloc o).ownsRow B 3 1 v n xs := iown_keep h fun k hk => Below.heap_alloc _ _ _ (h.lt k hk).2
theorem iown_old {w w' : World} {M n : Nat} {v : Value} {xs : List Value} (h : w.ownsRow (M + 1) 3 1 v n xs) (hg : w.grownBy w' (some M)) : w'.ownsRow (M + 1) 3 1 v n xs := iown_keep h fun k hk => hg.block k (h.lt k hk).2 (fun e => by have h1 := (h.lt k hk).1; have := Option.some.inj e; omega)
theorem iown_base0 {w : World} {M n : Nat} {v : Value} {xs : List Value} (h : w.ownsRow (M + 1) 3 1 v n xs) : w.ownsRow M 3 1 v n xs := by
  obtain ⟨h1, h2⟩ := h
  refine ⟨h1, ?_⟩
  rcases h2 with h2 | ⟨g, cap, cur, e, hb, r⟩
  · exact Or.inl h2
  · exact Or.inr ⟨g, cap, cur, e, by omega, r⟩
theorem below_g {w wr w1 : World} {row : Option Nat} (h : Below w.heap.size w wr) (hg : wr.grownBy w1 row) (hr : ∀ k, some k = row → w.heap.size ≤ k) : Below w.heap.size w w1 :=
  h.trans ⟨hg.os, hg.tape, hg.output, hg.size, fun k hk => hg.block k (Nat.lt_of_lt_of_le hk h.size) (fun e => by have := hr k e; omega)⟩
/-- numbers as cells, by another name. -/
abbrev iv' (l : List Int) : List Value := iv l
/-- what holds at each round. -/
structure SI (w : World) (M : Nat) (s : List Int) (k : Nat) (ko : Option Addr) (kc : Nat) (wr : World) : Prop where
  row : wr.ownsRow (M + 1) 3 1 (.slice ko s.length kc) s.length (iv s)
  map : ∃ D : DataW Unit, wr.ownsMap Tryz.prog 3 (plainElem Tryz.prog 3) M k D ∧ MapIs D s s
  below : Below w.heap.size w wr
  size : M + 1 ≤ wr.heap.size

set_option maxRecDepth 100000 in
set_option maxHeartbeats 4000000 in
theorem simple_calls (lo : Option Addr) (lc : Nat) (xs : List Int) (w : World) (hl : HasInts w (.slice lo xs.length lc) xs) (hx : ∀ x ∈ xs, (Lit.int .i64 x).wf = true) (hm : xs.length * 8 ≤ 140737488351232) :
    Calls Tryz.prog 44 #[.slice lo xs.length lc] w fun e w' => ∃ so sc, e = .returned (.slice so (simpS xs).length sc) ∧ w'.ownsRow w.heap.size 3 1 (.slice so (simpS xs).length sc) (simpS xs).length (iv (simpS xs)) ∧ Below w.heap.size w w' := by
  have hmm := @run_makeMap Tryz.prog
  have HL : Hid (HasInts w (.slice lo xs.length lc) xs) := hl
  have HX : Hid (∀ x ∈ xs, (Lit.int .i64 x).wf = true) := hx
  obtain ⟨i0, hi, hz0, hz1, hz2⟩ : ∃ i, Tryz.prog.info? 3 = some i ∧ i.zero = some (.int .i64 0) ∧ i.size = 1 ∧ i.bytes = 8 := by
    have h := infoJ
    cases hi : Tryz.prog.info? 3 with
    | none => rw [hi] at h; cases h
    | some i => rw [hi] at h; simp at h; exact ⟨i, rfl, h.1, h.2.1, h.2.2⟩
  clear hl hx
  go_enter Tryz.func44, Tryz.ntmps44
  go_wp2_with fail
  have HM0 : Hid ((w.alloc (.map #[] 0)).ownsMap Tryz.prog 3 (plainElem (H := Unit) Tryz.prog 3) w.heap.size 0 (.map [])) := World.ownsMap_made _ _ _ _
  have HB0 : Hid (Below w.heap.size w (w.alloc (.map #[] 0))) := (Below.refl _ w).alloc (Nat.le_refl _) _
  have HS0 : Hid (w.heap.size + 1 ≤ (w.alloc (.map #[] 0)).heap.size) := by show _ ≤ _; simp
  generalize w.alloc (.map #[] 0) = W0 at *
  go_loopw [3, 14] (fun kv iv wr => ∃ (k : Nat) (ko : Option Addr) (kc : Nat), k ≤ xs.length ∧ iv = .int .i64 k ∧ kv = .slice ko (simpS (xs.take k)).length kc ∧ SI w w.heap.size (simpS (xs.take k)) k ko kc wr) (fun _ iv _ => xs.length - (intOf iv).toNat)
  case atStart => exact ⟨0, none, 0, Nat.zero_le _, rfl, rfl, ⟨World.ownsRow_nil _ _ _ _, ⟨_, HM0.out, MapIs.nil⟩, HB0.out, HS0.out⟩⟩
  case round =>
    obtain ⟨k, ko, kc, hk, rfl, rfl, hI⟩ := hrel
    by_cases hlt : k < xs.length
    · obtain ⟨a, ha⟩ : ∃ a, xs[k]? = some a := ⟨xs[k], List.getElem?_eq_getElem hlt⟩
      obtain ⟨b, off, hao, hbl, q0⟩ := HL.out.at ha
      subst hao
      have e0 := (hI.below.cell (p := ⟨b, off + k, none⟩) hbl).trans q0
      have hbw : b < wr.heap.size := Nat.lt_of_lt_of_le hbl hI.below.size
      have hwf : (Lit.int .i64 a).wf = true := HX.out a (List.mem_of_getElem? ha)
      have HSN : Hid (simpS (xs.take (k + 1)) = stepS (simpS (xs.take k)) a) := simpS_snoc ha
      have HND : Hid ((simpS (xs.take k)).Nodup) := simpS_nodup _
      have hsl : (simpS (xs.take k)).length ≤ k := Nat.le_trans (simpS_len _) (by rw [List.length_take]; omega)
      have HWF : Hid (∀ x ∈ simpS (xs.take k), (Lit.int .i64 x).wf = true) := fun x h => HX.out x (List.mem_of_mem_take (simpS_mem h))
      generalize simpS (xs.take k) = s at *
      have hkey : keyOf Tryz.prog 3 (.int .i64 a) = some (ky a) := keyOf_int_mk Tryz.underlying3 hwf
      obtain ⟨D, hmap, hD⟩ := hI.map
      have HI : Hid (SI w w.heap.size s k ko kc wr) := hI
      have HMP : Hid (wr.ownsMap Tryz.prog 3 (plainElem Tryz.prog 3) w.heap.size k D ∧ MapIs D s s) := ⟨hmap, hD⟩
      have i0' : (0 : Int) ≤ (k : Int) := by omega
      have i1' : (k : Int) < (xs.length : Int) := by omega
      have hhas := hD.has a
      clear q0 ha hI hmap hD
      by_cases hv : a ∈ s
      · rw [decide_eq_true hv] at hhas
        have hIr := HI.out.row
        obtain ⟨g, cap', e, hgB, hgl⟩ := hIr.form (List.length_pos_of_mem hv)
        injection e with e1 _ e3
        subst e1
        subst e3
        have hle : s.length ≤ kc := by
          rcases hIr.2 with ⟨e, _⟩ | ⟨g', c', cur, e, _, _, h, _⟩
          · cases e
          · cases e; exact h
        have HSE : Hid (simpS (xs.take (k + 1)) = s.take (s.idxOf a + 1)) := by
          have h := HSN.out
          unfold stepS at h
          rw [if_pos hv] at h
          exact h
        have hpl : s.idxOf a < s.length := List.idxOf_lt_length_of_mem hv
        have HV : Hid (a ∈ s) := hv
        have HLK : Hid (∀ c, D.atKey (ky a) (.lit (.int .i64 0)) = .lit (.int .i64 c) → c = (s.idxOf a : Int)) := fun c hc => (HMP.out.2.look HV.out hc).1
        generalize s.idxOf a = p at *
        obtain ⟨ro, hr1, hr2⟩ : ∃ ro, (∀ wx, (Instr.slice 28 (.slice (some ⟨g, 0, none⟩) s.length kc) (some (.int .i64 ((p : Int) + 1))) none none).run Tryz.prog wx = .ok (.slice ro (s.length - (p + 1)) (kc - (p + 1))) wx) ∧ (p + 1 < s.length → ro = some ⟨g, p + 1, none⟩) := by
          obtain ⟨ro, h1, h2⟩ := isl_from g s.length kc (p + 1) hle (by omega)
          exact ⟨ro, fun wx => by simpa using h1 wx, h2⟩
        have hr3 : ∀ wx, (Instr.slice 28 (.slice (some ⟨g, 0, none⟩) s.length kc) none (some (.int .i64 ((p : Int) + 1))) none).run Tryz.prog wx = .ok (.slice (some ⟨g, 0, none⟩) (p + 1) kc) wx := fun wx => by
          have h := isl_to g s.length kc (p + 1) hle (by omega) wx
          simpa using h
        have hw1 : IntKind.i64.wrap ((p : Int) + 1) = (p : Int) + 1 := by rw [IntKind.wrap_i64] <;> omega
        obtain ⟨q, hq⟩ : ∃ q, s.length - (p + 1) = q := ⟨_, rfl⟩
        have HQ : Hid (p + 1 + q = s.length) := by show _ = _; omega
        have hqb : q < 17592186043905 := by omega
        rw [hq] at hr1
        have HRO : Hid (p + 1 < s.length → ro = some ⟨g, p + 1, none⟩) := hr2
        clear hIr hr2 hq hgB hgl
        go_wp2_with (first
          | (at_lookup; refine wpList_lookup_own_ok_int _ rfl _ _ 141 rfl 3 3 .i64 law_ii Tryz.underlying141 Tryz.underlying3 (zero_ii _) w.heap.size k D rfl HMP.out.1 _ (ky a) rfl hkey ?_; intro c hat hwc; have hc := HLK.out c hat; subst hc; clear hat hwc))
        have HIN : Hid (∃ D', wr.ownsMap Tryz.prog 3 (plainElem (H := Unit) Tryz.prog 3) w.heap.size k D' ∧ MapIs D' (s.take (p + 1) ++ s.drop (p + 1 + 0)) s) := ⟨D, HMP.out.1, by rw [Nat.add_zero, List.take_append_drop]; exact HMP.out.2⟩
        generalize hW1 : wr = W1 at *
        clear hW1
        go_loopw [39] (fun iv wx => ∃ (t : Nat), t ≤ q ∧ iv = .int .i64 t ∧ wx.ownsRow (w.heap.size + 1) 3 1 (.slice (some ⟨g, 0, none⟩) s.length kc) s.length (iv' s) ∧ (∃ D', wx.ownsMap Tryz.prog 3 (plainElem (H := Unit) Tryz.prog 3) w.heap.size k D' ∧ MapIs D' (s.take (p + 1) ++ s.drop (p + 1 + t)) s) ∧ Below w.heap.size w wx ∧ w.heap.size + 1 ≤ wx.heap.size) (fun iv _ => q - (intOf iv).toNat)
        case atStart => exact ⟨0, Nat.zero_le _, rfl, HI.out.row, HIN.out, HI.out.below, HI.out.size⟩
        case round =>
          obtain ⟨t, ht, rfl, hrow, ⟨D', hown, hDp⟩, hbe, hsz⟩ := hrel
          have HB2 : Hid (Below w.heap.size w wr ∧ w.heap.size + 1 ≤ wr.heap.size) := ⟨hbe, hsz⟩
          have HRW : Hid (wr.ownsRow (w.heap.size + 1) 3 1 (.slice (some ⟨g, 0, none⟩) s.length kc) s.length (iv' s)) := hrow
          have HOW : Hid (wr.ownsMap Tryz.prog 3 (plainElem (H := Unit) Tryz.prog 3) w.heap.size k D' ∧ MapIs D' (s.take (p + 1) ++ s.drop (p + 1 + t)) s) := ⟨hown, hDp⟩
          by_cases htl : t < q
          · have hqs := HQ.out
            obtain ⟨x, hx⟩ : ∃ x, s[p + 1 + t]? = some x := ⟨s[p + 1 + t], List.getElem?_eq_getElem (by omega)⟩
            have hro := HRO.out (by omega)
            subst hro
            have c0 : wr.cell? ⟨g, p + 1 + t, none⟩ = some (.int .i64 x) := by
              rw [hrow.cellAt (p + 1 + t) (by omega)]
              show (s.map (Value.int .i64))[p + 1 + t]? = _
              rw [List.getElem?_map, hx]
              rfl
            have gl : g < wr.heap.size := (hrow.lt g rfl).2
            have hkx : keyOf Tryz.prog 3 (.int .i64 x) = some (ky x) := keyOf_int_mk Tryz.underlying3 (HWF.out x (List.mem_of_getElem? hx))
            have HDE : Hid (MapIs (D'.del (ky x)) (s.take (p + 1) ++ s.drop (p + 1 + (t + 1))) s) := by
              have e : s.drop (p + 1 + t) = x :: s.drop (p + 1 + t + 1) := by
                obtain ⟨h1, h2⟩ := List.getElem?_eq_some_iff.1 hx
                rw [List.drop_eq_getElem_cons h1, h2]
              have h := hDp
              rw [e] at h
              exact h.drop (nodup_parts HND.out hx (p + 1) (by omega))
            have t0 : (0 : Int) ≤ (t : Int) := by omega
            have t1 : (t : Int) < (q : Int) := by omega
            clear hrow hown hDp hbe hsz hx hqs
            go_wp2_with (at_delete; refine wpList_delete_own _ rfl _ _ 141 3 rfl 3 law_ii Tryz.underlying141 _ w.heap.size k D' rfl HOW.out.1 _ (ky x) rfl hkx ?_; intro w1 hown1 hturn1; have HO1 : Hid (w1.ownsMap Tryz.prog 3 (plainElem (H := Unit) Tryz.prog 3) w.heap.size k (D'.del (ky x))) := hown1; have HT1 : Hid (wr.grownBy w1 (some w.heap.size)) := hturn1.grown; clear hown1 hturn1)
            refine ⟨⟨t + 1, by omega, by go_num, iown_old HRW.out HT1.out, ⟨_, HO1.out, HDE.out⟩, below_g HB2.out.1 HT1.out (fun k e => by have := Option.some.inj e; omega), Nat.le_trans HB2.out.2 HT1.out.size⟩, by simp [intOf]; omega⟩
          · obtain rfl : t = q := by omega
            clear hrow hown hDp hbe hsz
            go_wp2
            have hqs := HQ.out
            have hpt : (s.take (p + 1)).length = p + 1 := by rw [List.length_take]; omega
            refine ⟨⟨k + 1, some ⟨g, 0, none⟩, kc, by omega, by go_num, by rw [HSE.out, hpt], ?_⟩, by simp [intOf]; omega⟩
            rw [HSE.out]
            refine ⟨?_, ⟨D', HOW.out.1.mono (Nat.le_succ _), ?_⟩, HB2.out.1, HB2.out.2⟩
            · rw [hpt]
              exact iown_cut HRW.out (by omega)
            · have h := HOW.out.2
              rw [List.drop_eq_nil_of_le (by omega), List.append_nil] at h
              exact h.cut
      · rw [decide_eq_false hv] at hhas
        have HV : Hid (a ∉ s) := hv
        have HSE : Hid (simpS (xs.take (k + 1)) = s ++ [a]) := by
          have h := HSN.out
          unfold stepS at h
          rw [if_neg hv] at h
          exact h
        have hwl : (Lit.int .i64 (s.length : Int)).wf = true := WalkArith.wf_i64 (by omega)
        go_wp2_with (first
          | (at_lookup; refine wpList_lookup_own_ok_int _ rfl _ _ 141 rfl 3 3 .i64 law_ii Tryz.underlying141 Tryz.underlying3 (zero_ii _) w.heap.size k D rfl HMP.out.1 _ (ky a) rfl hkey ?_; intro c hat hwc; clear hat hwc)
          | (at_mapUpdate; refine wpList_mapUpdate_own _ rfl _ _ _ 141 rfl 3 3 law_ii Tryz.underlying141 _ w.heap.size k D rfl HMP.out.1 (by unfold maxLen; omega) _ _ (ky a) rfl rfl hkey (.lit (.int .i64 (s.length : Int))) [] (plainElem_int Tryz.underlying3 hwl) ?_; intro w1 hown1 hgrow1; have HM1 : Hid (w1.ownsMap Tryz.prog 3 (plainElem (H := Unit) Tryz.prog 3) w.heap.size (k + 1) (D.put (ky a) (.lit (.int .i64 (s.length : Int))))) := hown1; have HG1 : Hid (wr.grownBy w1 (some w.heap.size)) := hgrow1; clear hown1 hgrow1)
          | (at_builtin; refine wpList_append_own _ rfl _ _ 28 rfl (w.heap.size + 1) 3 i0 (.int .i64 0) 1 8 Tryz.underlying28 hi hz0 hz1 hz2 rfl (by decide) (.slice ko s.length kc) s.length (iv s) rfl (iown_alloc (iown_old HI.out.row HG1.out) _) ⟨w1.heap.size, 0, none⟩ 1 1 [.int .i64 a] rfl rfl (cell_one1 _ _) (by intro x hx; simp at hx; subst hx; rfl) (by unfold maxLen; omega) (by omega) (by have h1 := HI.out.size; have h2 := HG1.out.size; simp; omega) ?_; intro v' w2 hown2 hgrow2 _; have HR2 : Hid (w2.ownsRow (w.heap.size + 1) 3 1 v' (s.length + 1) (iv s ++ [.int .i64 a])) := hown2; have HG2 : Hid ((w1.alloc (.cells #[.int .i64 a] 3)).grownBy w2 (Value.slice ko s.length kc).ownBlock) := hgrow2; clear hown2 hgrow2; obtain ⟨vo, vc, hv2⟩ := iown_slice HR2.out; subst hv2))
        refine ⟨⟨k + 1, vo, vc, by omega, by go_num, by rw [HSE.out, List.length_append]; rfl, ?_⟩, by simp [intOf]; omega⟩
        rw [HSE.out]
        have hrow : (w1.alloc (.cells #[.int .i64 a] 3)).ownsRow (w.heap.size + 1) 3 1 (.slice ko s.length kc) s.length (iv s) := iown_alloc (iown_old HI.out.row HG1.out) _
        have hnb : ∀ k, some k = (Value.slice ko s.length kc).ownBlock → w.heap.size + 1 ≤ k := fun k e => (hrow.lt k e.symm).1
        refine ⟨?_, ⟨_, (HM1.out.alloc _).kept HG2.out (fun e => by have := hnb _ e; omega), HMP.out.2.add HV.out⟩, ?_, ?_⟩
        · rw [iv_append, List.length_append]
          exact HR2.out
        · exact below_g ((below_g HI.out.below HG1.out (fun k e => by have := Option.some.inj e; omega)).alloc (by have := HG1.out.size; have := HI.out.size; omega) _) HG2.out (fun k e => by have := hnb k e; omega)
        · have h1 := HG2.out.size
          have h2 := HG1.out.size
          have h3 := HI.out.size
          simp at h1
          omega
    · obtain rfl : k = xs.length := by omega
      rw [List.take_length] at hI ⊢
      have HI : Hid (SI w w.heap.size (simpS xs) xs.length ko kc wr) := hI
      clear hI
      go_wp2
      go_ret
      exact ⟨ko, kc, rfl, iown_base0 HI.out.row, HI.out.below⟩
end Go.Proofs.YtodilocmfdeehaaGreatDoor

namespace Go.Proofs
namespace YtodilocmfdeehaaGreatDoor
open Go.RowKit Go.Extern

attribute [local go_sem] Oper.semAt_some

theorem ints_cells {w : World} {b : Nat} {off : Nat} {n cap : Nat} {xs : List Int} (h : HasInts w (.slice (some ⟨b, off, none⟩) n cap) xs) : ∀ j u, (iv xs)[j]? = some u → w.cell? ((⟨b, off, none⟩ : Addr).add j) = some u := fun j u hj => by
  unfold iv at hj
  rw [List.getElem?_map] at hj
  obtain ⟨a, ha, rfl⟩ := Option.map_eq_some_iff.1 hj
  obtain ⟨b', off', e, _, q⟩ := h.at ha
  cases e
  rw [Addr.add_lit]
  exact q
/-- a list of numbers is appended to a row of one's own. -/
theorem wpList_append_ints {w : World} {ops : Array Oper} {rest : List Oper} {o : Oper} {a : Act} {Q : Exit → Act → World → Prop} (hgd : o.guard = none) (s x : Operand)
    (ho : o.op = .call { callee := .builtin .append, args := #[s, x], argTypes := #[28, 28] })
    (base : Nat) (v : Value) (L : List Int) (hs : a.eval s = v) (hown : w.ownsRow base 3 1 v L.length (iv L))
    (b off ac : Nat) (xs : List Int) (hx : a.eval x = .slice (some ⟨b, off, none⟩) xs.length ac) (hl : HasInts w (.slice (some ⟨b, off, none⟩) xs.length ac) xs)
    (hlen : (L.length + xs.length) * 8 ≤ 140737488355328) (hbase : base ≤ w.heap.size)
    (h : ∀ v' w', w'.ownsRow base 3 1 v' (L ++ xs).length (iv (L ++ xs)) → w.grownBy w' v.ownBlock → wpList Tryz.prog ops Q rest (a.put o.dst v') w') : wpList Tryz.prog ops Q (o :: rest) a w := by
  obtain ⟨i0, hi, hz0, hz1, hz2⟩ : ∃ i, Tryz.prog.info? 3 = some i ∧ i.zero = some (.int .i64 0) ∧ i.size = 1 ∧ i.bytes = 8 := by
    have h := infoJ
    cases hi : Tryz.prog.info? 3 with
    | none => rw [hi] at h; cases h
    | some i => rw [hi] at h; simp at h; exact ⟨i, rfl, h.1, h.2.1, h.2.2⟩
  refine wpList_append_own _ hgd s x 28 ho base 3 i0 _ 1 8 Tryz.underlying28 hi hz0 hz1 hz2 rfl (by decide) v L.length (iv L) hs hown ⟨b, off, none⟩ xs.length ac (iv xs) hx (iv_len xs) (ints_cells hl) (by intro u hu; simp [iv] at hu; obtain ⟨a, _, rfl⟩ := hu; rfl) (by unfold maxLen; omega) (by omega) hbase ?_
  intro v' w' h1 h2 _
  exact h v' w' (by rw [List.length_append, iv_append]; exact h1) h2

theorem eql_nil (a : Addr) (n c : Nat) : ∀ wx, (binOp .eql 28 (.slice (some a) n c) (.slice none 0 0)).run Tryz.prog wx = .ok (.bool false) wx := fun wx => Lib.run_eql_slice_nil wx 28 3 (some a) n c 0 0 Tryz.underlying28
theorem eql_nil0 (n c : Nat) : ∀ wx, (binOp .eql 28 (.slice none n c) (.slice none 0 0)).run Tryz.prog wx = .ok (.bool true) wx := fun wx => Lib.run_eql_slice_nil wx 28 3 none n c 0 0 Tryz.underlying28
theorem own_empty (w : World) : (w.alloc (.cells #[] 3)).ownsRow w.heap.size 3 1 (.slice (some ⟨w.heap.size, 0, none⟩) 0 0) 0 (iv []) := ⟨rfl, .inr ⟨w.heap.size, 0, #[], rfl, Nat.le_refl _, heap_new _ _, Nat.le_refl _, Nat.zero_le _, rfl, rfl⟩⟩

set_option maxRecDepth 100000 in
set_option maxHeartbeats 1000000 in
theorem clone_calls (b off lc : Nat) (xs : List Int) (w : World) (hl : HasInts w (.slice (some ⟨b, off, none⟩) xs.length lc) xs) (hm : xs.length * 8 ≤ 140737488351232) :
    Calls Tryz.prog 88 #[.slice (some ⟨b, off, none⟩) xs.length lc] w fun e w' => ∃ so sc, e = .returned (.slice so xs.length sc) ∧ w'.ownsRow w.heap.size 3 1 (.slice so xs.length sc) xs.length (iv xs) ∧ Below w.heap.size w w' := by
  have HL : Hid (HasInts w (.slice (some ⟨b, off, none⟩) xs.length lc) xs) := hl
  have hnil := eql_nil ⟨b, off, none⟩ xs.length lc
  have HE : Hid (type_of% (own_empty w)) := own_empty w
  have HB : Hid (Below w.heap.size w (w.alloc (.cells #[] 3))) := (Below.refl _ w).alloc (Nat.le_refl _) _
  clear hl
  go_enter Tryz.func88, Tryz.ntmps88
  go_wp2_with (at_builtin; refine wpList_append_ints rfl _ _ rfl w.heap.size (.slice (some ⟨w.heap.size, 0, none⟩) 0 0) [] rfl HE.out b off lc xs rfl (HL.out.keep HB.out) (by simp; omega) HB.out.size ?_; intro v' w2 hown2 hgrow2; have HR2 : Hid (w2.ownsRow w.heap.size 3 1 v' xs.length (iv xs)) := hown2; have HB2 : Hid (Below w.heap.size w w2) := below_g HB.out hgrow2 (fun k e => by cases e; exact Nat.le_refl _); clear hown2 hgrow2; obtain ⟨vo, vc, hv2⟩ := iown_slice HR2.out; subst hv2)
  go_ret
  exact ⟨vo, vc, rfl, HR2.out, HB2.out⟩
set_option maxRecDepth 100000 in
theorem clone_nil (lc : Nat) (w : World) : Calls Tryz.prog 88 #[.slice none 0 lc] w fun e w' => e = .returned (.slice none 0 0) ∧ w' = w := by
  have hnil := eql_nil0 0 lc
  go_enter Tryz.func88, Tryz.ntmps88
  go_wp2
  go_ret
  exact ⟨rfl, rfl⟩
/-- Clone, whatever the list. -/
theorem clone_any (lo : Option Addr) (lc : Nat) (xs : List Int) (w : World) (hl : HasInts w (.slice lo xs.length lc) xs) (hs : ∀ a, lo = some a → a.spot = none) (hm : xs.length * 8 ≤ 140737488351232) :
    Calls Tryz.prog 88 #[.slice lo xs.length lc] w fun e w' => ∃ so sc, e = .returned (.slice so xs.length sc) ∧ w'.ownsRow w.heap.size 3 1 (.slice so xs.length sc) xs.length (iv xs) ∧ Below w.heap.size w w' := by
  cases lo with
  | none =>
    have hx : xs = [] := by
      cases xs with
      | nil => rfl
      | cons q r => obtain ⟨b, off, e, _⟩ := hl.at (k := 0) (a := q) rfl; cases e
    subst hx
    refine (clone_nil lc w).mono ?_
    rintro e w' ⟨rfl, rfl⟩
    exact ⟨none, 0, rfl, World.ownsRow_nil _ _ _ _, Below.refl _ _⟩
  | some a =>
    obtain ⟨b, off, sp⟩ := a
    obtain rfl : sp = none := hs _ rfl
    exact clone_calls b off lc xs w hl hm
end YtodilocmfdeehaaGreatDoor
open Go.Shelf in
def Tryz.rv_ren : Go.Shelf.Ren := ⟨fun | 112 => 80 | n => n, fun | 28 => 28 | n => n, fun | n => n⟩
theorem Tryz.rv : Go.Proofs.Lays.n112 Tryz.prog Tryz.rv_ren := {
  mixed := by kernel_rfl
  f112 := Tryz.func80.trans (congrArg some (by kernel_rfl))
  t0 := Tryz.underlying0
  a0 := Tryz.isAgg0
  z0 := Tryz.sizeOf0
  v0 := Tryz.zeroValue0
  t3 := Tryz.underlying3
  a3 := Tryz.isAgg3
  z3 := Tryz.sizeOf3
  v3 := Tryz.zeroValue3
  t4 := Tryz.underlying4
  a4 := Tryz.isAgg4
  z4 := Tryz.sizeOf4
  v4 := Tryz.zeroValue4
  t28 := Tryz.underlying28
  a28 := Tryz.isAgg28
  z28 := Tryz.sizeOf28
  v28 := Tryz.zeroValue28 }
namespace YtodilocmfdeehaaGreatDoor
open Go.RowKit Go.Extern Go.Sort

attribute [local go_sem] Oper.semAt_some

/-- Reverse, at a row of one's own: it is turned about. -/
theorem reverse_own (B g cap : Nat) (zs : List Int) (w : World) (h : w.ownsRow B 3 1 (.slice (some ⟨g, 0, none⟩) zs.length cap) zs.length (iv zs)) (hm : zs.length ≤ 9223372036854775807) :
    Calls Tryz.prog 80 #[.slice (some ⟨g, 0, none⟩) zs.length cap] w fun e w' => e = .returned (.tuple #[]) ∧ w'.ownsRow B 3 1 (.slice (some ⟨g, 0, none⟩) zs.length cap) zs.length (iv zs.reverse) ∧ w.grownBy w' (some g) := by
  have hH : Holds (Value.int .i64) w g 0 zs.toArray := fun j hj => by
    have hj' : j < zs.length := by simpa using hj
    refine ⟨?_, by rw [Nat.zero_add]; exact h.frozenAt j⟩
    rw [Nat.zero_add, h.cellAt j (by omega)]
    simp [iv, hj']
  have hc := Any.slices_Reverse_int Tryz.rv g 0 cap zs w hH hm
  refine hc.mono ?_
  rintro e w' ⟨he, n, rfl⟩
  refine ⟨he, ?_, ?_⟩
  · rcases h.2 with ⟨e, _⟩ | ⟨g', cap', cur, e, hb, hh, hle, hmx, hsz, ht⟩
    · cases e
    · cases e
      refine ⟨by simp [iv], .inr ⟨g, cap, putCells (Value.int .i64) 0 zs.reverse.toArray cur, rfl, hb, ?_, hle, hmx, by simp [putCells]; simpa using hsz, ?_⟩⟩
      · simp only [putRow, mapBlock, Sort.ahead, Array.getElem?_modify]
        rw [if_pos trivial, hh]
        rfl
      · apply List.ext_getElem?
        intro j
        rw [List.getElem?_take]
        by_cases hj : j < zs.length * 1
        · rw [if_pos hj]
          have hj' : j < zs.length := by omega
          have hjc : j < cur.size := by omega
          simp [putCells, iv, hjc, hj']
        · rw [if_neg hj, List.getElem?_eq_none (by simp [iv]; omega)]
  · refine ⟨rfl, rfl, rfl, by simp [putRow, mapBlock, Sort.ahead], fun k hk hne => ?_⟩
    simp only [putRow, mapBlock, Sort.ahead, Array.getElem?_modify]
    rw [if_neg (fun e => hne (by rw [e]))]
end YtodilocmfdeehaaGreatDoor
end Go.Proofs

namespace Go.Proofs.YtodilocmfdeehaaGreatDoor
open Go.RowKit Go.Extern

attribute [local go_sem] Oper.semAt_some

/-- what is answered: a list in memory of its own. -/
def LA (w : World) (ys : List Int) (e : Ending) (w' : World) : Prop := ∃ so sc, e = .returned (.slice so ys.length sc) ∧ w'.ownsRow w.heap.size 3 1 (.slice so ys.length sc) ys.length (iv ys) ∧ Below w.heap.size w w'
theorem reverse_any (B sc : Nat) (so : Option Addr) (zs : List Int) (w : World) (h : w.ownsRow B 3 1 (.slice so zs.length sc) zs.length (iv zs)) (hm : zs.length ≤ 9223372036854775807) (hB : w.heap.size ≤ w.heap.size) :
    Calls Tryz.prog 80 #[.slice so zs.length sc] w fun e w' => e = .returned (.tuple #[]) ∧ w'.ownsRow B 3 1 (.slice so zs.length sc) zs.length (iv zs.reverse) ∧ w.grownBy w' (Value.slice so zs.length sc).ownBlock := by
  rcases h.2 with ⟨e, h0⟩ | ⟨g, cap, cur, e, _⟩
  · injection e with e1 e2 e3
    subst e1
    subst e3
    have hz : zs = [] := List.eq_nil_of_length_eq_zero h0
    subst hz
    refine (Any.slices_Reverse_int_empty Tryz.rv none 0 w).mono ?_
    rintro e w' ⟨he, rfl⟩
    exact ⟨he, World.ownsRow_nil _ _ _ _, ⟨rfl, rfl, rfl, Nat.le_refl _, fun _ _ _ => rfl⟩⟩
  · injection e with e1 e2 e3
    subst e1
    subst e3
    exact reverse_own B g sc zs w h hm

set_option maxRecDepth 100000 in
set_option maxHeartbeats 1000000 in
theorem back_calls (lo : Option Addr) (lc : Nat) (xs : List Int) (w : World) (hl : HasInts w (.slice lo xs.length lc) xs) (hs : ∀ a, lo = some a → a.spot = none) (hm : xs.length * 8 ≤ 140737488351232) :
    Calls Tryz.prog 59 #[.slice lo xs.length lc] w (LA w xs.reverse) := by
  have HC : Hid (type_of% (clone_any lo lc xs w hl hs hm)) := clone_any lo lc xs w hl hs hm
  clear hl hs
  go_enter Tryz.func59, Tryz.ntmps59
  go_wp2_with fail
  refine HC.out.mono ?_
  rintro e w1 ⟨so, sc, rfl, ho, h⟩
  have H1 : Hid (w1.ownsRow w.heap.size 3 1 (.slice so xs.length sc) xs.length (iv xs) ∧ Below w.heap.size w w1) := ⟨ho, h⟩
  clear ho h
  go_wp2_with fail
  refine (reverse_any w.heap.size sc so xs w1 H1.out.1 (by omega) (Nat.le_refl _)).mono ?_
  rintro e w2 ⟨rfl, ho, hg⟩
  have H2 : Hid (w2.ownsRow w.heap.size 3 1 (.slice so xs.length sc) xs.length (iv xs.reverse) ∧ Below w.heap.size w w2) := ⟨ho, below_g H1.out.2 hg (fun k e => (H1.out.1.lt k e.symm).1)⟩
  clear ho hg
  go_wp2
  go_ret
  refine ⟨so, sc, congrArg (fun n : Nat => Ending.returned (.slice so n sc)) List.length_reverse.symm, ?_, H2.out.2⟩
  rw [List.length_reverse]
  exact H2.out.1

end Go.Proofs.YtodilocmfdeehaaGreatDoor

namespace Go.Proofs.YtodilocmfdeehaaGreatDoor.Hi
open Go.RowKit Go.Extern

attribute [local go_sem] Oper.semAt_some

/-- numbers as whole numbers. -/
def zs (L : List Nat) : List Int := L.map fun n : Nat => (n : Int)
theorem zs_len (L : List Nat) : (zs L).length = L.length := by simp [zs]
theorem zs_append (L M : List Nat) : zs (L ++ M) = zs L ++ zs M := by simp [zs]
theorem zs_take (L : List Nat) (m : Nat) : (zs L).take m = zs (L.take m) := by simp [zs, List.map_take]
theorem zs_rev (L : List Nat) : (zs L).reverse = zs L.reverse := by simp [zs]
theorem ivz_len (L : List Nat) : (iv (zs L)).length = L.length * 1 := by simp [iv, zs]
theorem ivz_one (L : List Nat) : ∀ u ∈ iv (zs L), u.oneCell' = true := by
  intro u hu
  simp only [iv, zs, List.mem_map] at hu
  obtain ⟨a, ⟨b, _, rfl⟩, rfl⟩ := hu
  rfl
theorem iown_cut {w : World} {B g n cap m : Nat} {l : List Int} (h : w.ownsRow B 3 1 (.slice (some ⟨g, 0, none⟩) n cap) n (iv l)) (hm : m ≤ n) : w.ownsRow B 3 1 (.slice (some ⟨g, 0, none⟩) m cap) m (iv (l.take m)) := by
  have hl : l.length = n := by have := h.1; rw [iv_len, Nat.mul_one, Nat.mul_one] at this; exact this
  refine ⟨by rw [iv_len, List.length_take, hl]; congr 1; omega, ?_⟩
  rcases h.2 with ⟨e, _⟩ | ⟨g', cap', cur, e, hb, hh, hle, hmx, hsz, ht⟩
  · cases e
  · cases e
    refine .inr ⟨g, cap, cur, rfl, hb, hh, by omega, hmx, hsz, ?_⟩
    have e2 : cur.toList.take (m * 1) = (cur.toList.take (n * 1)).take m := by rw [List.take_take]; congr 1; omega
    rw [e2, ht]
    simp [iv, List.map_take]
theorem iown_at {w : World} {B n : Nat} {v : Value} {L : List Nat} (h : w.ownsRow B 3 1 v n (iv (zs L))) (hn : 0 < n) : ∃ g cap, v = .slice (some ⟨g, 0, none⟩) n cap ∧ B ≤ g ∧ g < w.heap.size ∧ n ≤ cap ∧ ∀ (j a : Nat), L[j]? = some a → w.cell? ⟨g, j, none⟩ = some (.int .i64 (a : Int)) := by
  have hl : L.length = n := by have := h.1; rw [ivz_len, Nat.mul_one, Nat.mul_one] at this; exact this
  rcases h.2 with ⟨_, e⟩ | ⟨g, cap, cur, rfl, hb, hh, hle, hmx, hsz, ht⟩
  · omega
  · refine ⟨g, cap, rfl, hb, some_lt hh, hle, fun j a hj => ?_⟩
    have hlt := (List.getElem?_eq_some_iff.1 hj).1
    exact (h.cellAt j (by omega)).trans (by simp [iv, zs, hj])
/-- the numbers that lie in a row. -/
def rdRow (w : World) : Value → List Nat
  | .slice (some a) n _ => (List.range n).map fun j => (intOf ((w.cell? ⟨a.block, j, none⟩).getD undef)).toNat
  | _ => []
theorem rd_own {w : World} {B : Nat} {v : Value} {L : List Nat} (h : w.ownsRow B 3 1 v L.length (iv (zs L))) : rdRow w v = L := by
  rcases Nat.eq_zero_or_pos L.length with e | e
  · have e' : L = [] := List.eq_nil_of_length_eq_zero e
    subst e'
    rcases h.2 with ⟨rfl, _⟩ | ⟨g, cap, cur, rfl, _⟩
    · rfl
    · rfl
  · obtain ⟨g, cap, rfl, _, _, _, hc⟩ := iown_at h e
    unfold rdRow
    apply List.ext_getElem?
    intro j
    rcases Nat.lt_or_ge j L.length with hj | hj
    · rw [List.getElem?_map, List.getElem?_range hj, List.getElem?_eq_getElem hj]
      simp only [Option.map_some]
      rw [hc j _ (List.getElem?_eq_getElem hj)]
      simp [intOf]
    · rw [List.getElem?_eq_none (by simp; omega), List.getElem?_eq_none hj]
/-- the two rows of lay: what is laid, what waits. -/
structure LayI (h : Hr) (T : List Nat) (B : Nat) (W0 wr : World) (pv qv : Value) (P W : List Nat) : Prop where
  bel : Below W0.heap.size W0 wr
  own : wr.ownsRow W0.heap.size 3 1 pv P.length (iv (zs P))
  wow : wr.ownsRow W0.heap.size 3 1 qv W.length (iv (zs W))
  apt : Apart pv qv
  eq : P ++ layL h W.reverse = T
  wai : Waits h B W
  few : P.length ≤ 131072
theorem LayI.up {h : Hr} {T : List Nat} {B : Nat} {W0 wr wx : World} {pv qv : Value} {P W : List Nat} (g : LayI h T B W0 wr pv qv P W) (hb : Below wr.heap.size wr wx) : LayI h T B W0 wx pv qv P W :=
  ⟨g.bel.trans (hb.mono g.bel.size), iown_keep g.own fun k hk => hb.block k (g.own.lt k hk).2, iown_keep g.wow fun k hk => hb.block k (g.wow.lt k hk).2, g.apt, g.eq, g.wai, g.few⟩
/-- the next one is taken off. -/
theorem LayI.pop {h : Hr} {T : List Nat} {B gq cap : Nat} {W0 wr : World} {pv : Value} {P W : List Nat} {i : Nat} (g : LayI h T B W0 wr pv (.slice (some ⟨gq, 0, none⟩) (W ++ [i]).length cap) P (W ++ [i])) :
    wr.ownsRow W0.heap.size 3 1 (.slice (some ⟨gq, 0, none⟩) W.length cap) W.length (iv (zs W)) ∧ Waits h B W ∧ i < (stds h).length ∧ W.length + (lkO h i).rk ≤ B := by
  obtain ⟨k1, k2, k3⟩ := g.wai.pop
  have q := iown_cut g.wow (m := W.length) (by simp)
  rw [zs_take, List.take_left] at q
  exact ⟨q, k1, k2, k3⟩
theorem grown_below {W0 w w' : World} {B n : Nat} {v : Value} {xs : List Value} (hb : Below W0.heap.size W0 w) (h : w.ownsRow B 3 1 v n xs) (hB : W0.heap.size ≤ B) (hg : w.grownBy w' v.ownBlock) : Below W0.heap.size W0 w' :=
  ⟨hg.os.trans hb.os, hg.tape.trans hb.tape, hg.output.trans hb.output, Nat.le_trans hb.size hg.size, fun k hk => (hg.block k (Nat.lt_of_lt_of_le hk hb.size) (fun e => by have := (h.lt k e.symm).1; omega)).trans (hb.block k hk)⟩
theorem LayI.cut {h : Hr} {T : List Nat} {B gq cap g5 cap5 : Nat} {W0 wr wx w5 : World} {pv : Value} {P W : List Nat} {i : Nat} (g : LayI h T B W0 wr pv (.slice (some ⟨gq, 0, none⟩) (W ++ [i]).length cap) P (W ++ [i])) (hc : chk h = (0, [])) (hp : plO h i = false) (hb : Below wr.heap.size wr wx)
    (ho : w5.ownsRow W0.heap.size 3 1 (.slice (some ⟨g5, 0, none⟩) (W.length + 2) cap5) (W.length + 2) (iv (zs W) ++ iv (zs [(lkO h i).lk.rt, (lkO h i).lk.lf]))) (hg : wx.grownBy w5 (some gq)) (hor : some gq = some g5 ∨ g5 = wx.heap.size) :
    LayI h T B W0 w5 pv (.slice (some ⟨g5, 0, none⟩) (W ++ [(lkO h i).lk.rt, (lkO h i).lk.lf]).length cap5) P (W ++ [(lkO h i).lk.rt, (lkO h i).lk.lf]) ∧ sumZ h (W ++ [(lkO h i).lk.rt, (lkO h i).lk.lf]) < sumZ h (W ++ [i]) := by
  obtain ⟨q1, q2, q3, q4⟩ := g.pop
  obtain ⟨k1, k2, k3, k4⟩ := kidsU hc q3 hp
  obtain ⟨e1, e2⟩ := lay_cut hc q3 g.eq hp
  have gx := g.up hb
  refine ⟨⟨?_, ?_, ?_, ?_, e1, q2.push q4 k2 k1 k4 k3, g.few⟩, e2⟩
  · exact grown_below gx.bel gx.wow (Nat.le_refl _) hg
  · exact iown_keep gx.own fun k hk => hg.block k (gx.own.lt k hk).2 (fun e => gx.apt k hk e.symm)
  · rw [← iv_append, ← zs_append] at ho
    simpa using ho
  · intro k hk e
    have hk2 : g5 = k := Option.some.inj e
    rcases hor with h1 | h1
    · exact gx.apt k hk (by rw [← hk2]; exact h1)
    · have := (gx.own.lt k hk).2
      omega
theorem LayI.add {h : Hr} {T : List Nat} {B gq cap g5 cap5 : Nat} {W0 wr wx w5 : World} {pv : Value} {P W : List Nat} {i : Nat} (g : LayI h T B W0 wr pv (.slice (some ⟨gq, 0, none⟩) (W ++ [i]).length cap) P (W ++ [i])) (hp : plO h i = true) (hlt : P.length < 131072) (hb : Below wr.heap.size wr wx)
    (ho : w5.ownsRow W0.heap.size 3 1 (.slice (some ⟨g5, 0, none⟩) (P.length + 1) cap5) (P.length + 1) (iv (zs P) ++ iv (zs [i]))) (hg : wx.grownBy w5 pv.ownBlock) (hor : pv.ownBlock = some g5 ∨ g5 = wx.heap.size) :
    LayI h T B W0 w5 (.slice (some ⟨g5, 0, none⟩) (P ++ [i]).length cap5) (.slice (some ⟨gq, 0, none⟩) W.length cap) (P ++ [i]) W ∧ sumZ h W < sumZ h (W ++ [i]) := by
  have gx := g.up hb
  obtain ⟨q1, q2, q3, q4⟩ := gx.pop
  obtain ⟨e1, e2⟩ := lay_plain g.eq hp
  refine ⟨⟨?_, ?_, ?_, ?_, e1, q2, by simp; omega⟩, e2⟩
  · exact grown_below gx.bel gx.own (Nat.le_refl _) hg
  · rw [← iv_append, ← zs_append] at ho
    simpa using ho
  · exact iown_keep q1 fun k hk => hg.block k (q1.lt k hk).2 (fun e => gx.apt k e.symm hk)
  · intro k hk e
    have hk2 : g5 = k := Option.some.inj hk
    have hk3 : gq = k := Option.some.inj e
    rcases hor with h1 | h1
    · exact gx.apt g5 h1 (by show some gq = some g5; rw [hk2, hk3])
    · have := (q1.lt gq rfl).2
      omega
theorem Tryz.elemI : Tryz.prog.underlying 28 = some (.slice (Tryz.prog.elem 28)) := by kernel_rfl
theorem Tryz.sizeI (w : World) : (sizeOf (Tryz.prog.elem 28)).run Tryz.prog w = .ok 1 w := by kernel_rfl
theorem slice_uptoI (b n lc i : Nat) (h : n ≤ lc) (hi : i ≤ n) (w : World) : (Instr.slice 28 (.slice (some ⟨b, 0, none⟩) n lc) none (some (.int .i64 (i : Int))) none).run Tryz.prog w = .ok (.slice (some ⟨b, 0, none⟩) i lc) w := by
  rw [run_slice_h (ht := Tryz.elemI) (h0 := by omega) (h2 := by omega), Tryz.sizeI]
  have e2 : (i : Int).toNat = i := by omega
  simp only [Result.andThen_ok, sliced, e2]
  simp [Addr.add]
end Go.Proofs.YtodilocmfdeehaaGreatDoor.Hi

namespace Go.Proofs.YtodilocmfdeehaaGreatDoor.Hi
open Go.RowKit Go.Extern

attribute [local go_sem] Oper.semAt_some

theorem infoI : ∃ i, Tryz.prog.info? 3 = some i ∧ i.zero = some (.int .i64 0) ∧ i.size = 1 ∧ i.bytes = 8 := by
  have h := infoJ
  cases hi : Tryz.prog.info? 3 with
  | none => rw [hi] at h; cases h
  | some i => rw [hi] at h; simp at h; exact ⟨i, rfl, h.1, h.2.1, h.2.2⟩
theorem new_cellsU (W : World) (c : List Value) (T : TypeId) : ∀ j u, c[j]? = some u → (W.alloc (.cells c.toArray T)).cell? ((⟨W.heap.size, 0, none⟩ : Addr).add j) = some u := fun j u hj => by
  have hh := heap_newW W (.cells c.toArray T)
  generalize W.alloc (.cells c.toArray T) = W' at hh
  have e : (⟨W.heap.size, 0, none⟩ : Addr).add j = ⟨W.heap.size, j, none⟩ := by
    by_cases h0 : j = 0
    · subst h0; rfl
    · simp [Addr.add, h0]
  rw [e]
  simp [World.cell?, hh, hj]
/-- what lay answers. -/
def LayA (w : World) (T : List Nat) (e : Ending) (w' : World) : Prop := ((T.length ≤ 131072 ∧ ∃ mo mc, e = .returned (.tuple #[.slice mo T.length mc, .nilIface]) ∧ w'.ownsRow w.heap.size 3 1 (.slice mo T.length mc) T.length (iv (zs T))) ∨ (131072 < T.length ∧ e = .returned (.tuple #[.slice none 0 0, .iface 61 (.int .i64 2)]))) ∧ Below w.heap.size w w'
theorem own_lowU {w : World} {B B' n : Nat} {v : Value} {xs : List Value} (h : w.ownsRow B 3 1 v n xs) (hb : B' ≤ B) : w.ownsRow B' 3 1 v n xs := by
  refine ⟨h.1, ?_⟩
  rcases h.2 with h2 | ⟨g, cap, cur, e, hg, r⟩
  · exact Or.inl h2
  · exact Or.inr ⟨g, cap, cur, e, by omega, r⟩
theorem btrU {a b c : World} (h : Below a.heap.size a b) (k : Below b.heap.size b c) : Below a.heap.size a c := h.trans (k.mono h.size)

set_option maxRecDepth 100000 in
set_option maxHeartbeats 8000000 in
theorem lay_calls (v : HV) (h : Hr) (lo : Option Addr) (lc : Nat) (L : List Nat) (w : World) (hH : HasH w v h) (hc : chk h = (0, [])) (hl : HasInts w (.slice lo L.length lc) (zs L)) (hsp : ∀ a, lo = some a → a.spot = none) (hL : ∀ i ∈ L, i < (stds h).length) (hn : L.length ≤ 1000000) :
    Calls Tryz.prog 32 #[hvl v h, .slice lo L.length lc] w fun e w' => LayA w (layL h L) e w' := by
  obtain ⟨k1, k2, k3, k4, k5, k6, k7, k8⟩ := chk_ok hc
  have hlen := stds_len k5 k6
  obtain ⟨W0, hW0⟩ : ∃ W0, w.alloc (.cells #[.slice v.no h.node.length v.nc, .slice v.uo h.upF.length v.uc, .slice v.ul h.up.length v.ulc, .slice v.wo h.dnF.length v.wc, .slice v.dl h.dn.length v.dlc] 25) = W0 := ⟨_, rfl⟩
  have HW0 : Hid (w.alloc (.cells #[.slice v.no h.node.length v.nc, .slice v.uo h.upF.length v.uc, .slice v.ul h.up.length v.ulc, .slice v.wo h.dnF.length v.wc, .slice v.dl h.dn.length v.dlc] 25) = W0) := hW0
  have hB0 : Below w.heap.size w W0 := by rw [← hW0]; exact (Below.refl _ _).alloc (Nat.le_refl _) _
  have hbx : W0.heap[w.heap.size]? = some (.cells #[.slice v.no h.node.length v.nc, .slice v.uo h.upF.length v.uc, .slice v.ul h.up.length v.ulc, .slice v.wo h.dnF.length v.wc, .slice v.dl h.dn.length v.dlc] 25) := by rw [← hW0]; exact heap_newW _ _
  have HX : Hid (∀ wx, Below W0.heap.size W0 wx → (wx.cell? ⟨w.heap.size, 0, none⟩ = some (.slice v.no h.node.length v.nc) ∧ wx.cell? ⟨w.heap.size, 1, none⟩ = some (.slice v.uo h.upF.length v.uc) ∧ wx.cell? ⟨w.heap.size, 2, none⟩ = some (.slice v.ul h.up.length v.ulc) ∧ wx.cell? ⟨w.heap.size, 3, none⟩ = some (.slice v.wo h.dnF.length v.wc) ∧ wx.cell? ⟨w.heap.size, 4, none⟩ = some (.slice v.dl h.dn.length v.dlc)) ∧ w.heap.size < wx.heap.size ∧ Below w.heap.size w wx) := fun wx hb => by
    have q := (hb.block _ (some_lt hbx)).trans hbx
    exact ⟨five_cells q, some_lt q, hB0.trans (hb.mono hB0.size)⟩
  have HAT : Hid (∀ wx (i : Nat), i < (stds h).length → Below W0.heap.size W0 wx → Calls Tryz.prog 60 #[.agg #[.slice v.no h.node.length v.nc, .slice v.uo h.upF.length v.uc, .slice v.ul h.up.length v.ulc, .slice v.wo h.dnF.length v.wc, .slice v.dl h.dn.length v.dlc], .int .i64 (i : Int)] wx fun e w' => e = .returned (.agg #[.int .u32 ((lkO h i).lk.hd : Int), .int .u64 ((lkO h i).lk.wt : Int), .int .u32 ((lkO h i).lk.lf : Int), .int .u32 ((lkO h i).lk.rt : Int)]) ∧ Below wx.heap.size wx w') := fun wx i hi hx => by
    have q := uat_calls v h i wx (hH.keep (HX.out wx hx).2.2) (by omega) (by omega)
    rw [(link_ok hc hi).lk] at q
    exact q
  have HPL : Hid (∀ (l : Lk) wx, Calls Tryz.prog 61 #[.agg #[.int .u32 (l.hd : Int), .int .u64 (l.wt : Int), .int .u32 (l.lf : Int), .int .u32 (l.rt : Int)]] wx fun e w' => e = .returned (.bool l.plain) ∧ Below wx.heap.size wx w') := fun l wx => uplain_calls l wx
  have HBK : Hid (Calls Tryz.prog 59 #[.slice lo L.length lc] W0 fun e w' => ∃ so sc, e = .returned (.slice so L.length sc) ∧ w'.ownsRow W0.heap.size 3 1 (.slice so L.length sc) L.length (iv (zs L.reverse)) ∧ Below W0.heap.size W0 w') := by
    have q := back_calls lo lc (zs L) W0 (by rw [zs_len]; exact hl.keep hB0) hsp (by rw [zs_len]; omega)
    rw [zs_len] at q
    refine q.mono ?_
    rintro e w' ⟨so, sc, rfl, ho, hb2⟩
    rw [List.length_reverse, zs_len, zs_rev] at ho
    rw [List.length_reverse, zs_len]
    exact ⟨so, sc, rfl, ho, hb2⟩
  obtain ⟨i0, hi0⟩ := infoI
  have HI0 : Hid (Tryz.prog.info? 3 = some i0 ∧ i0.zero = some (.int .i64 0) ∧ i0.size = 1 ∧ i0.bytes = 8) := hi0
  obtain ⟨B, hB⟩ : ∃ B, L.length + 65536 = B := ⟨_, rfl⟩
  have hBn : B ≤ 1065536 := by omega
  have HWA : Hid (Waits h B L.reverse) := hB ▸ Waits.back hc hL
  have HCC : Hid (chk h = (0, [])) := hc
  have HOKL : Hid (∀ i, i < (stds h).length → (lkO h i).lk.ok) := fun i hi => by
    have q := (link_ok hc hi).lk
    have hi2 : i < h.up.length + h.dn.length := by omega
    show (sd (stds h) i).lk.ok
    rw [← q]
    unfold linkAt
    rw [List.getD_eq_getElem?_getD]
    rcases Nat.lt_or_ge i h.up.length with hlt | hge
    · rw [List.getElem?_append_left hlt, List.getElem?_eq_getElem hlt]
      exact (hH.up.at (List.getElem?_eq_getElem hlt)).1
    · rw [List.getElem?_append_right hge, List.getElem?_eq_getElem (by omega)]
      exact (hH.dn.at (List.getElem?_eq_getElem (by omega))).1
  obtain ⟨T, hT⟩ : ∃ T, layL h L = T := ⟨_, rfl⟩
  have HT : Hid (layL h L = T) := hT
  rw [hT]
  clear hW0 hB0 hbx hH hl hsp hL hc hlen k1 k2 k3 k4 k5 k6 k7 k8 hi0 hT hB
  unfold hvl
  go_enter Tryz.func32, Tryz.ntmps32
  go_upto_region 1 with fail
  rw [HW0.out]
  go_wp2_with fail
  refine HBK.out.mono ?_
  rintro e y0 ⟨so, sc, rfl, ho, hb⟩
  have Y0 : Hid (LayI h T B W0 y0 (.slice none 0 0) (.slice so L.reverse.length sc) [] L.reverse) := ⟨hb, World.ownsRow_nil _ _ _ _, by rw [List.length_reverse]; exact ho, (fun k hk => by cases hk), by rw [List.reverse_reverse, List.nil_append]; exact HT.out, HWA.out, Nat.zero_le _⟩
  have hLr : L.length = L.reverse.length := (List.length_reverse).symm
  rw [hLr] at *
  clear ho hb hLr
  generalize L.reverse = R at *
  go_wp2_with fail
  go_loopw [6, 7] (fun pv qv wr => ∃ (P W : List Nat) (po qo : Option Addr) (pc qc : Nat), pv = .slice po P.length pc ∧ qv = .slice qo W.length qc ∧ Hid (LayI h T B W0 wr (.slice po P.length pc) (.slice qo W.length qc) P W)) (fun _ qv wr => sumZ h (rdRow wr qv))
  case atStart => exact ⟨[], R, none, so, 0, sc, rfl, rfl, Y0.out⟩
  case round =>
    obtain ⟨P, W, po, qo, pc, qc, rfl, rfl, HI⟩ := hrel
    rcases List.eq_nil_or_concat W with rfl | ⟨W1, i, hW⟩
    · have HE : Hid (P = T ∧ P.length ≤ 131072) := ⟨by have := HI.out.eq; simpa [layL] using this, HI.out.few⟩
      go_wp2
      go_ret2
      obtain ⟨e1, e2⟩ := HE.out
      subst e1
      exact ⟨Or.inl ⟨e2, po, pc, rfl, own_lowU HI.out.own (HX.out W0 (Below.refl _ _)).2.2.size⟩, (HX.out _ HI.out.bel).2.2⟩
    · rw [List.concat_eq_append] at hW
      subst hW
      obtain ⟨gq, cap, hq, _, hgl, hcap, hcl⟩ := iown_at HI.out.wow (by simp)
      injection hq with hq1 hq2 hq3
      subst hq1 hq3
      clear hq2
      have ci := hcl W1.length i (by simp)
      clear hcl
      obtain ⟨_, hwt, hist, hwl⟩ := HI.out.pop
      have hwn : W1.length ≤ 2000000 := by
        have := hwt.len
        omega
      have HIS : Hid (i < (stds h).length) := hist
      have HME : Hid (rdRow wr (.slice (some ⟨gq, 0, none⟩) (W1 ++ [i]).length qc) = W1 ++ [i]) := rd_own HI.out.wow
      obtain ⟨l, hl⟩ : ∃ l, (lkO h i).lk = l := ⟨_, rfl⟩
      obtain ⟨o1, o2, o3, o4⟩ := HOKL.out i hist
      rw [hl] at o1 o2 o3 o4
      have HL : Hid ((lkO h i).lk = l) := hl
      have hA := HAT.out wr i hist HI.out.bel
      rw [hl] at hA
      have HA : Hid (type_of% hA) := hA
      obtain ⟨pl, hpl⟩ : ∃ pl, plO h i = pl := ⟨_, rfl⟩
      have HP : Hid (plO h i = pl ∧ l.plain = pl) := ⟨hpl, by rw [← hl]; exact hpl⟩
      have w1 : IntKind.i64.wrap ((W1.length : Int) + 1 - 1) = (W1.length : Int) := by rw [IntKind.wrap_i64] <;> omega
      have w1' : (W1.length : Int) + 1 - 1 = (W1.length : Int) := by omega
      have hsl : ∀ wx, (Instr.slice 28 (.slice (some ⟨gq, 0, none⟩) (W1.length + 1) qc) none (some (.int .i64 (W1.length : Int))) none).run Tryz.prog wx = .ok (.slice (some ⟨gq, 0, none⟩) W1.length qc) wx := fun wx => slice_uptoI gq (W1.length + 1) qc W1.length (by simpa using hcap) (by omega) wx
      have i1 : (0 : Int) ≤ (W1.length : Int) := by omega
      have i2 : (W1.length : Int) < (W1.length : Int) + 1 := by omega
      obtain ⟨⟨c0, c1, c2, c3, c4⟩, l0, _⟩ := HX.out wr HI.out.bel
      clear hist hl hA hpl hwt hwl
      go_wp2_with fail
      refine HA.out.mono ?_
      rintro e y1 ⟨rfl, hb⟩
      have Y1 : Hid (Below wr.heap.size wr y1) := hb
      clear hb c0 c1 c2 c3 c4 l0 ci hsl hgl
      obtain ⟨b, hbz⟩ : ∃ b, y1.heap.size = b := ⟨_, rfl⟩
      obtain ⟨V1, hV1⟩ : ∃ V1, y1.alloc (.cells #[.int .u32 (l.hd : Int), .int .u64 (l.wt : Int), .int .u32 (l.lf : Int), .int .u32 (l.rt : Int)] 65) = V1 := ⟨_, rfl⟩
      have HV1 : Hid (y1.alloc (.cells #[.int .u32 (l.hd : Int), .int .u64 (l.wt : Int), .int .u32 (l.lf : Int), .int .u32 (l.rt : Int)] 65) = V1 ∧ y1.heap.size = b) := ⟨hV1, hbz⟩
      have b1 : Below y1.heap.size y1 V1 := by rw [← hV1]; exact (Below.refl _ _).alloc (Nat.le_refl _) _
      have n1 : V1.heap[b]? = some (.cells #[.int .u32 (l.hd : Int), .int .u64 (l.wt : Int), .int .u32 (l.lf : Int), .int .u32 (l.rt : Int)] 65) := by rw [← hV1, ← hbz]; exact heap_newW _ _
      have HV2 : Hid (∀ wx, Below V1.heap.size V1 wx → (wx.cell? ⟨b, 0, none⟩ = some (.int .u32 (l.hd : Int)) ∧ wx.cell? ⟨b, 1, none⟩ = some (.int .u64 (l.wt : Int)) ∧ wx.cell? ⟨b, 2, none⟩ = some (.int .u32 (l.lf : Int)) ∧ wx.cell? ⟨b, 3, none⟩ = some (.int .u32 (l.rt : Int)) ∧ b < wx.heap.size) ∧ Below wr.heap.size wr wx) := fun wx hx => by
        have q := (hx.block _ (some_lt n1)).trans n1
        exact ⟨⟨by simp [World.cell?, q], by simp [World.cell?, q], by simp [World.cell?, q], by simp [World.cell?, q], some_lt q⟩, btrU Y1.out (btrU b1 hx)⟩
      clear hV1 hbz b1 n1
      go_upto_region 9 with fail
      rw [HV1.out.1]
      rw [HV1.out.2]
      obtain ⟨⟨d0, d1, d2, d3, lb⟩, _⟩ := HV2.out V1 (Below.refl _ _)
      go_wp2_with fail
      refine (HPL.out l V1).mono ?_
      rintro e y2 ⟨rfl, hb⟩
      have Y2 : Hid (Below V1.heap.size V1 y2) := hb
      clear hb d0 d1 d2 d3 lb
      obtain ⟨⟨d0, d1, d2, d3, lb⟩, _⟩ := HV2.out y2 Y2.out
      have HB2 : Hid (Below wr.heap.size wr y2) := (HV2.out y2 Y2.out).2
      rw [HP.out.2]
      have x1 : IntKind.i64.wrap (l.rt : Int) = (l.rt : Int) := by rw [IntKind.wrap_i64] <;> omega
      have x2 : IntKind.i64.wrap (l.lf : Int) = (l.lf : Int) := by rw [IntKind.wrap_i64] <;> omega
      cases pl with
      | false =>
        go_wp2_with (at_builtin; refine wpList_append_lies _ rfl _ _ 28 rfl W0.heap.size 3 i0 (.int .i64 0) 1 8 Tryz.underlying28 HI0.out.1 HI0.out.2.1 HI0.out.2.2.1 HI0.out.2.2.2 rfl (by decide) (.slice (some ⟨gq, 0, none⟩) W1.length qc) W1.length (iv (zs W1)) rfl (iown_keep (HI.out.up HB2.out).pop.1 fun k hk => Below.heap_alloc _ _ _ ((HI.out.up HB2.out).pop.1.lt k hk).2) ⟨y2.heap.size, 0, none⟩ 2 2 (iv (zs [l.rt, l.lf])) rfl rfl (new_cellsU y2 (iv (zs [l.rt, l.lf])) 3) (ivz_one _) (by decide) (by unfold maxLen; omega) (by omega) (by have := (HI.out.up HB2.out).bel.size; simp; omega) _ rfl ?_; intro g5 cap5 w5 hown5 hgr5 hor5 hlt5; have H5 : Hid (LayI h T B W0 w5 (.slice po P.length pc) (.slice (some ⟨g5, 0, none⟩) (W1 ++ [(lkO h i).lk.rt, (lkO h i).lk.lf]).length cap5) P (W1 ++ [(lkO h i).lk.rt, (lkO h i).lk.lf]) ∧ sumZ h (W1 ++ [(lkO h i).lk.rt, (lkO h i).lk.lf]) < sumZ h (W1 ++ [i])) := HI.out.cut HCC.out HP.out.1 (btrU HB2.out ((Below.refl _ y2).alloc (Nat.le_refl _) _)) (by rw [HL.out]; exact hown5) hgr5 hor5; clear hown5 hgr5 hor5 hlt5)
        go_roundw
        case rel => exact ⟨P, W1 ++ [(lkO h i).lk.rt, (lkO h i).lk.lf], po, some ⟨g5, 0, none⟩, pc, cap5, rfl, by simp, H5.out.1⟩
        case measure =>
          have q1 := rd_own H5.out.1.wow
          have q2 := HME.out
          have q3 := H5.out.2
          simp only [List.length_append, List.length_cons, List.length_nil] at q1 q2 ⊢
          rw [q1, q2]
          exact q3
      | true =>
        by_cases hful : P.length = 131072
        · have f1 : ((P.length : Int) == 131072) = true := by simp; omega
          have HTT : Hid (131072 < T.length) := by
            have q1 := HI.out.eq
            have q2 := (lay_plain q1 HP.out.1).1
            show 131072 < T.length
            rw [← q2]
            simp
            omega
          go_wp2
          go_ret2
          exact ⟨Or.inr ⟨HTT.out, rfl⟩, (HX.out y2 (HI.out.up HB2.out).bel).2.2⟩
        · have f1 : ((P.length : Int) == 131072) = false := by simp; omega
          have HPL2 : Hid (P.length < 131072) := by have := HI.out.few; show P.length < 131072; omega
          have hpf : P.length < 131072 := HPL2.out
          go_wp2_with (at_builtin; refine wpList_append_lies _ rfl _ _ 28 rfl W0.heap.size 3 i0 (.int .i64 0) 1 8 Tryz.underlying28 HI0.out.1 HI0.out.2.1 HI0.out.2.2.1 HI0.out.2.2.2 rfl (by decide) (.slice po P.length pc) P.length (iv (zs P)) rfl (iown_keep (HI.out.up HB2.out).own fun k hk => Below.heap_alloc _ _ _ ((HI.out.up HB2.out).own.lt k hk).2) ⟨y2.heap.size, 0, none⟩ 1 1 (iv (zs [i])) rfl rfl (new_cellsU y2 (iv (zs [i])) 3) (ivz_one _) (by decide) (by unfold maxLen; omega) (by omega) (by have := (HI.out.up HB2.out).bel.size; simp; omega) _ rfl ?_; intro g5 cap5 w5 hown5 hgr5 hor5 hlt5; have H5 : Hid (LayI h T B W0 w5 (.slice (some ⟨g5, 0, none⟩) (P ++ [i]).length cap5) (.slice (some ⟨gq, 0, none⟩) W1.length qc) (P ++ [i]) W1 ∧ sumZ h W1 < sumZ h (W1 ++ [i])) := HI.out.add HP.out.1 HPL2.out (btrU HB2.out ((Below.refl _ y2).alloc (Nat.le_refl _) _)) hown5 hgr5 hor5; clear hown5 hgr5 hor5 hlt5)
          go_roundw
          case rel => exact ⟨P ++ [i], W1, some ⟨g5, 0, none⟩, some ⟨gq, 0, none⟩, cap5, qc, by simp, rfl, H5.out.1⟩
          case measure =>
            have q1 := rd_own H5.out.1.wow
            have q2 := HME.out
            have q3 := H5.out.2
            simp only [List.length_append, List.length_cons, List.length_nil] at q1 q2 ⊢
            rw [q1, q2]
            exact q3
end Go.Proofs.YtodilocmfdeehaaGreatDoor.Hi

namespace Go.Proofs.YtodilocmfdeehaaGreatDoor.Hi
open Go.RowKit Go.Extern

attribute [local go_sem] Oper.semAt_some

theorem field_hdU (a b c d : Int) (wx : World) : (Instr.field 65 (.agg #[.int .u32 a, .int .u64 b, .int .u32 c, .int .u32 d]) 0).run Tryz.prog wx = .ok (.int .u32 a) wx := by
  first | kernel_rfl | rfl
theorem FOk.rises {F : List Nat} {m : Nat} (h : FOk F m) : F.Pairwise (· ≤ ·) := by
  rw [List.pairwise_iff_getElem]
  intro i j hi hj hij
  have q := h.mono (Nat.le_of_lt hij) hj
  have e1 := nth_get hi
  have e2 := nth_get hj
  rw [List.getElem?_eq_getElem hi] at e1
  rw [List.getElem?_eq_getElem hj] at e2
  rw [Option.some.inj e1, Option.some.inj e2]
  exact q
theorem below_stand {F : List Nat} {L : List Lk} (h : FOk F L.length) {i : Nat} {y : Nat × Lk} (hy : (rkL F L)[i]? = some y) : below32 F (i + 1) = y.1 + 1 := by
  obtain ⟨_, g1, g2, g3⟩ := rkL_get h hy
  refine below32_at (by omega) (fun t a ht ha => ?_) (fun t a ht ha => ?_)
  · have hl := (List.getElem?_eq_some_iff.1 ha).1
    have q := h.mono (a := t) (b := y.1) (by omega) (by omega)
    rw [nth_of ha] at q
    omega
  · have hl := (List.getElem?_eq_some_iff.1 ha).1
    have q := h.mono (a := y.1 + 1) (b := t) (by omega) (by omega)
    rw [nth_of ha] at q
    omega
theorem stand_up {h : Hr} (hc : chk h = (0, [])) {i : Nat} (hi : i < h.up.length) : (lkO h i).up = true ∧ below32 h.upF (i + 1) = (lkO h i).rk + 1 := by
  obtain ⟨k1, k2, k3, k4, k5, k6, k7, k8⟩ := chk_ok hc
  have hlt : i < (rkL h.upF h.up).length := by rw [rkL_len k5]; exact hi
  have hy := List.getElem?_eq_getElem hlt
  generalize (rkL h.upF h.up)[i] = y at hy
  have e : lkO h i = upS y := sd_of (by unfold stds; rw [List.getElem?_append_left (by rw [List.length_map]; exact hlt), List.getElem?_map, hy]; rfl)
  rw [e]
  exact ⟨rfl, below_stand k5 hy⟩
theorem stand_dn {h : Hr} (hc : chk h = (0, [])) {k : Nat} (hk : k < h.dn.length) : (lkO h (h.up.length + k)).up = false ∧ below32 h.dnF (k + 1) = (lkO h (h.up.length + k)).rk + 1 := by
  obtain ⟨k1, k2, k3, k4, k5, k6, k7, k8⟩ := chk_ok hc
  have hlt : k < (rkL h.dnF h.dn).length := by rw [rkL_len k6]; exact hk
  have hy := List.getElem?_eq_getElem hlt
  generalize (rkL h.dnF h.dn)[k] = y at hy
  have e : lkO h (h.up.length + k) = dnS y := sd_of (by unfold stds; rw [List.getElem?_append_right (by rw [List.length_map, rkL_len k5]; omega), List.length_map, rkL_len k5, Nat.add_sub_cancel_left, List.getElem?_map, hy]; rfl)
  rw [e]
  exact ⟨rfl, below_stand k6 hy⟩

set_option maxRecDepth 100000 in
set_option maxHeartbeats 2000000 in
theorem ustands_calls (ao : Option Addr) (cap : Nat) (F : List Nat) (p r : Nat) (w : World) (h : HasWs w (.slice ao F.length cap) F) (hs : F.Pairwise (· ≤ ·)) (hn : F.length ≤ 1000000) (hp : p ≤ 2000000) (hr : below32 F (p + 1) = r + 1) :
    Calls Tryz.prog 69 #[.slice ao F.length cap, .int .i64 (p : Int)] w fun e w' => e = .returned (.int .i64 (r : Int)) ∧ w' = w := by
  have hB := bs32_calls ao cap F (p + 1) w h hs (by omega)
  have hrl := below32_le F (p + 1)
  rw [hr] at hB
  have e1 : ((p + 1 : Nat) : Int) = (p : Int) + 1 := by omega
  have e2 : ((r + 1 : Nat) : Int) = (r : Int) + 1 := by omega
  rw [e1, e2] at hB
  have HB : Hid (type_of% hB) := hB
  have x1 : IntKind.u32.wrap (p : Int) = (p : Int) := by rw [IntKind.wrap_u32] <;> omega
  have x2 : IntKind.u32.wrap ((p : Int) + 1) = (p : Int) + 1 := by rw [IntKind.wrap_u32] <;> omega
  have x3 : IntKind.i64.wrap (r : Int) = (r : Int) := by rw [IntKind.wrap_i64] <;> omega
  have x4 : (r : Int) + 1 - 1 = (r : Int) := by omega
  clear hB h hs hr e1 e2
  go_enter Tryz.func69, Tryz.ntmps69
  go_wp2_with fail
  refine HB.out.mono ?_
  rintro e y ⟨f, rfl, hy⟩
  have hy' := hy.symm
  clear hy
  subst hy'
  go_wp2
  go_ret
  exact ⟨rfl, rfl⟩

set_option maxRecDepth 100000 in
set_option maxHeartbeats 2000000 in
theorem uends_calls (v : HV) (h : Hr) (i : Nat) (w : World) (hH : HasH w v h) (hc : chk h = (0, [])) (hi : i < (stds h).length) :
    (Calls Tryz.prog 39 #[hvl v h, .int .i64 (i : Int)] w fun e w' => e = .returned (.int .i64 ((lkO h i).tail : Int)) ∧ Below w.heap.size w w') ∧ (Calls Tryz.prog 68 #[hvl v h, .int .i64 (i : Int)] w fun e w' => e = .returned (.int .i64 ((lkO h i).head : Int)) ∧ Below w.heap.size w w') := by
  obtain ⟨k1, k2, k3, k4, k5, k6, k7, k8⟩ := chk_ok hc
  have hlen := stds_len k5 k6
  obtain ⟨W0, hW0⟩ : ∃ W0, w.alloc (.cells #[.slice v.no h.node.length v.nc, .slice v.uo h.upF.length v.uc, .slice v.ul h.up.length v.ulc, .slice v.wo h.dnF.length v.wc, .slice v.dl h.dn.length v.dlc] 25) = W0 := ⟨_, rfl⟩
  have HW0 : Hid (w.alloc (.cells #[.slice v.no h.node.length v.nc, .slice v.uo h.upF.length v.uc, .slice v.ul h.up.length v.ulc, .slice v.wo h.dnF.length v.wc, .slice v.dl h.dn.length v.dlc] 25) = W0) := hW0
  have hB0 : Below w.heap.size w W0 := by rw [← hW0]; exact (Below.refl _ _).alloc (Nat.le_refl _) _
  have hbx : W0.heap[w.heap.size]? = some (.cells #[.slice v.no h.node.length v.nc, .slice v.uo h.upF.length v.uc, .slice v.ul h.up.length v.ulc, .slice v.wo h.dnF.length v.wc, .slice v.dl h.dn.length v.dlc] 25) := by rw [← hW0]; exact heap_newW _ _
  obtain ⟨c0, c1, c2, c3, c4⟩ := five_cells hbx
  have l0 := some_lt hbx
  have HB0 : Hid (Below w.heap.size w W0) := hB0
  have HA : Hid (Calls Tryz.prog 60 #[.agg #[.slice v.no h.node.length v.nc, .slice v.uo h.upF.length v.uc, .slice v.ul h.up.length v.ulc, .slice v.wo h.dnF.length v.wc, .slice v.dl h.dn.length v.dlc], .int .i64 (i : Int)] W0 fun e w' => e = .returned (.agg #[.int .u32 ((lkO h i).lk.hd : Int), .int .u64 ((lkO h i).lk.wt : Int), .int .u32 ((lkO h i).lk.lf : Int), .int .u32 ((lkO h i).lk.rt : Int)]) ∧ Below W0.heap.size W0 w') := by
    have q := uat_calls v h i W0 (hH.keep hB0) (by omega) (by omega)
    rw [(link_ok hc hi).lk] at q
    exact q
  have hhd : (lkO h i).lk.hd < h.node.length := (link_ok hc hi).high
  unfold hvl
  rcases Nat.lt_or_ge i h.up.length with hlt | hge
  · have d1 : decide ((i : Int) < (h.up.length : Int)) = true := by simp; omega
    obtain ⟨s1, s2⟩ := stand_up hc hlt
    have et : (lkO h i).tail = (lkO h i).rk := by unfold Sd.tail; rw [s1]; rfl
    have eh : (lkO h i).head = (lkO h i).lk.hd := by unfold Sd.head; rw [s1]; rfl
    have HS : Hid (Calls Tryz.prog 69 #[.slice v.uo h.upF.length v.uc, .int .i64 (i : Int)] W0 fun e w' => e = .returned (.int .i64 ((lkO h i).rk : Int)) ∧ w' = W0) := ustands_calls _ _ _ i _ W0 (hH.keep hB0).upF k5.rises (by omega) (by omega) s2
    rw [et, eh]
    generalize lkO h i = s at *
    have x1 : IntKind.i64.wrap (s.lk.hd : Int) = (s.lk.hd : Int) := by rw [IntKind.wrap_i64] <;> omega
    clear hW0 hB0 hbx hH s1 s2 et eh hc k3 k4 k5 k6 k7 k8 hlen hi
    constructor
    · go_enter Tryz.func39, Tryz.ntmps39
      go_upto_region 1 with fail
      rw [HW0.out]
      go_wp2_with fail
      refine HS.out.mono ?_
      rintro e y ⟨rfl, hy⟩
      have hy' := hy.symm
      clear hy
      subst hy'
      go_wp2
      go_ret
      exact ⟨rfl, HB0.out⟩
    · go_enter Tryz.func68, Tryz.ntmps68
      go_upto_region 1 with fail
      rw [HW0.out]
      go_wp2_with fail
      refine HA.out.mono ?_
      rintro e y ⟨rfl, hb⟩
      have hfd := field_hdU (s.lk.hd : Int) (s.lk.wt : Int) (s.lk.lf : Int) (s.lk.rt : Int) y
      have HY : Hid (Below W0.heap.size W0 y) := hb
      clear hb
      go_wp2
      go_ret
      exact ⟨rfl, btrU HB0.out HY.out⟩
  · have d1 : decide ((i : Int) < (h.up.length : Int)) = false := by simp; omega
    obtain ⟨k, hk⟩ : ∃ k, i = h.up.length + k := ⟨i - h.up.length, by omega⟩
    obtain ⟨s1, s2⟩ := stand_dn hc (k := k) (by omega)
    rw [← hk] at s1 s2
    have et : (lkO h i).tail = (lkO h i).lk.hd := by unfold Sd.tail; rw [s1]; rfl
    have eh : (lkO h i).head = (lkO h i).rk := by unfold Sd.head; rw [s1]; rfl
    have HS : Hid (Calls Tryz.prog 69 #[.slice v.wo h.dnF.length v.wc, .int .i64 (k : Int)] W0 fun e w' => e = .returned (.int .i64 ((lkO h i).rk : Int)) ∧ w' = W0) := ustands_calls _ _ _ k _ W0 (hH.keep hB0).dnF k6.rises (by omega) (by omega) s2
    rw [et, eh]
    generalize lkO h i = s at *
    have x1 : IntKind.i64.wrap (s.lk.hd : Int) = (s.lk.hd : Int) := by rw [IntKind.wrap_i64] <;> omega
    have x2 : IntKind.i64.wrap ((i : Int) - (h.up.length : Int)) = (k : Int) := by rw [IntKind.wrap_i64] <;> omega
    clear hW0 hB0 hbx hH s1 s2 et eh hc k3 k4 k5 k6 k7 k8 hlen hi hk
    constructor
    · go_enter Tryz.func39, Tryz.ntmps39
      go_upto_region 1 with fail
      rw [HW0.out]
      go_wp2_with fail
      refine HA.out.mono ?_
      rintro e y ⟨rfl, hb⟩
      have hfd := field_hdU (s.lk.hd : Int) (s.lk.wt : Int) (s.lk.lf : Int) (s.lk.rt : Int) y
      have HY : Hid (Below W0.heap.size W0 y) := hb
      clear hb
      go_wp2
      go_ret
      exact ⟨rfl, btrU HB0.out HY.out⟩
    · go_enter Tryz.func68, Tryz.ntmps68
      go_upto_region 1 with fail
      rw [HW0.out]
      go_wp2_with fail
      refine HS.out.mono ?_
      rintro e y ⟨rfl, hy⟩
      have hy' := hy.symm
      clear hy
      subst hy'
      go_wp2
      go_ret
      exact ⟨rfl, HB0.out⟩
end Go.Proofs.YtodilocmfdeehaaGreatDoor.Hi

namespace Go.Proofs.YtodilocmfdeehaaGreatDoor.Hi
open Go.RowKit Go.Extern

attribute [local go_sem] Oper.semAt_some

/-- the ranks along links from a rank on. -/
def alR (h : Hr) (a : Nat) (L : List Nat) : List Nat := a :: L.map fun i => (lkO h i).head
/-- the nodes of ranks. -/
def ndR (h : Hr) (L : List Nat) : List Nat := L.map fun r => nth h.node r
theorem alR_len (h : Hr) (a : Nat) (L : List Nat) : (alR h a L).length = L.length + 1 := by simp [alR]
theorem ndR_len (h : Hr) (L : List Nat) : (ndR h L).length = L.length := by simp [ndR]
theorem take_snocU {L : List Nat} {k x : Nat} (h : L[k]? = some x) : L.take (k + 1) = L.take k ++ [x] := by
  rw [List.take_add_one, h]; rfl
theorem alR_snoc {h : Hr} {a : Nat} {L : List Nat} {k x : Nat} (hx : L[k]? = some x) : alR h a (L.take (k + 1)) = alR h a (L.take k) ++ [(lkO h x).head] := by
  rw [take_snocU hx]; simp [alR]
theorem ndR_snoc {h : Hr} {L : List Nat} {k x : Nat} (hx : L[k]? = some x) : ndR h (L.take (k + 1)) = ndR h (L.take k) ++ [nth h.node x] := by
  rw [take_snocU hx]; simp [ndR]
/-- a row in the making. -/
structure GrI (W0 wr : World) (pv : Value) (P : List Nat) : Prop where
  own : wr.ownsRow W0.heap.size 3 1 pv P.length (iv (zs P))
  bel : Below W0.heap.size W0 wr
theorem GrI.up {W0 wr wx : World} {pv : Value} {P : List Nat} (g : GrI W0 wr pv P) (hb : Below wr.heap.size wr wx) : GrI W0 wx pv P :=
  ⟨iown_keep g.own fun k hk => hb.block k (g.own.lt k hk).2, g.bel.trans (hb.mono g.bel.size)⟩
theorem GrI.add {W0 wr wx w5 : World} {pv : Value} {P : List Nat} {x : Nat} {g5 cap5 : Nat} (g : GrI W0 wr pv P) (hb : Below wr.heap.size wr wx)
    (ho : w5.ownsRow W0.heap.size 3 1 (.slice (some ⟨g5, 0, none⟩) (P.length + 1) cap5) (P.length + 1) (iv (zs P) ++ iv (zs [x]))) (hg : wx.grownBy w5 pv.ownBlock) : GrI W0 w5 (.slice (some ⟨g5, 0, none⟩) (P ++ [x]).length cap5) (P ++ [x]) := by
  have gx := g.up hb
  refine ⟨?_, grown_below gx.bel gx.own (Nat.le_refl _) hg⟩
  rw [← iv_append, ← zs_append] at ho
  simpa using ho
theorem zs_at {L : List Nat} {k x : Nat} (h : L[k]? = some x) : (zs L)[k]? = some (x : Int) := by unfold zs; rw [List.getElem?_map, h]; rfl

set_option maxRecDepth 100000 in
set_option maxHeartbeats 4000000 in
theorem ualong_calls (v : HV) (h : Hr) (a : Nat) (lo : Option Addr) (lc : Nat) (L : List Nat) (w : World) (hH : HasH w v h) (hc : chk h = (0, [])) (hl : HasInts w (.slice lo L.length lc) (zs L)) (hL : ∀ i ∈ L, i < (stds h).length) (hn : L.length ≤ 1000000) :
    Calls Tryz.prog 38 #[hvl v h, .int .i64 (a : Int), .slice lo L.length lc] w fun e w' => ∃ mo mc, e = .returned (.slice mo (alR h a L).length mc) ∧ GrI w w' (.slice mo (alR h a L).length mc) (alR h a L) := by
  obtain ⟨W0, hW0⟩ : ∃ W0, w.alloc (.cells #[.slice v.no h.node.length v.nc, .slice v.uo h.upF.length v.uc, .slice v.ul h.up.length v.ulc, .slice v.wo h.dnF.length v.wc, .slice v.dl h.dn.length v.dlc] 25) = W0 := ⟨_, rfl⟩
  have HW0 : Hid (w.alloc (.cells #[.slice v.no h.node.length v.nc, .slice v.uo h.upF.length v.uc, .slice v.ul h.up.length v.ulc, .slice v.wo h.dnF.length v.wc, .slice v.dl h.dn.length v.dlc] 25) = W0) := hW0
  have hB0 : Below w.heap.size w W0 := by rw [← hW0]; exact (Below.refl _ _).alloc (Nat.le_refl _) _
  have hbx : W0.heap[w.heap.size]? = some (.cells #[.slice v.no h.node.length v.nc, .slice v.uo h.upF.length v.uc, .slice v.ul h.up.length v.ulc, .slice v.wo h.dnF.length v.wc, .slice v.dl h.dn.length v.dlc] 25) := by rw [← hW0]; exact heap_newW _ _
  have HX : Hid (∀ wx, Below W0.heap.size W0 wx → (wx.cell? ⟨w.heap.size, 0, none⟩ = some (.slice v.no h.node.length v.nc) ∧ wx.cell? ⟨w.heap.size, 1, none⟩ = some (.slice v.uo h.upF.length v.uc) ∧ wx.cell? ⟨w.heap.size, 2, none⟩ = some (.slice v.ul h.up.length v.ulc) ∧ wx.cell? ⟨w.heap.size, 3, none⟩ = some (.slice v.wo h.dnF.length v.wc) ∧ wx.cell? ⟨w.heap.size, 4, none⟩ = some (.slice v.dl h.dn.length v.dlc)) ∧ w.heap.size < wx.heap.size ∧ Below w.heap.size w wx) := fun wx hb => by
    have q := (hb.block _ (some_lt hbx)).trans hbx
    exact ⟨five_cells q, some_lt q, hB0.trans (hb.mono hB0.size)⟩
  have HHD : Hid (∀ wx (i : Nat), i < (stds h).length → Below W0.heap.size W0 wx → Calls Tryz.prog 68 #[.agg #[.slice v.no h.node.length v.nc, .slice v.uo h.upF.length v.uc, .slice v.ul h.up.length v.ulc, .slice v.wo h.dnF.length v.wc, .slice v.dl h.dn.length v.dlc], .int .i64 (i : Int)] wx fun e w' => e = .returned (.int .i64 ((lkO h i).head : Int)) ∧ Below wx.heap.size wx w') := fun wx i hi hx => (uends_calls v h i wx (hH.keep (HX.out wx hx).2.2) hc hi).2
  have HRD : Hid (∀ wx (k x : Nat), L[k]? = some x → Below W0.heap.size W0 wx → x < (stds h).length ∧ ∃ b off, lo = some ⟨b, off, none⟩ ∧ b < wx.heap.size ∧ wx.cell? ⟨b, off + k, none⟩ = some (.int .i64 (x : Int))) := fun wx k x hx hb => by
    have q := hl.keep (HX.out wx hb).2.2
    exact ⟨hL x (List.mem_of_getElem? hx), q.at (zs_at hx)⟩
  obtain ⟨i0, hi0⟩ := infoI
  have HI0 : Hid (Tryz.prog.info? 3 = some i0 ∧ i0.zero = some (.int .i64 0) ∧ i0.size = 1 ∧ i0.bytes = 8) := hi0
  obtain ⟨W1, hW1⟩ : ∃ W1, W0.alloc (.cells #[.int .i64 (a : Int)] 3) = W1 := ⟨_, rfl⟩
  have HW1 : Hid (W0.alloc (.cells #[.int .i64 (a : Int)] 3) = W1) := hW1
  have Y0 : Hid (GrI W0 W1 (.slice (some ⟨W0.heap.size, 0, none⟩) (alR h a (L.take 0)).length 1) (alR h a (L.take 0))) := by
    have b1 : Below W0.heap.size W0 W1 := by rw [← hW1]; exact (Below.refl _ _).alloc (Nat.le_refl _) _
    have n1 : W1.heap[W0.heap.size]? = some (.cells #[.int .i64 (a : Int)] 3) := by rw [← hW1]; exact heap_newW _ _
    exact ⟨⟨rfl, Or.inr ⟨W0.heap.size, 1, _, rfl, Nat.le_refl _, n1, Nat.le_refl _, by unfold maxLen; decide, rfl, rfl⟩⟩, b1⟩
  clear hW0 hB0 hbx hH hl hL hc hi0 hW1
  unfold hvl
  go_enter Tryz.func38, Tryz.ntmps38
  go_upto_region 1 with fail
  rw [HW0.out]
  go_upto_region 2 with fail
  rw [HW1.out]
  go_wp2_with fail
  go_loopw [7, 14] (fun pv jv wr => ∃ (k : Nat) (po : Option Addr) (pc : Nat), k ≤ L.length ∧ jv = .int .i64 (k : Int) ∧ pv = .slice po (k + 1) pc ∧ Hid (GrI W0 wr (.slice po (alR h a (L.take k)).length pc) (alR h a (L.take k)))) (fun _ jv _ => L.length - (intOf jv).toNat)
  case atStart => exact ⟨0, some ⟨W0.heap.size, 0, none⟩, 1, Nat.zero_le _, rfl, rfl, Y0.out⟩
  case round =>
    obtain ⟨k, po, pc, hk, rfl, rfl, HG⟩ := hrel
    have HLN : Hid ((alR h a (L.take k)).length = k + 1) := by show _ = _; rw [alR_len, List.length_take]; omega
    by_cases hlt : k < L.length
    · have d1 : decide ((k : Int) < (L.length : Int)) = true := by simp; omega
      obtain ⟨x, hx⟩ : ∃ x, L[k]? = some x := ⟨L[k], List.getElem?_eq_getElem hlt⟩
      obtain ⟨hxs, b, off, hlo, hbl, q0⟩ := HRD.out wr k x hx HG.out.bel
      subst hlo
      have HXX : Hid (L[k]? = some x) := hx
      have hA := HHD.out wr x hxs HG.out.bel
      have HA : Hid (type_of% hA) := hA
      obtain ⟨⟨c0, c1, c2, c3, c4⟩, l0, _⟩ := HX.out wr HG.out.bel
      have i1 : (0 : Int) ≤ (k : Int) := by omega
      have i2 : (k : Int) < (L.length : Int) := by omega
      have w1 : IntKind.i64.wrap ((k : Int) + 1) = (k : Int) + 1 := by rw [IntKind.wrap_i64] <;> omega
      clear hx hxs hA
      go_wp2_with fail
      refine HA.out.mono ?_
      rintro e y1 ⟨rfl, hb⟩
      have Y1 : Hid (Below wr.heap.size wr y1) := hb
      obtain ⟨z, hz⟩ : ∃ z, (lkO h x).head = z := ⟨_, rfl⟩
      have HZ : Hid ((lkO h x).head = z) := hz
      rw [hz]
      clear hb c0 c1 c2 c3 c4 l0 q0 hbl hz
      go_wp2_with (at_builtin; refine wpList_append_lies _ rfl _ _ 28 rfl W0.heap.size 3 i0 (.int .i64 0) 1 8 Tryz.underlying28 HI0.out.1 HI0.out.2.1 HI0.out.2.2.1 HI0.out.2.2.2 rfl (by decide) (.slice po (k + 1) pc) (k + 1) (iv (zs (alR h a (L.take k)))) rfl (by have q := (HG.out.up (btrU Y1.out ((Below.refl _ y1).alloc (Nat.le_refl _) (.cells #[.int .i64 (z : Int)] 3)))).own; rw [HLN.out] at q; exact q) ⟨y1.heap.size, 0, none⟩ 1 1 (iv (zs [z])) rfl rfl (new_cellsU y1 (iv (zs [z])) 3) (ivz_one _) (by decide) (by unfold maxLen; omega) (by omega) (by have := (HG.out.up Y1.out).bel.size; simp; omega) _ rfl ?_; intro g5 cap5 w5 hown5 hgr5 hor5 hlt5; have H5 : Hid (GrI W0 w5 (.slice (some ⟨g5, 0, none⟩) (alR h a (L.take (k + 1))).length cap5) (alR h a (L.take (k + 1)))) := (by show GrI _ _ _ _; rw [alR_snoc HXX.out, HZ.out]; exact HG.out.add (btrU Y1.out ((Below.refl _ y1).alloc (Nat.le_refl _) _)) (by rw [HLN.out]; exact hown5) (by rw [HLN.out]; exact hgr5)); clear hown5 hgr5 hor5 hlt5)
      go_roundw
      case rel => exact ⟨k + 1, some ⟨g5, 0, none⟩, cap5, by omega, rfl, rfl, H5.out⟩
      case measure => simp [intOf]; omega
    · obtain rfl : k = L.length := by omega
      have HE : Hid (GrI W0 wr (.slice po (alR h a L).length pc) (alR h a L)) := by have q := HG.out; rw [List.take_length] at q; exact q
      have HN : Hid ((alR h a L).length = L.length + 1) := alR_len h a L
      clear HG HLN
      go_wp2
      go_ret
      exact ⟨po, pc, by (rw [HN.out]; rfl), own_lowU HE.out.own (HX.out W0 (Below.refl _ _)).2.2.size, (HX.out _ HE.out.bel).2.2⟩

theorem make_isU (n : Nat) (hn : n ≤ 1073741824) : ∃ cs : Array Value, cs.size = n * 1 ∧ ∀ w, (Instr.makeSlice 28 (.int .i64 0) (.int .i64 (n : Int))).run Tryz.prog w = .ok (.slice (some ⟨w.heap.size, 0, none⟩) 0 n) (w.alloc (.cells cs 3)) := by
  obtain ⟨i, hi, hz, hs, hb⟩ := infoI
  refine ⟨madeCells #[.int .i64 0] (n * 1), by simp [size_madeCells], fun w => ?_⟩
  have hr := run_make (P := Tryz.prog) w 28 3 i _ Tryz.underlying28 hi hz .i64 .i64 0 n (by omega) (by omega) (by rw [hb]; omega) (by omega)
  simp only [Int.toNat_natCast, hs] at hr
  rw [hr]
  rfl

set_option maxRecDepth 100000 in
set_option maxHeartbeats 4000000 in
theorem unodes_calls (v : HV) (h : Hr) (lo : Option Addr) (lc : Nat) (L : List Nat) (w : World) (hH : HasH w v h) (hl : HasInts w (.slice lo L.length lc) (zs L)) (hL : ∀ i ∈ L, i < h.node.length) (hn : L.length ≤ 1000000) :
    Calls Tryz.prog 37 #[hvl v h, .slice lo L.length lc] w fun e w' => ∃ mo mc, e = .returned (.slice mo (ndR h L).length mc) ∧ GrI w w' (.slice mo (ndR h L).length mc) (ndR h L) := by
  obtain ⟨W0, hW0⟩ : ∃ W0, w.alloc (.cells #[.slice v.no h.node.length v.nc, .slice v.uo h.upF.length v.uc, .slice v.ul h.up.length v.ulc, .slice v.wo h.dnF.length v.wc, .slice v.dl h.dn.length v.dlc] 25) = W0 := ⟨_, rfl⟩
  have HW0 : Hid (w.alloc (.cells #[.slice v.no h.node.length v.nc, .slice v.uo h.upF.length v.uc, .slice v.ul h.up.length v.ulc, .slice v.wo h.dnF.length v.wc, .slice v.dl h.dn.length v.dlc] 25) = W0) := hW0
  have hB0 : Below w.heap.size w W0 := by rw [← hW0]; exact (Below.refl _ _).alloc (Nat.le_refl _) _
  have hbx : W0.heap[w.heap.size]? = some (.cells #[.slice v.no h.node.length v.nc, .slice v.uo h.upF.length v.uc, .slice v.ul h.up.length v.ulc, .slice v.wo h.dnF.length v.wc, .slice v.dl h.dn.length v.dlc] 25) := by rw [← hW0]; exact heap_newW _ _
  have HX : Hid (∀ wx, Below W0.heap.size W0 wx → wx.cell? ⟨w.heap.size, 0, none⟩ = some (.slice v.no h.node.length v.nc) ∧ w.heap.size < wx.heap.size ∧ Below w.heap.size w wx) := fun wx hb => by
    have q := (hb.block _ (some_lt hbx)).trans hbx
    exact ⟨(five_cells q).1, some_lt q, hB0.trans (hb.mono hB0.size)⟩
  have HRD : Hid (∀ wx (k x : Nat), L[k]? = some x → Below W0.heap.size W0 wx → x < h.node.length ∧ nth h.node x < 4294967296 ∧ (∃ b off, v.no = some ⟨b, off, none⟩ ∧ b < wx.heap.size ∧ wx.cell? ⟨b, off + x, none⟩ = some (.int .u32 (nth h.node x : Int))) ∧ ∃ b off, lo = some ⟨b, off, none⟩ ∧ b < wx.heap.size ∧ wx.cell? ⟨b, off + k, none⟩ = some (.int .i64 (x : Int))) := fun wx k x hx hb => by
    have q := hl.keep (HX.out wx hb).2.2
    have hx2 := hL x (List.mem_of_getElem? hx)
    have q2 := ws_get (hH.keep (HX.out wx hb).2.2).node (nth_get hx2)
    exact ⟨hx2, q2.1, q2.2, q.at (zs_at hx)⟩
  obtain ⟨i0, hi0⟩ := infoI
  have HI0 : Hid (Tryz.prog.info? 3 = some i0 ∧ i0.zero = some (.int .i64 0) ∧ i0.size = 1 ∧ i0.bytes = 8) := hi0
  obtain ⟨cs, hcs, hmk⟩ := make_isU L.length (by omega)
  obtain ⟨W1, hW1⟩ : ∃ W1, W0.alloc (.cells cs 3) = W1 := ⟨_, rfl⟩
  have HW1 : Hid (W0.alloc (.cells cs 3) = W1) := hW1
  have Y0 : Hid (GrI W0 W1 (.slice (some ⟨W0.heap.size, 0, none⟩) (ndR h (L.take 0)).length L.length) (ndR h (L.take 0))) := by
    have b1 : Below W0.heap.size W0 W1 := by rw [← hW1]; exact (Below.refl _ _).alloc (Nat.le_refl _) _
    have n1 : W1.heap[W0.heap.size]? = some (.cells cs 3) := by rw [← hW1]; exact heap_newW _ _
    exact ⟨⟨rfl, Or.inr ⟨W0.heap.size, L.length, cs, rfl, Nat.le_refl _, n1, Nat.zero_le _, by unfold maxLen; omega, hcs, rfl⟩⟩, b1⟩
  clear hW0 hB0 hbx hH hl hL hi0 hW1 hcs
  unfold hvl
  go_enter Tryz.func37, Tryz.ntmps37
  go_upto_region 1 with fail
  rw [HW0.out]
  go_upto_region 2 with fail
  rw [HW1.out]
  clear hmk
  go_wp2_with fail
  go_loopw [5, 13] (fun pv jv wr => ∃ (k : Nat) (po : Option Addr) (pc : Nat), k ≤ L.length ∧ jv = .int .i64 (k : Int) ∧ pv = .slice po k pc ∧ Hid (GrI W0 wr (.slice po (ndR h (L.take k)).length pc) (ndR h (L.take k)))) (fun _ jv _ => L.length - (intOf jv).toNat)
  case atStart => exact ⟨0, some ⟨W0.heap.size, 0, none⟩, L.length, Nat.zero_le _, rfl, rfl, Y0.out⟩
  case round =>
    obtain ⟨k, po, pc, hk, rfl, rfl, HG⟩ := hrel
    have HLN : Hid ((ndR h (L.take k)).length = k) := by show _ = _; rw [ndR_len, List.length_take]; omega
    by_cases hlt : k < L.length
    · have d1 : decide ((k : Int) < (L.length : Int)) = true := by simp; omega
      obtain ⟨x, hx⟩ : ∃ x, L[k]? = some x := ⟨L[k], List.getElem?_eq_getElem hlt⟩
      obtain ⟨hxs, hxz, ⟨bn, offn, hno, hbn, qn⟩, b, off, hlo, hbl, q0⟩ := HRD.out wr k x hx HG.out.bel
      subst hlo
      obtain ⟨z, hz⟩ : ∃ z, nth h.node x = z := ⟨_, rfl⟩
      rw [hz] at hxz qn
      have HXX : Hid (L[k]? = some x ∧ nth h.node x = z) := ⟨hx, hz⟩
      obtain ⟨c0, l0, _⟩ := HX.out wr HG.out.bel
      rw [hno] at c0
      have i1 : (0 : Int) ≤ (k : Int) := by omega
      have i2 : (k : Int) < (L.length : Int) := by omega
      have i3 : (0 : Int) ≤ (x : Int) := by omega
      have i4 : (x : Int) < (h.node.length : Int) := by omega
      have w1 : IntKind.i64.wrap ((k : Int) + 1) = (k : Int) + 1 := by rw [IntKind.wrap_i64] <;> omega
      have w2 : IntKind.i64.wrap (z : Int) = (z : Int) := by rw [IntKind.wrap_i64] <;> omega
      clear hx hz hno
      go_wp2_with (at_builtin; refine wpList_append_lies _ rfl _ _ 28 rfl W0.heap.size 3 i0 (.int .i64 0) 1 8 Tryz.underlying28 HI0.out.1 HI0.out.2.1 HI0.out.2.2.1 HI0.out.2.2.2 rfl (by decide) (.slice po k pc) k (iv (zs (ndR h (L.take k)))) rfl (by have q := (HG.out.up ((Below.refl _ wr).alloc (Nat.le_refl _) (.cells #[.int .i64 (z : Int)] 3))).own; rw [HLN.out] at q; exact q) ⟨wr.heap.size, 0, none⟩ 1 1 (iv (zs [z])) rfl rfl (new_cellsU wr (iv (zs [z])) 3) (ivz_one _) (by decide) (by unfold maxLen; omega) (by omega) (by have := HG.out.bel.size; simp; omega) _ rfl ?_; intro g5 cap5 w5 hown5 hgr5 hor5 hlt5; have H5 : Hid (GrI W0 w5 (.slice (some ⟨g5, 0, none⟩) (ndR h (L.take (k + 1))).length cap5) (ndR h (L.take (k + 1)))) := (by show GrI _ _ _ _; rw [ndR_snoc HXX.out.1, HXX.out.2]; exact HG.out.add ((Below.refl _ wr).alloc (Nat.le_refl _) _) (by rw [HLN.out]; exact hown5) (by rw [HLN.out]; exact hgr5)); clear hown5 hgr5 hor5 hlt5)
      go_roundw
      case rel => exact ⟨k + 1, some ⟨g5, 0, none⟩, cap5, by omega, rfl, rfl, H5.out⟩
      case measure => simp [intOf]; omega
    · obtain rfl : k = L.length := by omega
      have HE : Hid (GrI W0 wr (.slice po (ndR h L).length pc) (ndR h L)) := by have q := HG.out; rw [List.take_length] at q; exact q
      have HN : Hid ((ndR h L).length = L.length) := ndR_len h L
      clear HG HLN
      go_wp2
      go_ret
      exact ⟨po, pc, by (rw [HN.out]; rfl), own_lowU HE.out.own (HX.out W0 (Below.refl _ _)).2.2.size, (HX.out _ HE.out.bel).2.2⟩
end Go.Proofs.YtodilocmfdeehaaGreatDoor.Hi

namespace Go.Proofs.YtodilocmfdeehaaGreatDoor.Hi
open Go.RowKit Go.Extern

attribute [local go_sem] Oper.semAt_some

/-- by which error Links refuses. -/
def lkE (h : Hr) (i : Int) : Int × List (Int × Int) := if chk h ≠ (0, []) then chk h else if i < 0 ∨ ((h.up.length + h.dn.length : Nat) : Int) ≤ i then (1, []) else if 131072 < (flatI h i.toNat).length then (2, []) else (0, [])
/-- what Links answers. -/
def lkL (h : Hr) (i : Int) : List Nat := if lkE h i = (0, []) then flatI h i.toNat else []
/-- what Nodes answers. -/
def lkN (h : Hr) (i : Int) : List Nat := if lkE h i = (0, []) then ndR h (alR h (lkO h i.toNat).tail (flatI h i.toNat)) else []
theorem lkE_chk {h : Hr} {i : Int} (hc : ¬ chk h = (0, [])) : lkE h i = chk h := by unfold lkE; rw [if_pos hc]
theorem lkE_arg {h : Hr} {i : Int} (hc : chk h = (0, [])) (hi : i < 0 ∨ ((h.up.length + h.dn.length : Nat) : Int) ≤ i) : lkE h i = (1, []) := by unfold lkE; rw [if_neg (by simpa using hc), if_pos hi]
theorem lkE_long {h : Hr} {i : Nat} (hc : chk h = (0, [])) (hi : i < h.up.length + h.dn.length) (hl : 131072 < (flatI h i).length) : lkE h (i : Int) = (2, []) := by unfold lkE; rw [if_neg (by simpa using hc), if_neg (by omega), Int.toNat_natCast, if_pos hl]
theorem lkE_ok {h : Hr} {i : Nat} (hc : chk h = (0, [])) (hi : i < h.up.length + h.dn.length) (hl : (flatI h i).length ≤ 131072) : lkE h (i : Int) = (0, []) := by unfold lkE; rw [if_neg (by simpa using hc), if_neg (by omega), Int.toNat_natCast, if_neg (by omega)]
theorem lkE_inv {h : Hr} {i : Int} (he : lkE h i = (0, [])) : chk h = (0, []) ∧ ∃ k : Nat, i = (k : Int) ∧ k < h.up.length + h.dn.length ∧ (flatI h k).length ≤ 131072 := by
  unfold lkE at he
  split at he
  · rename_i h1
    exact absurd he h1
  · rename_i h1
    split at he
    · simp at he
    · rename_i h2
      split at he
      · simp at he
      · rename_i h3
        refine ⟨by simpa using h1, i.toNat, by omega, by omega, by omega⟩
theorem lkL_bad {h : Hr} {i : Int} (he : lkE h i ≠ (0, [])) : lkL h i = [] := by unfold lkL; rw [if_neg he]
theorem lkN_bad {h : Hr} {i : Int} (he : lkE h i ≠ (0, [])) : lkN h i = [] := by unfold lkN; rw [if_neg he]
theorem lkL_ok {h : Hr} {i : Nat} (he : lkE h (i : Int) = (0, [])) : lkL h (i : Int) = flatI h i := by unfold lkL; rw [if_pos he, Int.toNat_natCast]
theorem lkN_ok {h : Hr} {i : Nat} (he : lkE h (i : Int) = (0, [])) : lkN h (i : Int) = ndR h (alR h (lkO h i).tail (flatI h i)) := by unfold lkN; rw [if_pos he, Int.toNat_natCast]
theorem layL_one (h : Hr) (i : Nat) : layL h [i] = flatI h i := by rw [layL_cons]; simp [layL]
/-- what Links or Nodes answers, and by which error. -/
def LkA (w : World) (er : Int × List (Int × Int)) (P : List Nat) (e : Ending) (w' : World) : Prop :=
  ∃ (mo : Option Addr) (mc : Nat) (u : Value), e = .returned (.tuple #[.slice mo P.length mc, u]) ∧ IsTold w' er u ∧ GrI w w' (.slice mo P.length mc) P
theorem LkA.bad {w w' : World} {er : Int × List (Int × Int)} {P : List Nat} {T : TypeId} {x : Value} (hP : P = []) (ht : IsTold w' er (.iface T x)) (hb : Below w.heap.size w w') : LkA w er P (.returned (.tuple #[.slice none 0 0, .iface T x])) w' := by
  subst hP
  exact ⟨none, 0, _, rfl, ht, World.ownsRow_nil _ _ _ _, hb⟩

set_option maxRecDepth 100000 in
set_option maxHeartbeats 4000000 in
theorem ulinks_calls (v : HV) (h : Hr) (i : Int) (w : World) (hH : HasH w v h) (hb1 : h.up.length ≤ 1152921504606846976) (hb2 : h.dn.length ≤ 1152921504606846976) (hb3 : h.node.length ≤ 1152921504606846976) :
    Calls Tryz.prog 9 #[hvl v h, .int .i64 i] w (LkA w (lkE h i) (lkL h i)) := by
  obtain ⟨W0, hW0⟩ : ∃ W0, w.alloc (.cells #[.slice v.no h.node.length v.nc, .slice v.uo h.upF.length v.uc, .slice v.ul h.up.length v.ulc, .slice v.wo h.dnF.length v.wc, .slice v.dl h.dn.length v.dlc] 25) = W0 := ⟨_, rfl⟩
  have HW0 : Hid (w.alloc (.cells #[.slice v.no h.node.length v.nc, .slice v.uo h.upF.length v.uc, .slice v.ul h.up.length v.ulc, .slice v.wo h.dnF.length v.wc, .slice v.dl h.dn.length v.dlc] 25) = W0) := hW0
  have hB0 : Below w.heap.size w W0 := by rw [← hW0]; exact (Below.refl _ _).alloc (Nat.le_refl _) _
  have hbx : W0.heap[w.heap.size]? = some (.cells #[.slice v.no h.node.length v.nc, .slice v.uo h.upF.length v.uc, .slice v.ul h.up.length v.ulc, .slice v.wo h.dnF.length v.wc, .slice v.dl h.dn.length v.dlc] 25) := by rw [← hW0]; exact heap_newW _ _
  have HX : Hid (∀ wx, Below W0.heap.size W0 wx → (wx.cell? ⟨w.heap.size, 0, none⟩ = some (.slice v.no h.node.length v.nc) ∧ wx.cell? ⟨w.heap.size, 1, none⟩ = some (.slice v.uo h.upF.length v.uc) ∧ wx.cell? ⟨w.heap.size, 2, none⟩ = some (.slice v.ul h.up.length v.ulc) ∧ wx.cell? ⟨w.heap.size, 3, none⟩ = some (.slice v.wo h.dnF.length v.wc) ∧ wx.cell? ⟨w.heap.size, 4, none⟩ = some (.slice v.dl h.dn.length v.dlc)) ∧ w.heap.size < wx.heap.size ∧ Below w.heap.size w wx ∧ HasH wx v h) := fun wx hb => by
    have q := (hb.block _ (some_lt hbx)).trans hbx
    have q2 := hB0.trans (hb.mono hB0.size)
    exact ⟨five_cells q, some_lt q, q2, hH.keep q2⟩
  have HCK : Hid (Calls Tryz.prog 31 #[.agg #[.slice v.no h.node.length v.nc, .slice v.uo h.upF.length v.uc, .slice v.ul h.up.length v.ulc, .slice v.wo h.dnF.length v.wc, .slice v.dl h.dn.length v.dlc]] W0 fun e w' => ∃ u, e = .returned u ∧ IsTold w' (chk h) u ∧ Below W0.heap.size W0 w') := check_calls v h W0 (hH.keep hB0) hb1 hb2 hb3
  obtain ⟨⟨c0, c1, c2, c3, c4⟩, l0, _⟩ := HX.out W0 (Below.refl _ _)
  clear hW0 hB0 hbx hH
  unfold hvl
  go_enter Tryz.func9, Tryz.ntmps9
  go_upto_region 1 with fail
  rw [HW0.out]
  go_wp2_with fail
  refine HCK.out.mono ?_
  rintro e w1 ⟨u, rfl, ht, hbb1⟩
  have HB1 : Hid (Below W0.heap.size W0 w1) := hbb1
  by_cases hc : chk h = (0, [])
  · rw [hc] at ht
    have hu := isTold_nil ht
    subst hu
    have HC : Hid (chk h = (0, [])) := hc
    have hsm := (chk_ok hc).2.1
    clear hbb1 c0 c1 c2 c3 c4 l0 ht hc
    obtain ⟨⟨c0, c1, c2, c3, c4⟩, l0, _⟩ := HX.out w1 HB1.out
    have w3 : IntKind.i64.wrap ((h.up.length : Int) + (h.dn.length : Int)) = (h.up.length : Int) + (h.dn.length : Int) := by rw [IntKind.wrap_i64] <;> omega
    by_cases hneg : i < 0
    · have i1 : decide (i < 0) = true := by simpa using hneg
      have HEE : Hid (lkE h i = (1, [])) := lkE_arg HC.out (Or.inl hneg)
      go_wp2
      go_ret2
      exact LkA.bad (lkL_bad (by rw [HEE.out]; decide)) (by rw [HEE.out]; exact told_num _ (by decide)) (HX.out w1 HB1.out).2.2.1
    · have i1 : decide (i < 0) = false := by simpa using hneg
      obtain ⟨k, rfl⟩ : ∃ k : Nat, i = (k : Int) := ⟨i.toNat, by omega⟩
      by_cases hge : (h.up.length : Int) + (h.dn.length : Int) ≤ (k : Int)
      · have i2 : decide ((h.up.length : Int) + (h.dn.length : Int) ≤ (k : Int)) = true := by simpa using hge
        have HEE : Hid (lkE h (k : Int) = (1, [])) := lkE_arg HC.out (Or.inr (by omega))
        go_wp2
        go_ret2
        exact LkA.bad (lkL_bad (by rw [HEE.out]; decide)) (by rw [HEE.out]; exact told_num _ (by decide)) (HX.out w1 HB1.out).2.2.1
      · have i2 : decide ((h.up.length : Int) + (h.dn.length : Int) ≤ (k : Int)) = false := by simpa using hge
        have hk : k < h.up.length + h.dn.length := by omega
        obtain ⟨V, hV⟩ : ∃ V, w1.alloc (.cells #[.int .i64 (k : Int)] 3) = V := ⟨_, rfl⟩
        have HV : Hid (w1.alloc (.cells #[.int .i64 (k : Int)] 3) = V) := hV
        have hbV : Below w1.heap.size w1 V := by rw [← hV]; exact (Below.refl _ _).alloc (Nat.le_refl _) _
        have HBV : Hid (Below w.heap.size w V) := (HX.out V (btrU HB1.out hbV)).2.2.1
        have hLA := lay_calls v h (some ⟨w1.heap.size, 0, none⟩) 1 [k] V (HX.out V (btrU HB1.out hbV)).2.2.2 HC.out (by
          refine ⟨some ⟨w1.heap.size, 0, none⟩, 1, rfl, fun j a hj => ?_⟩
          have hn1 : V.heap[w1.heap.size]? = some (.cells #[.int .i64 (k : Int)] 3) := by rw [← hV]; exact heap_newW _ _
          have hj0 := (List.getElem?_eq_some_iff.1 hj).1
          have hj1 : j = 0 := by simp [zs] at hj0; omega
          subst hj1
          simp [zs] at hj
          subst hj
          exact ⟨w1.heap.size, 0, rfl, some_lt hn1, by simp [World.cell?, hn1]⟩) (fun a ha => by injection ha with ha; subst ha; rfl) (fun j hj => by
          simp at hj
          subst hj
          obtain ⟨_, _, _, _, k5, k6, _, _⟩ := chk_ok HC.out
          rw [stds_len k5 k6]
          exact hk) (by simp)
        rw [layL_one] at hLA
        have HLA : Hid (type_of% hLA) := hLA
        clear hLA hV hbV
        unfold hvl at HLA
        go_wp2_with fail
        rw [HV.out]
        refine HLA.out.mono ?_
        rintro e y ⟨hcase, hb⟩
        have HY : Hid (Below V.heap.size V y) := hb
        rcases hcase with ⟨hle, mo, mc, rfl, ho⟩ | ⟨hgt, rfl⟩
        · have HEE : Hid (lkE h (k : Int) = (0, []) ∧ lkL h (k : Int) = flatI h k) := ⟨lkE_ok HC.out hk hle, lkL_ok (lkE_ok HC.out hk hle)⟩
          have HO : Hid (y.ownsRow V.heap.size 3 1 (.slice mo (flatI h k).length mc) (flatI h k).length (iv (zs (flatI h k)))) := ho
          clear ho hb hle c0 c1 c2 c3 c4 l0
          generalize flatI h k = F at *
          go_wp2
          go_ret2
          rw [HEE.out.1, HEE.out.2]
          exact ⟨mo, mc, _, rfl, Or.inl ⟨rfl, rfl⟩, own_lowU HO.out HBV.out.size, btrU HBV.out HY.out⟩
        · have HEE : Hid (lkE h (k : Int) = (2, [])) := lkE_long HC.out hk hgt
          clear hgt hb c0 c1 c2 c3 c4 l0
          go_wp2
          go_ret2
          exact LkA.bad (lkL_bad (by rw [HEE.out]; decide)) (by rw [HEE.out]; exact told_num _ (by decide)) (btrU HBV.out HY.out)
  · obtain ⟨tt, xx, hu1, _⟩ := isTold_some ht hc
    subst hu1
    have HEE : Hid (lkE h i = chk h ∧ lkL h i = []) := ⟨lkE_chk hc, lkL_bad (by rw [lkE_chk hc]; exact hc)⟩
    have HTT : Hid (IsTold w1 (chk h) (.iface tt xx)) := ht
    clear hbb1 c0 c1 c2 c3 c4 l0 ht hc
    go_wp2
    go_ret2
    rw [HEE.out.1]
    exact LkA.bad HEE.out.2 HTT.out (HX.out w1 HB1.out).2.2.1
end Go.Proofs.YtodilocmfdeehaaGreatDoor.Hi

namespace Go.Proofs.YtodilocmfdeehaaGreatDoor.Hi
open Go.RowKit Go.Extern

attribute [local go_sem] Oper.semAt_some

theorem ints_ownU {w : World} {B : Nat} {mo : Option Addr} {mc : Nat} {L : List Nat} (h : w.ownsRow B 3 1 (.slice mo L.length mc) L.length (iv (zs L))) : HasInts w (.slice mo L.length mc) (zs L) := by
  refine ⟨mo, mc, by rw [zs_len], fun j a hj => ?_⟩
  have hlt := (List.getElem?_eq_some_iff.1 hj).1
  rw [zs_len] at hlt
  obtain ⟨g, cap, e, _, hl, _, hc⟩ := iown_at h (by omega)
  injection e with e1 _ _
  refine ⟨g, 0, e1, hl, ?_⟩
  rw [Nat.zero_add, hc j _ (List.getElem?_eq_getElem hlt)]
  have e3 := zs_at (List.getElem?_eq_getElem hlt)
  rw [e3] at hj
  rw [Option.some.inj hj]
theorem head_lt {h : Hr} (hc : chk h = (0, [])) {i : Nat} (hi : i < (stds h).length) : (lkO h i).head < h.node.length ∧ (lkO h i).tail < h.node.length := by
  have k := link_ok hc hi
  have k1 : (lkO h i).rk < (lkO h i).lk.hd := k.low
  have k2 : (lkO h i).lk.hd < h.node.length := k.high
  unfold Sd.head Sd.tail
  cases (lkO h i).up <;> constructor <;> simp <;> omega
theorem Chain.all {h : Hr} : ∀ {a b : Nat} {L : List Nat}, Chain h a b L → ∀ i ∈ L, i < (stds h).length
  | _, _, [], _, _, hi => by cases hi
  | _, _, _ :: _, ⟨k1, _, _, k4⟩, i, hi => by
    rcases List.mem_cons.1 hi with rfl | hi
    · exact k1
    · exact Chain.all k4 i hi
theorem flatI_all {h : Hr} (hc : chk h = (0, [])) {i : Nat} (hi : i < (stds h).length) : ∀ j ∈ flatI h i, j < (stds h).length := (flat_chain hc _ i hi (Nat.lt_succ_self _)).1.all
theorem alR_all {h : Hr} (hc : chk h = (0, [])) {a : Nat} {L : List Nat} (ha : a < h.node.length) (hL : ∀ j ∈ L, j < (stds h).length) : ∀ r ∈ alR h a L, r < h.node.length := by
  intro r hr
  rcases List.mem_cons.1 hr with rfl | hr
  · exact ha
  · obtain ⟨j, hj, rfl⟩ := List.mem_map.1 hr
    exact (head_lt hc (hL j hj)).1

set_option maxRecDepth 100000 in
set_option maxHeartbeats 4000000 in
theorem ucount_calls (v : HV) (h : Hr) (i : Int) (w : World) (hH : HasH w v h) (hb1 : h.up.length ≤ 1152921504606846976) (hb2 : h.dn.length ≤ 1152921504606846976) (hb3 : h.node.length ≤ 1152921504606846976) :
    Calls Tryz.prog 14 #[hvl v h, .int .i64 i] w fun e w' => ∃ u, e = .returned (.tuple #[.int .i64 ((lkL h i).length : Int), u]) ∧ IsTold w' (lkE h i) u ∧ Below w.heap.size w w' := by
  obtain ⟨z, hz⟩ : ∃ z, w.heap.size = z := ⟨_, rfl⟩
  obtain ⟨W0, hW0⟩ : ∃ W0, w.alloc (.cells #[.slice v.no h.node.length v.nc, .slice v.uo h.upF.length v.uc, .slice v.ul h.up.length v.ulc, .slice v.wo h.dnF.length v.wc, .slice v.dl h.dn.length v.dlc] 25) = W0 := ⟨_, rfl⟩
  have HW0 : Hid (w.alloc (.cells #[.slice v.no h.node.length v.nc, .slice v.uo h.upF.length v.uc, .slice v.ul h.up.length v.ulc, .slice v.wo h.dnF.length v.wc, .slice v.dl h.dn.length v.dlc] 25) = W0) := hW0
  have hB0 : Below w.heap.size w W0 := by rw [← hW0]; exact (Below.refl _ _).alloc (Nat.le_refl _) _
  have hbx : W0.heap[z]? = some (.cells #[.slice v.no h.node.length v.nc, .slice v.uo h.upF.length v.uc, .slice v.ul h.up.length v.ulc, .slice v.wo h.dnF.length v.wc, .slice v.dl h.dn.length v.dlc] 25) := by rw [← hW0, ← hz]; exact heap_newW _ _
  have HX : Hid (∀ wx, Below W0.heap.size W0 wx → (wx.cell? ⟨z, 0, none⟩ = some (.slice v.no h.node.length v.nc) ∧ wx.cell? ⟨z, 1, none⟩ = some (.slice v.uo h.upF.length v.uc) ∧ wx.cell? ⟨z, 2, none⟩ = some (.slice v.ul h.up.length v.ulc) ∧ wx.cell? ⟨z, 3, none⟩ = some (.slice v.wo h.dnF.length v.wc) ∧ wx.cell? ⟨z, 4, none⟩ = some (.slice v.dl h.dn.length v.dlc)) ∧ z < wx.heap.size ∧ Below w.heap.size w wx ∧ HasH wx v h) := fun wx hb => by
    have q := (hb.block _ (some_lt hbx)).trans hbx
    have q2 := hB0.trans (hb.mono hB0.size)
    exact ⟨five_cells q, some_lt q, q2, hH.keep q2⟩
  have HLK : Hid (Calls Tryz.prog 9 #[(.agg #[.slice v.no h.node.length v.nc, .slice v.uo h.upF.length v.uc, .slice v.ul h.up.length v.ulc, .slice v.wo h.dnF.length v.wc, .slice v.dl h.dn.length v.dlc]), .int .i64 i] W0 (LkA W0 (lkE h i) (lkL h i))) := ulinks_calls v h i W0 (hH.keep hB0) hb1 hb2 hb3
  obtain ⟨⟨c0, c1, c2, c3, c4⟩, l0, _⟩ := HX.out W0 (Below.refl _ _)
  clear hW0 hB0 hbx hH
  unfold hvl
  obtain ⟨F, hF⟩ : ∃ F, lkL h i = F := ⟨_, rfl⟩
  rw [hF] at HLK ⊢
  clear hF
  go_enter Tryz.func14, Tryz.ntmps14
  go_upto_region 1 with fail
  rw [HW0.out]
  go_wp2_with fail
  refine HLK.out.mono ?_
  rintro e y1 ⟨mo, mc, u, rfl, ht, hg⟩
  have H1 : Hid (IsTold y1 (lkE h i) u ∧ Below W0.heap.size W0 y1) := ⟨ht, hg.bel⟩
  clear ht hg c0 c1 c2 c3 c4 l0
  go_wp2
  go_ret2
  exact ⟨u, rfl, H1.out.1, (HX.out y1 H1.out.2).2.2.1⟩

set_option maxRecDepth 100000 in
set_option maxHeartbeats 4000000 in
theorem unodesX_calls (v : HV) (h : Hr) (i : Int) (w : World) (hH : HasH w v h) (hb1 : h.up.length ≤ 1152921504606846976) (hb2 : h.dn.length ≤ 1152921504606846976) (hb3 : h.node.length ≤ 1152921504606846976) :
    Calls Tryz.prog 15 #[hvl v h, .int .i64 i] w (LkA w (lkE h i) (lkN h i)) := by
  obtain ⟨z, hz⟩ : ∃ z, w.heap.size = z := ⟨_, rfl⟩
  obtain ⟨W0, hW0⟩ : ∃ W0, w.alloc (.cells #[.slice v.no h.node.length v.nc, .slice v.uo h.upF.length v.uc, .slice v.ul h.up.length v.ulc, .slice v.wo h.dnF.length v.wc, .slice v.dl h.dn.length v.dlc] 25) = W0 := ⟨_, rfl⟩
  have HW0 : Hid (w.alloc (.cells #[.slice v.no h.node.length v.nc, .slice v.uo h.upF.length v.uc, .slice v.ul h.up.length v.ulc, .slice v.wo h.dnF.length v.wc, .slice v.dl h.dn.length v.dlc] 25) = W0) := hW0
  have hB0 : Below w.heap.size w W0 := by rw [← hW0]; exact (Below.refl _ _).alloc (Nat.le_refl _) _
  have hbx : W0.heap[z]? = some (.cells #[.slice v.no h.node.length v.nc, .slice v.uo h.upF.length v.uc, .slice v.ul h.up.length v.ulc, .slice v.wo h.dnF.length v.wc, .slice v.dl h.dn.length v.dlc] 25) := by rw [← hW0, ← hz]; exact heap_newW _ _
  have HX : Hid (∀ wx, Below W0.heap.size W0 wx → (wx.cell? ⟨z, 0, none⟩ = some (.slice v.no h.node.length v.nc) ∧ wx.cell? ⟨z, 1, none⟩ = some (.slice v.uo h.upF.length v.uc) ∧ wx.cell? ⟨z, 2, none⟩ = some (.slice v.ul h.up.length v.ulc) ∧ wx.cell? ⟨z, 3, none⟩ = some (.slice v.wo h.dnF.length v.wc) ∧ wx.cell? ⟨z, 4, none⟩ = some (.slice v.dl h.dn.length v.dlc)) ∧ z < wx.heap.size ∧ Below w.heap.size w wx ∧ HasH wx v h) := fun wx hb => by
    have q := (hb.block _ (some_lt hbx)).trans hbx
    have q2 := hB0.trans (hb.mono hB0.size)
    exact ⟨five_cells q, some_lt q, q2, hH.keep q2⟩
  have HLK : Hid (Calls Tryz.prog 9 #[(.agg #[.slice v.no h.node.length v.nc, .slice v.uo h.upF.length v.uc, .slice v.ul h.up.length v.ulc, .slice v.wo h.dnF.length v.wc, .slice v.dl h.dn.length v.dlc]), .int .i64 i] W0 (LkA W0 (lkE h i) (lkL h i))) := ulinks_calls v h i W0 (hH.keep hB0) hb1 hb2 hb3
  obtain ⟨⟨c0, c1, c2, c3, c4⟩, l0, _⟩ := HX.out W0 (Below.refl _ _)
  clear hW0 hB0 hbx hH
  unfold hvl
  go_enter Tryz.func15, Tryz.ntmps15
  go_upto_region 1 with fail
  rw [HW0.out]
  go_wp2_with fail
  refine HLK.out.mono ?_
  rintro e y1 ⟨mo, mc, u, rfl, ht, hg⟩
  by_cases he : lkE h i = (0, [])
  · rw [he] at ht
    have hu := isTold_nil ht
    subst hu
    obtain ⟨hc, k, rfl, hk, hle⟩ := lkE_inv he
    have k5 := (chk_ok hc).2.2.2.2.1
    have k6 := (chk_ok hc).2.2.2.2.2.1
    rw [← stds_len k5 k6] at hk
    have eL := lkL_ok he
    have HNN : Hid (lkN h (k : Int) = ndR h (alR h (lkO h k).tail (flatI h k)) ∧ lkE h (k : Int) = (0, [])) := ⟨lkN_ok he, he⟩
    rw [eL] at hg
    rw [eL]
    have HC : Hid (chk h = (0, []) ∧ k < (stds h).length ∧ (∀ j ∈ flatI h k, j < (stds h).length) ∧ (lkO h k).tail < h.node.length) := ⟨hc, hk, flatI_all hc hk, (head_lt hc hk).2⟩
    have H1 : Hid (∀ wx, Below y1.heap.size y1 wx → HasInts wx (.slice mo (flatI h k).length mc) (zs (flatI h k)) ∧ Below W0.heap.size W0 wx) := fun wx hx => ⟨(ints_ownU hg.own).keep hx, btrU hg.bel hx⟩
    clear ht hg he hc hk k5 k6 eL c0 c1 c2 c3 c4 l0
    generalize flatI h k = F at *
    obtain ⟨tl, htl⟩ : ∃ tl, (lkO h k).tail = tl := ⟨_, rfl⟩
    have HTL : Hid ((lkO h k).tail = tl) := htl
    have HNL : Hid ((alR h tl F).length ≤ 200000) := by show _ ≤ _; rw [alR_len]; omega
    rw [htl] at HNN HC
    clear htl
    have HSS : Hid (∀ wx, Below y1.heap.size y1 wx → (fun w' : World => w'.cell? ⟨z, 0, none⟩ = some (.slice v.no h.node.length v.nc) ∧ w'.cell? ⟨z, 1, none⟩ = some (.slice v.uo h.upF.length v.uc) ∧ w'.cell? ⟨z, 2, none⟩ = some (.slice v.ul h.up.length v.ulc) ∧ w'.cell? ⟨z, 3, none⟩ = some (.slice v.wo h.dnF.length v.wc) ∧ w'.cell? ⟨z, 4, none⟩ = some (.slice v.dl h.dn.length v.dlc) ∧ Hid (Below y1.heap.size y1 w')) wx) := fun wx hx => by
      obtain ⟨⟨c0, c1, c2, c3, c4⟩, _, _⟩ := HX.out wx (H1.out wx hx).2
      exact ⟨c0, c1, c2, c3, c4, hx⟩
    have HCT : Hid (∀ wx : World, (fun w' : World => w'.cell? ⟨z, 0, none⟩ = some (.slice v.no h.node.length v.nc) ∧ w'.cell? ⟨z, 1, none⟩ = some (.slice v.uo h.upF.length v.uc) ∧ w'.cell? ⟨z, 2, none⟩ = some (.slice v.ul h.up.length v.ulc) ∧ w'.cell? ⟨z, 3, none⟩ = some (.slice v.wo h.dnF.length v.wc) ∧ w'.cell? ⟨z, 4, none⟩ = some (.slice v.dl h.dn.length v.dlc) ∧ Hid (Below y1.heap.size y1 w')) wx → Calls Tryz.prog 39 #[(.agg #[.slice v.no h.node.length v.nc, .slice v.uo h.upF.length v.uc, .slice v.ul h.up.length v.ulc, .slice v.wo h.dnF.length v.wc, .slice v.dl h.dn.length v.dlc]), .int .i64 (k : Int)] wx fun e w' => e = .returned (.int .i64 (tl : Int)) ∧ Grows wx w' ∧ (fun w' : World => w'.cell? ⟨z, 0, none⟩ = some (.slice v.no h.node.length v.nc) ∧ w'.cell? ⟨z, 1, none⟩ = some (.slice v.uo h.upF.length v.uc) ∧ w'.cell? ⟨z, 2, none⟩ = some (.slice v.ul h.up.length v.ulc) ∧ w'.cell? ⟨z, 3, none⟩ = some (.slice v.wo h.dnF.length v.wc) ∧ w'.cell? ⟨z, 4, none⟩ = some (.slice v.dl h.dn.length v.dlc) ∧ Hid (Below y1.heap.size y1 w')) w') := fun wx hS => by
      have q := (uends_calls v h k wx (HX.out wx (H1.out wx hS.2.2.2.2.2.out).2).2.2.2 HC.out.1 HC.out.2.1).1
      rw [HTL.out] at q
      exact q.mono (by rintro e w' ⟨rfl, hb⟩; exact ⟨rfl, hb, HSS.out w' (btrU hS.2.2.2.2.2.out hb)⟩)
    have HCA : Hid (∀ wx : World, Below y1.heap.size y1 wx → Calls Tryz.prog 38 #[(.agg #[.slice v.no h.node.length v.nc, .slice v.uo h.upF.length v.uc, .slice v.ul h.up.length v.ulc, .slice v.wo h.dnF.length v.wc, .slice v.dl h.dn.length v.dlc]), .int .i64 (tl : Int), .slice mo F.length mc] wx fun e w' => ∃ ao ac, e = .returned (.slice ao (alR h tl F).length ac) ∧ GrI wx w' (.slice ao (alR h tl F).length ac) (alR h tl F)) := fun wx hx => ualong_calls v h tl mo mc F wx (HX.out wx (H1.out wx hx).2).2.2.2 HC.out.1 (H1.out wx hx).1 HC.out.2.2.1 (by have := HNL.out; rw [alR_len] at this; omega)
    go_upto_region 4 with fail
    refine wp_region_M (S := (fun w' : World => w'.cell? ⟨z, 0, none⟩ = some (.slice v.no h.node.length v.nc) ∧ w'.cell? ⟨z, 1, none⟩ = some (.slice v.uo h.upF.length v.uc) ∧ w'.cell? ⟨z, 2, none⟩ = some (.slice v.ul h.up.length v.ulc) ∧ w'.cell? ⟨z, 3, none⟩ = some (.slice v.wo h.dnF.length v.wc) ∧ w'.cell? ⟨z, 4, none⟩ = some (.slice v.dl h.dn.length v.dlc) ∧ Hid (Below y1.heap.size y1 w'))) (by kernel_rfl) (HSS.out _ (Below.refl _ _).drew) ?_
    refine wpAnyM_take (i := 0) (oi := ⟨some 17, .load 25 (.tmp 2), 25, "unpack.go:27", #[], none⟩) (v := ?va0) rfl (by kernel_rfl) (by kernel_rfl) (by kernel_rfl) (fun _ _ _ h => h) (YieldsM.of_if (Or.inl ⟨by rfl, ?ha0⟩)) ?ra0
    case ha0 => ((intro wz hSw; (try dsimp only at hSw); go_simp); try (with_reducible rfl))
    try simp only [Act.put, List.setIfInBounds_toArray, List.set_cons_zero, List.set_cons_succ]
    refine wpAnyM_take (i := 1) (oi := ⟨some 18, .load 25 (.tmp 2), 25, "unpack.go:27", #[], none⟩) (v := ?va1) rfl (by kernel_rfl) (by kernel_rfl) (by kernel_rfl) (fun _ _ _ h => h) (YieldsM.of_if (Or.inl ⟨by rfl, ?ha1⟩)) ?ra1
    case ha1 => ((intro wz hSw; (try dsimp only at hSw); go_simp); try (with_reducible rfl))
    try simp only [Act.put, List.setIfInBounds_toArray, List.set_cons_zero, List.set_cons_succ]
    refine wpAnyM_take (i := 2) (oi := ⟨some 19, .load 25 (.tmp 2), 25, "unpack.go:27", #[], none⟩) (v := ?va2) rfl (by kernel_rfl) (by kernel_rfl) (by kernel_rfl) (fun _ _ _ h => h) (YieldsM.of_if (Or.inl ⟨by rfl, ?ha2⟩)) ?ra2
    case ha2 => ((intro wz hSw; (try dsimp only at hSw); go_simp); try (with_reducible rfl))
    try simp only [Act.put, List.setIfInBounds_toArray, List.set_cons_zero, List.set_cons_succ]
    refine wpAnyM_take (i := 3) (oi := ⟨some 20, .move (.tmp 1), 3, "unpack.go:27", #[], none⟩) (v := ?va3) rfl (by kernel_rfl) (by kernel_rfl) (by kernel_rfl) (fun _ _ _ h => h) (YieldsM.of_if (Or.inl ⟨by rfl, ?ha3⟩)) ?ra3
    case ha3 => ((intro wz hSw; (try dsimp only at hSw); go_simp); try (with_reducible rfl))
    try simp only [Act.put, List.setIfInBounds_toArray, List.set_cons_zero, List.set_cons_succ]
    refine wpAnyM_take (i := 4) (oi := ⟨some 21, .call { callee := .value (.func 39), args := #[.tmp 19, .tmp 20], argTypes := #[25, 3] }, 3, "unpack.go:27", #[⟨2, .data⟩, ⟨3, .data⟩], none⟩) (v := (.int .i64 (tl : Int))) rfl (by kernel_rfl) (by kernel_rfl) (by kernel_rfl) (fun _ _ _ h => h) (YieldsM.of_call (f := 39) (by rfl) (fun _ _ => by kernel_rfl) (HCT.out)) ?_
    try simp only [Act.put, List.setIfInBounds_toArray, List.set_cons_zero, List.set_cons_succ]
    refine wpAnyM_take (i := 5) (oi := ⟨some 22, .move (.tmp 6), 28, "unpack.go:27", #[], none⟩) (v := ?va5) rfl (by kernel_rfl) (by kernel_rfl) (by kernel_rfl) (fun _ _ _ h => h) (YieldsM.of_if (Or.inl ⟨by rfl, ?ha5⟩)) ?ra5
    case ha5 => ((intro wz hSw; (try dsimp only at hSw); go_simp); try (with_reducible rfl))
    try simp only [Act.put, List.setIfInBounds_toArray, List.set_cons_zero, List.set_cons_succ]
    refine readyM (i := 6) (o := ⟨some 23, .call { callee := .value (.func 38), args := #[.tmp 18, .tmp 21, .tmp 22], argTypes := #[25, 3, 28] }, 28, "unpack.go:27", #[⟨1, .data⟩, ⟨4, .data⟩, ⟨5, .data⟩, ⟨4, .chain⟩], none⟩) rfl (by kernel_rfl) ?_
    intro u1 hg1 hS1 K hK
    have B1 : Hid (Below y1.heap.size y1 u1) := hS1.2.2.2.2.2.out
    clear hS1 hg1
    go_simp
    refine (HCA.out u1 B1.out).mono ?_
    rintro e u2 ⟨ao, ac, rfl, hg2⟩
    have G2 : Hid (GrI u1 u2 (.slice ao (alR h tl F).length ac) (alR h tl F)) := hg2
    clear hg2
    go_wp2_with fail
    refine hK.out _ _ (HSS.out _ (btrU B1.out G2.out.bel)) ?_
    clear hK K
    try simp only [Act.put, List.setIfInBounds_toArray, List.set_cons_zero, List.set_cons_succ]
    refine readyM (i := 7) (o := ⟨some 24, .call { callee := .value (.func 37), args := #[.tmp 17, .tmp 23], argTypes := #[25, 28] }, 28, "unpack.go:27", #[⟨0, .data⟩, ⟨6, .data⟩, ⟨6, .chain⟩], none⟩) rfl (by kernel_rfl) ?_
    intro u3 hg3 hS3 K hK
    have B3 : Hid (Below y1.heap.size y1 u3 ∧ Below u2.heap.size u2 u3) := ⟨hS3.2.2.2.2.2.out, hg3⟩
    have HCN : Hid (Calls Tryz.prog 37 #[(.agg #[.slice v.no h.node.length v.nc, .slice v.uo h.upF.length v.uc, .slice v.ul h.up.length v.ulc, .slice v.wo h.dnF.length v.wc, .slice v.dl h.dn.length v.dlc]), .slice ao (alR h tl F).length ac] u3 fun e w' => ∃ no nc, e = .returned (.slice no (ndR h (alR h tl F)).length nc) ∧ GrI u3 w' (.slice no (ndR h (alR h tl F)).length nc) (ndR h (alR h tl F))) := unodes_calls v h ao ac (alR h tl F) u3 (HX.out u3 (H1.out u3 B3.out.1).2).2.2.2 ((ints_ownU G2.out.own).keep B3.out.2) (alR_all HC.out.1 HC.out.2.2.2 HC.out.2.2.1) (Nat.le_trans HNL.out (by decide))
    clear hS3 hg3
    go_simp
    refine HCN.out.mono ?_
    rintro e u4 ⟨no, nc, rfl, hg4⟩
    have G4 : Hid (GrI w u4 (.slice no (ndR h (alR h tl F)).length nc) (ndR h (alR h tl F)) ∧ Below y1.heap.size y1 u4) := ⟨⟨own_lowU hg4.own ((HX.out u3 (H1.out u3 B3.out.1).2).2.2.1).size, (HX.out u4 (H1.out u4 (btrU B3.out.1 hg4.bel)).2).2.2.1⟩, btrU B3.out.1 hg4.bel⟩
    clear hg4
    go_wp2_with fail
    refine hK.out _ _ (HSS.out _ G4.out.2) ?_
    clear hK K
    try simp only [Act.put, List.setIfInBounds_toArray, List.set_cons_zero, List.set_cons_succ]
    refine wpAnyM_take (i := 8) (oi := ⟨some 4, .assign (.tmp 24), 28, "unpack.go:27", #[⟨7, .data⟩, ⟨7, .chain⟩, ⟨0, .phase⟩, ⟨1, .phase⟩, ⟨2, .phase⟩, ⟨3, .phase⟩, ⟨4, .phase⟩, ⟨5, .phase⟩, ⟨6, .phase⟩, ⟨7, .phase⟩], none⟩) (v := ?vc8) rfl (by kernel_rfl) (by kernel_rfl) (by kernel_rfl) (fun _ _ _ h => h) (YieldsM.of_if (Or.inl ⟨by rfl, ?hc8⟩)) ?rc8
    case hc8 => ((intro wz hSw; (try dsimp only at hSw); go_simp); try (with_reducible rfl))
    try simp only [Act.put, List.setIfInBounds_toArray, List.set_cons_zero, List.set_cons_succ]
    refine wpAnyM_take (i := 9) (oi := ⟨some 5, .assign (.const .nilIface), 30, "unpack.go:27", #[⟨8, .chain⟩, ⟨0, .phase⟩, ⟨1, .phase⟩, ⟨2, .phase⟩, ⟨3, .phase⟩, ⟨4, .phase⟩, ⟨5, .phase⟩, ⟨6, .phase⟩, ⟨7, .phase⟩, ⟨8, .phase⟩], none⟩) (v := ?vc9) rfl (by kernel_rfl) (by kernel_rfl) (by kernel_rfl) (fun _ _ _ h => h) (YieldsM.of_if (Or.inl ⟨by rfl, ?hc9⟩)) ?rc9
    case hc9 => ((intro wz hSw; (try dsimp only at hSw); go_simp); try (with_reducible rfl))
    try simp only [Act.put, List.setIfInBounds_toArray, List.set_cons_zero, List.set_cons_succ]
    refine wpAnyM_done (by kernel_rfl) ?_ _
    intro u6 hg6 hS6
    have G6 : Hid (GrI w u6 (.slice no (ndR h (alR h tl F)).length nc) (ndR h (alR h tl F))) := G4.out.1.up hg6
    clear hS6 hg6 G4 B3 HCN G2 B1
    go_wp2
    go_ret2
    rw [HNN.out.1, HNN.out.2]
    exact ⟨no, nc, _, rfl, Or.inl ⟨rfl, rfl⟩, G6.out⟩
  · obtain ⟨tt, xx, hu1, _⟩ := isTold_some ht he
    subst hu1
    have HEE : Hid (lkN h i = [] ∧ IsTold y1 (lkE h i) (.iface tt xx) ∧ Below w.heap.size w y1) := ⟨lkN_bad he, ht, (HX.out y1 hg.bel).2.2.1⟩
    clear ht hg he c0 c1 c2 c3 c4 l0
    generalize lkL h i = F at *
    go_wp2
    go_ret2
    exact LkA.bad HEE.out.1 HEE.out.2.1 HEE.out.2.2
end Go.Proofs.YtodilocmfdeehaaGreatDoor.Hi
