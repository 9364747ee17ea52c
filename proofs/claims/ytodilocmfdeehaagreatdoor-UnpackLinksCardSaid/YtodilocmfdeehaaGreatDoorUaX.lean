/- unpack: the plain links for which links stand: plain mathematics. unpack's at and isPlain (after HrU's link_calls). slices.BinarySearch of words, unpack's standsAt, tail and head. rows of whole numbers of one's own (the first part of RefBu). What walk.Simple makes of a list, and what its map knows. walk.Simple, whatever the list: what simpS makes of it, in memory of its own. walk.Back and viaductref09.Back: the list turned about, in memory of its own. walk.Back and viaductref09.Back: the list turned about, in memory of its own. unpack's lay: the plain links for which links stand, or too many. unpack's lay, walked. unpack's standsAt, tail and head. unpack's along and nodes. unpack's Links, Count and Nodes, whatever they are handed. unpack's Count and Nodes, whatever they are handed. (genuh.py) viaductref10.number: the number of a child in what is turned about. viaductref10.turned and Turn: a hierarchy turned about, by the reference. (genho.py) viaductref10.Arcs: all links as arcs between ranks, in their order. viaductref22.DocLinks, whatever it is handed. (genui.py) viaductref22.DocNodes, whatever it is handed. (genuj.py) -/
import Derived.Test.YtodilocmfdeehaaGreatDoorHrU
import Derived.Test.YtodilocmfdeehaaGreatDoorInts
import Derived.Deep.AppendLies
import Derived.Deep.RegionLaw
import Derived.OwnWalk
import Derived.Maps.OwnSet
import Derived.Maps.Views
import Derived.WalkKit
import Derived.Maps.OwnOps
import Derived.Shelf.Slices.Reverse
import Derived.Lib.SliceRun
import Derived.Test.YtodilocmfdeehaaGreatDoorHrJ
import Derived.BigQuiet
import Derived.Test.YtodilocmfdeehaaGreatDoorHdM
import Derived.Test.YtodilocmfdeehaaGreatDoorHtA
import Derived.Test.YtodilocmfdeehaaGreatDoorHsB
import Derived.Test.YtodilocmfdeehaaGreatDoorHdC
import Derived.Test.YtodilocmfdeehaaGreatDoorHdH
namespace Go.Proofs.YtodilocmfdeehaaGreatDoor.Hi

def lkO (h : Hr) (i : Nat) : Sd := sd (stds h) i
/-- is the link of a number plain? -/
def plO (h : Hr) (i : Nat) : Bool := (lkO h i).lk.plain
/-- the plain links for which the link of a number stands, so far down as f goes. -/
def flat (h : Hr) : Nat → Nat → List Nat
  | 0, i => [i]
  | f + 1, i => if plO h i then [i] else flat h f (lkO h i).lk.lf ++ flat h f (lkO h i).lk.rt
/-- how many links come up on the way. -/
def szF (h : Hr) : Nat → Nat → Nat
  | 0, _ => 1
  | f + 1, i => if plO h i then 1 else 1 + szF h f (lkO h i).lk.lf + szF h f (lkO h i).lk.rt
def flatI (h : Hr) (i : Nat) : List Nat := flat h ((lkO h i).rk + 1) i
def szI (h : Hr) (i : Nat) : Nat := szF h ((lkO h i).rk + 1) i
theorem rk_min {s : Sd} (h : s.rk < s.lk.hd) : (s.rk = s.tail ∧ s.tail < s.head) ∨ (s.rk = s.head ∧ s.head < s.tail) := by
  unfold Sd.tail Sd.head
  cases s.up
  · exact Or.inr ⟨rfl, h⟩
  · exact Or.inl ⟨rfl, h⟩
/-- a shortcut's children are numbers of links and stand below it. -/
theorem kidsU {h : Hr} (hc : chk h = (0, [])) {i : Nat} (hi : i < (stds h).length) (hp : plO h i = false) :
    (lkO h i).lk.lf < (stds h).length ∧ (lkO h i).lk.rt < (stds h).length ∧ (lkO h (lkO h i).lk.lf).rk < (lkO h i).rk ∧ (lkO h (lkO h i).lk.rt).rk < (lkO h i).rk := by
  have g := falls hc hi hp
  have k := link_ok hc hi
  have k1 := link_ok hc g.l1
  have k2 := link_ok hc g.l2
  have e1 := g.t1
  have e2 := g.t2
  have e3 := g.m1
  have e4 := g.m2
  have e5 := g.m3
  have l0 := k.low
  have l1 := k1.low
  have l2 := k2.low
  have q0 := rk_min l0
  have q1 := rk_min l1
  have q2 := rk_min l2
  refine ⟨g.l1, g.l2, ?_, ?_⟩
  · show (sd (stds h) (sd (stds h) i).lk.lf).rk < (sd (stds h) i).rk
    omega
  · show (sd (stds h) (sd (stds h) i).lk.rt).rk < (sd (stds h) i).rk
    omega
theorem flat_more {h : Hr} (hc : chk h = (0, [])) : ∀ (f g i : Nat), i < (stds h).length → (lkO h i).rk < f → (lkO h i).rk < g → flat h f i = flat h g i ∧ szF h f i = szF h g i
  | 0, _, _, _, h1, _ => absurd h1 (by omega)
  | _ + 1, 0, _, _, _, h2 => absurd h2 (by omega)
  | f + 1, g + 1, i, hi, h1, h2 => by
    unfold flat szF
    cases hp : plO h i with
    | true => simp
    | false =>
      obtain ⟨k1, k2, k3, k4⟩ := kidsU hc hi hp
      obtain ⟨a1, a2⟩ := flat_more hc f g (lkO h i).lk.lf k1 (by omega) (by omega)
      obtain ⟨b1, b2⟩ := flat_more hc f g (lkO h i).lk.rt k2 (by omega) (by omega)
      simp only [Bool.false_eq_true, if_false]
      rw [a1, a2, b1, b2]
      exact ⟨rfl, rfl⟩
theorem flatI_plain {h : Hr} {i : Nat} (hp : plO h i = true) : flatI h i = [i] ∧ szI h i = 1 := by
  unfold flatI szI flat szF
  rw [if_pos hp, if_pos hp]
  exact ⟨rfl, rfl⟩
theorem flatI_cut {h : Hr} (hc : chk h = (0, [])) {i : Nat} (hi : i < (stds h).length) (hp : plO h i = false) :
    flatI h i = flatI h (lkO h i).lk.lf ++ flatI h (lkO h i).lk.rt ∧ szI h i = 1 + szI h (lkO h i).lk.lf + szI h (lkO h i).lk.rt := by
  obtain ⟨k1, k2, k3, k4⟩ := kidsU hc hi hp
  obtain ⟨a1, a2⟩ := flat_more hc (lkO h i).rk ((lkO h (lkO h i).lk.lf).rk + 1) (lkO h i).lk.lf k1 k3 (by omega)
  obtain ⟨b1, b2⟩ := flat_more hc (lkO h i).rk ((lkO h (lkO h i).lk.rt).rk + 1) (lkO h i).lk.rt k2 k4 (by omega)
  refine ⟨?_, ?_⟩
  · show flat h ((lkO h i).rk + 1) i = _
    rw [flat, if_neg (by rw [hp]; decide), a1, b1]
    rfl
  · show szF h ((lkO h i).rk + 1) i = _
    rw [szF, if_neg (by rw [hp]; decide), a2, b2]
    rfl
theorem szI_pos (h : Hr) (i : Nat) : 0 < szI h i := by
  unfold szI szF
  split <;> omega
/-- what several links stand for. -/
def layL (h : Hr) (L : List Nat) : List Nat := L.flatMap (flatI h)
theorem layL_cons (h : Hr) (i : Nat) (L : List Nat) : layL h (i :: L) = flatI h i ++ layL h L := by unfold layL; rw [List.flatMap_cons]
theorem layL_append (h : Hr) (L M : List Nat) : layL h (L ++ M) = layL h L ++ layL h M := by unfold layL; rw [List.flatMap_append]
def sumZ (h : Hr) (L : List Nat) : Nat := (L.map (szI h)).sum
theorem sumZ_append (h : Hr) (L M : List Nat) : sumZ h (L ++ M) = sumZ h L + sumZ h M := by unfold sumZ; rw [List.map_append, List.sum_append]
theorem sumZ_one (h : Hr) (i : Nat) : sumZ h [i] = szI h i := by simp [sumZ]
/-- what still waits, the next one last: numbers of links, each the lower the higher up it stands. -/
structure Waits (h : Hr) (B : Nat) (W : List Nat) : Prop where
  lt : ∀ i ∈ W, i < (stds h).length
  low : ∀ p i : Nat, W[p]? = some i → p + (lkO h i).rk ≤ B
theorem Waits.len {h : Hr} {B : Nat} {W : List Nat} (g : Waits h B W) : W.length ≤ B + 1 := by
  rcases Nat.eq_zero_or_pos W.length with e | e
  · omega
  · have := g.low (W.length - 1) _ (List.getElem?_eq_getElem (by omega))
    omega
theorem Waits.pop {h : Hr} {B : Nat} {W : List Nat} {i : Nat} (g : Waits h B (W ++ [i])) : Waits h B W ∧ i < (stds h).length ∧ W.length + (lkO h i).rk ≤ B :=
  ⟨⟨fun j hj => g.lt j (by simp [hj]), fun p j hj => g.low p j (by rw [List.getElem?_append_left (List.getElem?_eq_some_iff.1 hj).1]; exact hj)⟩, g.lt i (by simp), g.low W.length i (by simp)⟩
theorem Waits.push {h : Hr} {B : Nat} {W : List Nat} {i a b : Nat} (g : Waits h B W) (hi : W.length + (lkO h i).rk ≤ B) (ha : a < (stds h).length) (hb : b < (stds h).length) (la : (lkO h a).rk < (lkO h i).rk) (lb : (lkO h b).rk < (lkO h i).rk) : Waits h B (W ++ [a, b]) := by
  refine ⟨fun j hj => ?_, fun p j hj => ?_⟩
  · simp only [List.mem_append, List.mem_cons, List.not_mem_nil, or_false] at hj
    rcases hj with hj | rfl | rfl
    · exact g.lt j hj
    · exact ha
    · exact hb
  · rcases Nat.lt_or_ge p W.length with hp | hp
    · rw [List.getElem?_append_left hp] at hj
      exact g.low p j hj
    · rw [List.getElem?_append_right hp] at hj
      rcases (show p - W.length = 0 ∨ p - W.length = 1 ∨ 2 ≤ p - W.length by omega) with e | e | e
      · rw [e] at hj
        simp at hj
        subst hj
        omega
      · rw [e] at hj
        simp at hj
        subst hj
        omega
      · rw [List.getElem?_eq_none (by simp; omega)] at hj
        cases hj
theorem Waits.back {h : Hr} (hc : chk h = (0, [])) {L : List Nat} (hl : ∀ i ∈ L, i < (stds h).length) : Waits h (L.length + 65536) L.reverse := by
  refine ⟨fun i hi => hl i (List.mem_reverse.1 hi), fun p i hp => ?_⟩
  have h1 := (List.getElem?_eq_some_iff.1 hp).1
  rw [List.length_reverse] at h1
  have hi : i < (stds h).length := hl i (List.mem_reverse.1 (List.mem_of_getElem? hp))
  have k := link_ok hc hi
  have k2 := (chk_ok hc).1
  have k3 := k.low
  have k4 := k.high
  show p + (sd (stds h) i).rk ≤ _
  omega
/-- one step: the next link is plain. -/
theorem lay_plain {h : Hr} {P W T : List Nat} {i : Nat} (e : P ++ layL h (W ++ [i]).reverse = T) (hp : plO h i = true) : (P ++ [i]) ++ layL h W.reverse = T ∧ sumZ h W < sumZ h (W ++ [i]) := by
  obtain ⟨f1, f2⟩ := flatI_plain hp
  refine ⟨?_, ?_⟩
  · rw [← e, List.reverse_append, List.reverse_singleton, List.singleton_append, layL_cons, f1, List.append_assoc]
  · rw [sumZ_append, sumZ_one, f2]
    omega
/-- one step: the next link is a shortcut. -/
theorem lay_cut {h : Hr} (hc : chk h = (0, [])) {P W T : List Nat} {i : Nat} (hi : i < (stds h).length) (e : P ++ layL h (W ++ [i]).reverse = T) (hp : plO h i = false) : P ++ layL h (W ++ [(lkO h i).lk.rt, (lkO h i).lk.lf]).reverse = T ∧ sumZ h (W ++ [(lkO h i).lk.rt, (lkO h i).lk.lf]) < sumZ h (W ++ [i]) := by
  obtain ⟨f1, f2⟩ := flatI_cut hc hi hp
  refine ⟨?_, ?_⟩
  · rw [← e, List.reverse_append, List.reverse_append, List.reverse_singleton, List.singleton_append, layL_cons, f1]
    show P ++ layL h ([(lkO h i).lk.lf, (lkO h i).lk.rt] ++ W.reverse) = _
    rw [List.cons_append, List.singleton_append, layL_cons, layL_cons, List.append_assoc]
  · rw [sumZ_append, sumZ_append, sumZ_one, f2]
    unfold sumZ
    simp only [List.map_cons, List.map_nil, List.sum_cons, List.sum_nil]
    omega
/-- where what a link stands for begins and ends: a walk from its tail to its head. -/
def Chain (h : Hr) : Nat → Nat → List Nat → Prop
  | a, b, [] => a = b
  | a, b, i :: L => i < (stds h).length ∧ plO h i = true ∧ (lkO h i).tail = a ∧ Chain h (lkO h i).head b L
theorem Chain.append {h : Hr} : ∀ {a b c : Nat} {L M : List Nat}, Chain h a b L → Chain h b c M → Chain h a c (L ++ M)
  | _, _, _, [], _, h1, h2 => by
    have e : _ = _ := h1
    subst e
    exact h2
  | _, _, _, _ :: L, _, ⟨k1, k2, k3, k4⟩, h2 => ⟨k1, k2, k3, Chain.append k4 h2⟩
theorem flat_chain {h : Hr} (hc : chk h = (0, [])) : ∀ (f i : Nat), i < (stds h).length → (lkO h i).rk < f → Chain h (lkO h i).tail (lkO h i).head (flat h f i) ∧ flat h f i ≠ []
  | 0, _, _, h1 => absurd h1 (by omega)
  | f + 1, i, hi, h1 => by
    cases hp : plO h i with
    | true =>
      unfold flat
      rw [if_pos hp]
      exact ⟨⟨hi, hp, rfl, rfl⟩, by simp⟩
    | false =>
      obtain ⟨k1, k2, k3, k4⟩ := kidsU hc hi hp
      have g := falls hc hi hp
      obtain ⟨c1, n1⟩ := flat_chain hc f (lkO h i).lk.lf k1 (by omega)
      obtain ⟨c2, _⟩ := flat_chain hc f (lkO h i).lk.rt k2 (by omega)
      unfold flat
      rw [if_neg (by rw [hp]; decide)]
      have e1 : (lkO h (lkO h i).lk.lf).tail = (lkO h i).tail := g.t1
      have e2 : (lkO h (lkO h i).lk.rt).head = (lkO h i).head := g.t2
      have e3 : (lkO h (lkO h i).lk.lf).head = (lkO h (lkO h i).lk.rt).tail := g.m1
      rw [e1, e3] at c1
      rw [e2] at c2
      exact ⟨c1.append c2, by simp [n1]⟩
end Go.Proofs.YtodilocmfdeehaaGreatDoor.Hi

namespace Go.Proofs.YtodilocmfdeehaaGreatDoor.Hi
open Go.RowKit Go.Extern

attribute [local go_sem] Oper.semAt_some

theorem uat_res {W : World} {z : Nat} {l : Lk} {tmps : Array Value} (h1 : W.heap[z]? = some (.cells #[.int .u32 (l.hd : Int), .int .u64 (l.wt : Int), .int .u32 (l.lf : Int), .int .u32 (l.rt : Int)] 65)) (t4 : tmps[4]?.getD undef = .pointer (some ⟨z, 0, none⟩)) :
    (results Tryz.f60 tmps).run Tryz.prog W = .ok (lvl l) W := by
  have c0 : W.cell? ⟨z, 0, none⟩ = some (.int .u32 (l.hd : Int)) := by simp [World.cell?, h1]
  have c1 : W.cell? ⟨z, 1, none⟩ = some (.int .u64 (l.wt : Int)) := by simp [World.cell?, h1]
  have c2 : W.cell? ⟨z, 2, none⟩ = some (.int .u32 (l.lf : Int)) := by simp [World.cell?, h1]
  have c3 : W.cell? ⟨z, 3, none⟩ = some (.int .u32 (l.rt : Int)) := by simp [World.cell?, h1]
  simp [results, Tryz.results60, go_sem, t4, c0, c1, c2, c3, lvl]
set_option maxRecDepth 100000 in
set_option maxHeartbeats 2000000 in
theorem uat_calls (v : HV) (h : Hr) (i : Nat) (w : World) (hH : HasH w v h) (hb2 : h.dn.length ≤ 1152921504606846976) (hi : i < h.up.length + h.dn.length) :
    Calls Tryz.prog 60 #[hvl v h, .int .i64 (i : Int)] w fun e w' => e = .returned (lvl (linkAt h i)) ∧ Below w.heap.size w w' := by
  obtain ⟨z, hz⟩ : ∃ z, w.heap.size = z := ⟨_, rfl⟩
  obtain ⟨W0, hW0⟩ : ∃ W0, (w.alloc (.cells (cellsH v h) 25)).alloc (.cells #[.int .u32 0, .int .u64 0, .int .u32 0, .int .u32 0] 65) = W0 := ⟨_, rfl⟩
  have hB0 : Below w.heap.size w W0 := by rw [← hW0]; exact ((Below.refl _ w).alloc (Nat.le_refl _) _).alloc (by simp) _
  have h0 : W0.heap[z]? = some (.cells (cellsH v h) 25) := by
    rw [← hW0, ← hz]; exact (Below.heap_alloc _ _ _ (by simp)).trans (heap_newW _ _)
  have h1 : W0.heap[z + 1]? = some (.cells #[.int .u32 0, .int .u64 0, .int .u32 0, .int .u32 0] 65) := by
    have g := heap_newW (w.alloc (.cells (cellsH v h) 25)) (.cells #[.int .u32 0, .int .u64 0, .int .u32 0, .int .u32 0] 65)
    rw [World.size_alloc, hW0, hz] at g
    exact g
  have HW0 : Hid ((w.alloc (.cells (cellsH v h) 25)).alloc (.cells #[.int .u32 0, .int .u64 0, .int .u32 0, .int .u32 0] 65) = W0) := hW0
  have HH : Hid (HasH W0 v h ∧ Below w.heap.size w W0) := ⟨hH.keep hB0, hB0⟩
  have H1 : Hid (W0.heap[z + 1]? = some (.cells #[.int .u32 0, .int .u64 0, .int .u32 0, .int .u32 0] 65)) := h1
  obtain ⟨c0, c1, c2, c3, c4⟩ := five_cells h0
  clear hW0 h0 hB0 hH h1
  unfold hvl
  unfold cellsH at HW0
  go_enter Tryz.func60, Tryz.ntmps60
  go_upto_region 1 with fail
  rw [HW0.out]
  have f0 : W0.heap[z + 1]? = some (.cells #[.int .u32 0, .int .u64 0, .int .u32 0, .int .u32 0] 65) := H1.out
  have e0 : W0.cell? ⟨z + 1, 0, none⟩ = some (.int .u32 0) := by simp [World.cell?, f0]
  have e1 : W0.cell? ⟨z + 1, 1, none⟩ = some (.int .u64 0) := by simp [World.cell?, f0]
  have e2 : W0.cell? ⟨z + 1, 2, none⟩ = some (.int .u32 0) := by simp [World.cell?, f0]
  have e3 : W0.cell? ⟨z + 1, 3, none⟩ = some (.int .u32 0) := by simp [World.cell?, f0]
  have z0 : W0.frozen? ⟨z + 1, 0, none⟩ = false := by simp [World.frozen?, f0]
  have z1 : W0.frozen? ⟨z + 1, 1, none⟩ = false := by simp [World.frozen?, f0]
  have z2 : W0.frozen? ⟨z + 1, 2, none⟩ = false := by simp [World.frozen?, f0]
  have z3 : W0.frozen? ⟨z + 1, 3, none⟩ = false := by simp [World.frozen?, f0]
  clear f0
  by_cases hlt : i < h.up.length
  · have d1 : decide ((i : Int) < (h.up.length : Int)) = true := by simp; omega
    obtain ⟨l, hl⟩ : ∃ l, h.up[i]? = some l := ⟨h.up[i], List.getElem?_eq_getElem hlt⟩
    have HL : Hid (linkAt h i = l) := by show _ = _; unfold linkAt; rw [List.getD_eq_getElem?_getD, List.getElem?_append_left hlt, hl]; rfl
    obtain ⟨hok, b, off, hbo, hbl, q0, q1, q2, q3⟩ := HH.out.1.up.at hl
    rw [hbo] at c2
    clear hok hl
    go_wp2
    have hS := set_four H1.out (.int .u32 (l.hd : Int)) (.int .u64 (l.wt : Int)) (.int .u32 (l.lf : Int)) (.int .u32 (l.rt : Int))
    refine bodyPost_ret (uat_res hS rfl) rfl ⟨by rw [HL.out], ?_⟩
    exact (((HH.out.2.setCell (by rw [hz]; exact Nat.le_succ _) _).setCell (by rw [hz]; exact Nat.le_succ _) _).setCell (by rw [hz]; exact Nat.le_succ _) _).setCell (by rw [hz]; exact Nat.le_succ _) _
  · have d1 : decide ((i : Int) < (h.up.length : Int)) = false := by simp; omega
    obtain ⟨k, hk⟩ : ∃ k, i = h.up.length + k := ⟨i - h.up.length, by omega⟩
    subst hk
    obtain ⟨l, hl⟩ : ∃ l, h.dn[k]? = some l := ⟨h.dn[k], List.getElem?_eq_getElem (by omega)⟩
    have HL : Hid (linkAt h (h.up.length + k) = l) := by show _ = _; unfold linkAt; rw [List.getD_eq_getElem?_getD, List.getElem?_append_right (by omega), Nat.add_sub_cancel_left, hl]; rfl
    obtain ⟨hok, b, off, hbo, hbl, q0, q1, q2, q3⟩ := HH.out.1.dn.at hl
    rw [hbo] at c4
    have hw : IntKind.i64.wrap (((h.up.length + k : Nat) : Int) - (h.up.length : Int)) = (k : Int) := by rw [IntKind.wrap_i64]; omega
    have k1 : (k : Int) < (h.dn.length : Int) := by omega
    have k2 : (0 : Int) ≤ (k : Int) := by omega
    clear hok hl
    go_wp2
    have hS := set_four H1.out (.int .u32 (l.hd : Int)) (.int .u64 (l.wt : Int)) (.int .u32 (l.lf : Int)) (.int .u32 (l.rt : Int))
    refine bodyPost_ret (uat_res hS rfl) rfl ⟨by rw [HL.out], ?_⟩
    exact (((HH.out.2.setCell (by rw [hz]; exact Nat.le_succ _) _).setCell (by rw [hz]; exact Nat.le_succ _) _).setCell (by rw [hz]; exact Nat.le_succ _) _).setCell (by rw [hz]; exact Nat.le_succ _) _

set_option maxRecDepth 100000 in
theorem uplain_calls (l : Lk) (w : World) : Calls Tryz.prog 61 #[lvl l] w fun e w' => e = .returned (.bool l.plain) ∧ Below w.heap.size w w' := by
  obtain ⟨hd, wt, lf, rt⟩ := l
  unfold lvl Lk.plain noLink
  dsimp only
  by_cases h1 : lf = 4294967295
  · subst h1
    by_cases h2 : rt = 4294967295
    · subst h2
      go_enter Tryz.func61, Tryz.ntmps61
      go_wp2
      go_ret
      exact ⟨rfl, (Below.refl _ _).alloc (Nat.le_refl _) _⟩
    · have g2 : ((rt : Int) == 4294967295) = false := by simp; omega
      have g3 : (rt == 4294967295) = false := by simp [h2]
      go_enter Tryz.func61, Tryz.ntmps61
      go_wp2
      go_ret
      exact ⟨by rw [g3]; rfl, (Below.refl _ _).alloc (Nat.le_refl _) _⟩
  · have g2 : ((lf : Int) == 4294967295) = false := by simp; omega
    have g3 : (lf == 4294967295) = false := by simp [h1]
    go_enter Tryz.func61, Tryz.ntmps61
    go_wp2
    go_ret
    exact ⟨by rw [g3]; rfl, (Below.refl _ _).alloc (Nat.le_refl _) _⟩
end Go.Proofs.YtodilocmfdeehaaGreatDoor.Hi

namespace Go.Proofs.YtodilocmfdeehaaGreatDoor.Hi
open Go.RowKit Go.Extern

attribute [local go_sem] Oper.semAt_some

/-- how many numbers at the front of a list that rises are below x. -/
def below32 (l : List Nat) (x : Nat) : Nat := l.countP (· < x)
theorem below32_le (l : List Nat) (x : Nat) : below32 l x ≤ l.length := List.countP_le_length
theorem below32_split {l : List Nat} {x : Nat} (hs : l.Pairwise (· ≤ ·)) : ∀ j a, l[j]? = some a → (j < below32 l x ↔ a < x) := by
  induction l with
  | nil => intro j a h; simp at h
  | cons b r ih =>
    intro j a h
    obtain ⟨h1, h2⟩ := List.pairwise_cons.1 hs
    unfold below32 at ih ⊢
    by_cases hb : b < x
    · rw [List.countP_cons_of_pos (by simpa using hb)]
      cases j with
      | zero =>
        simp at h
        subst h
        simp [hb]
      | succ j =>
        simp at h
        rw [← ih h2 j a h]
        omega
    · rw [List.countP_cons_of_neg (by simpa using hb)]
      have h0 : r.countP (· < x) = 0 := by
        rw [List.countP_eq_zero]
        intro c hc
        have := h1 c hc
        simp
        omega
      rw [h0]
      cases j with
      | zero =>
        simp at h
        subst h
        omega
      | succ j =>
        simp at h
        have := h1 a (List.mem_of_getElem? h)
        omega
theorem below32_at {l : List Nat} {x i : Nat} (hi : i ≤ l.length) (h1 : ∀ t a, t < i → l[t]? = some a → a < x) (h2 : ∀ t a, i ≤ t → l[t]? = some a → x ≤ a) : below32 l x = i := by
  have e := List.take_append_drop i l
  unfold below32
  rw [← e, List.countP_append]
  have c1 : (l.take i).countP (fun a => decide (a < x)) = (l.take i).length := by
    rw [List.countP_eq_length]
    intro a ha
    obtain ⟨t, ht⟩ := List.getElem?_of_mem ha
    have hlt := (List.getElem?_eq_some_iff.1 ht).1
    rw [List.length_take] at hlt
    rw [List.getElem?_take_of_lt (by omega)] at ht
    exact decide_eq_true (h1 t a (by omega) ht)
  have c2 : (l.drop i).countP (fun a => decide (a < x)) = 0 := by
    rw [List.countP_eq_zero]
    intro a ha
    obtain ⟨t, ht⟩ := List.getElem?_of_mem ha
    rw [List.getElem?_drop] at ht
    have := h2 (i + t) a (by omega) ht
    simp
    omega
  rw [c1, c2, List.length_take]
  omega
theorem pair_le {l : List Nat} (hs : l.Pairwise (· ≤ ·)) {i j a b : Nat} (hi : l[i]? = some a) (hj : l[j]? = some b) (hij : i < j) : a ≤ b := by
  obtain ⟨h1, e1⟩ := List.getElem?_eq_some_iff.1 hi
  obtain ⟨h2, e2⟩ := List.getElem?_eq_some_iff.1 hj
  rw [← e1, ← e2]
  exact List.pairwise_iff_getElem.1 hs i j h1 h2 hij
theorem ws_get {w : World} {ao : Option Addr} {n cap : Nat} {l : List Nat} (h : HasWs w (.slice ao n cap) l) {j a : Nat} (hj : l[j]? = some a) : a < 4294967296 ∧ ∃ b off, ao = some ⟨b, off, none⟩ ∧ b < w.heap.size ∧ w.cell? ⟨b, off + j, none⟩ = some (.int .u32 (a : Int)) := by
  obtain ⟨ao', cap', e, _, hc⟩ := h
  injection e with e1 _ _
  subst e1
  exact hc j a hj
theorem cnan32_calls (a : Int) (w : World) : Calls Tryz.prog 122 #[.int .u32 a] w fun e w' => e = .returned (.bool false) ∧ w' = w := by
  go_enter Tryz.func122, Tryz.ntmps122
  go_wp2
  go_ret
  exact ⟨by simp, rfl⟩
theorem snan32_calls (a : Int) (w : World) : Calls Tryz.prog 109 #[.int .u32 a] w fun e w' => e = .returned (.bool false) ∧ w' = w := by
  go_enter Tryz.func109, Tryz.ntmps109
  go_wp2
  go_ret
  exact ⟨by simp, rfl⟩
set_option maxRecDepth 100000 in
theorem less32_calls (a b : Nat) (w : World) : Calls Tryz.prog 108 #[.int .u32 (a : Int), .int .u32 (b : Int)] w fun e w' => e = .returned (.bool (decide (a < b))) ∧ w' = w := by
  go_enter Tryz.func108, Tryz.ntmps108
  go_wp2_with fail
  refine (cnan32_calls (a : Int) w).mono ?_
  rintro e y ⟨rfl, hy⟩
  have hy' := hy.symm
  clear hy
  subst hy'
  go_wp2
  go_ret
  exact ⟨rfl, rfl⟩
set_option maxRecDepth 100000 in
set_option maxHeartbeats 4000000 in
theorem bs32_calls (ao : Option Addr) (cap : Nat) (l : List Nat) (x : Nat) (w : World) (h : HasWs w (.slice ao l.length cap) l) (hs : l.Pairwise (· ≤ ·)) (hn : l.length < 4611686018427387904) :
    Calls Tryz.prog 91 #[.slice ao l.length cap, .int .u32 (x : Int)] w fun e w' => ∃ f, e = .returned (.tuple #[.int .i64 (below32 l x : Int), .bool f]) ∧ w' = w := by
  have HL : Hid (HasWs w (.slice ao l.length cap) l ∧ l.Pairwise (· ≤ ·)) := ⟨h, hs⟩
  have HLE : Hid (∀ a wx, Calls Tryz.prog 108 #[.int .u32 ((a : Nat) : Int), .int .u32 (x : Int)] wx fun e w' => e = .returned (.bool (decide (a < x))) ∧ w' = wx) := fun a wx => less32_calls a x wx
  have HNA : Hid (∀ (a : Int) wx, Calls Tryz.prog 109 #[.int .u32 a] wx fun e w' => e = .returned (.bool false) ∧ w' = wx) := fun a wx => snan32_calls a wx
  clear h hs
  go_enter Tryz.func91, Tryz.ntmps91
  go_wp2_with fail
  go_loopw [7, 8] (fun iv jv wr => ∃ lo hi : Nat, iv = .int .i64 (lo : Int) ∧ jv = .int .i64 (hi : Int) ∧ lo ≤ hi ∧ hi ≤ l.length ∧ Hid (wr = w) ∧ (∀ t a, t < lo → l[t]? = some a → a < x) ∧ (∀ t a, hi ≤ t → l[t]? = some a → x ≤ a)) (fun iv jv _ => (intOf jv).toNat - (intOf iv).toNat)
  case atStart => exact ⟨0, l.length, rfl, rfl, Nat.zero_le _, Nat.le_refl _, by first | exact True.intro | exact rfl, fun t a ht => by omega, fun t a ht ha => by have := (List.getElem?_eq_some_iff.1 ha).1; omega⟩
  case round =>
    obtain ⟨lo, hi, rfl, rfl, hlh, hhl, HE, h1, h2⟩ := hrel
    have HI : Hid ((∀ t a, t < lo → l[t]? = some a → a < x) ∧ (∀ t a, hi ≤ t → l[t]? = some a → x ≤ a)) := ⟨h1, h2⟩
    have hE := HE.out.symm
    clear h1 h2 HE
    subst hE
    by_cases hlt : lo < hi
    · obtain ⟨m, hm⟩ : ∃ m, (lo + hi) / 2 = m := ⟨_, rfl⟩
      have hm1 : lo ≤ m ∧ m < hi := by omega
      have hm2 : ((lo : Int) + (hi : Int)) / 2 = (m : Int) := by omega
      obtain ⟨a, ha⟩ : ∃ a, l[m]? = some a := ⟨l[m]'(by omega), List.getElem?_eq_getElem _⟩
      obtain ⟨hok, b, off, rfl, bl, c0⟩ := ws_get HL.out.1 ha
      have HA : Hid (l[m]? = some a) := ha
      have i1 : (0 : Int) ≤ (m : Int) := by omega
      have i2 : (m : Int) < (l.length : Int) := by omega
      have w1 : IntKind.i64.wrap ((lo : Int) + (hi : Int)) = (lo : Int) + (hi : Int) := by rw [IntKind.wrap_i64] <;> omega
      have w2 : IntKind.i64.wrap (m : Int) = (m : Int) := by rw [IntKind.wrap_i64] <;> omega
      clear ha hok hm
      go_wp2_with fail
      refine (HLE.out a w).mono ?_
      rintro e y ⟨rfl, hy⟩
      have hy' := hy.symm
      clear hy
      subst hy'
      by_cases hax : a < x
      · have f1 : decide ((a : Int) < (x : Int)) = true := decide_eq_true (by omega)
        have f2 : decide (a < x) = true := decide_eq_true hax
        have HN : Hid (∀ t c, t < m + 1 → l[t]? = some c → c < x) := fun t c ht hta => by
          rcases Nat.lt_or_ge t m with h | h
          · have := pair_le HL.out.2 hta HA.out h
            omega
          · obtain rfl : t = m := by omega
            rw [HA.out] at hta
            cases hta
            exact hax
        go_wp2
        go_roundw
        case rel => exact ⟨m + 1, hi, by go_num, rfl, by omega, hhl, by first | exact True.intro | exact rfl, HN.out, HI.out.2⟩
        case measure => simp [intOf]; omega
      · have f1 : decide ((a : Int) < (x : Int)) = false := decide_eq_false (by omega)
        have f2 : decide (a < x) = false := decide_eq_false hax
        have HN : Hid (∀ t c, m ≤ t → l[t]? = some c → x ≤ c) := fun t c ht hta => by
          rcases Nat.lt_or_ge m t with h | h
          · have := pair_le HL.out.2 HA.out hta h
            omega
          · obtain rfl : t = m := by omega
            rw [HA.out] at hta
            cases hta
            omega
        go_wp2
        go_roundw
        case rel => exact ⟨lo, m, rfl, rfl, by omega, by omega, by first | exact True.intro | exact rfl, HI.out.1, HN.out⟩
        case measure => simp [intOf]; omega
    · obtain rfl : lo = hi := by omega
      have HLO : Hid (below32 l x = lo) := below32_at hhl HI.out.1 HI.out.2
      have q0 : decide ((lo : Int) < (lo : Int)) = false := by simp
      by_cases hlt2 : lo < l.length
      · obtain ⟨a, ha⟩ : ∃ a, l[lo]? = some a := ⟨l[lo]'hlt2, List.getElem?_eq_getElem _⟩
        obtain ⟨hok, b, off, rfl, bl, c0⟩ := ws_get HL.out.1 ha
        have l1 : (lo : Int) < (l.length : Int) := by omega
        have l2 : (0 : Int) ≤ (lo : Int) := by omega
        have l3 : decide ((lo : Int) < (l.length : Int)) = true := decide_eq_true l1
        have l4 : decide (lo < l.length) = true := decide_eq_true hlt2
        clear ha hok
        by_cases hax : a = x
        · have f1 : ((a : Int) == (x : Int)) = true := by simp; omega
          subst hax
          go_wp2
          go_ret2
          rw [HLO.out]
          exact ⟨_, rfl, rfl⟩
        · have f1 : ((a : Int) == (x : Int)) = false := by simp; omega
          go_wp2_with fail
          refine (HNA.out (a : Int) w).mono ?_
          rintro e y ⟨rfl, hy⟩
          have hy' := hy.symm
          clear hy
          subst hy'
          go_wp2
          go_ret2
          rw [HLO.out]
          exact ⟨_, rfl, rfl⟩
      · have l3 : decide ((lo : Int) < (l.length : Int)) = false := decide_eq_false (by omega)
        have l4 : decide (lo < l.length) = false := decide_eq_false hlt2
        go_wp2
        go_ret2
        rw [HLO.out]
        exact ⟨_, rfl, rfl⟩
end Go.Proofs.YtodilocmfdeehaaGreatDoor.Hi

namespace Go.Proofs.YtodilocmfdeehaaGreatDoor
open Go.RowKit Go.Extern

theorem infoJ : (Tryz.prog.info? 3).map (fun i => (i.zero, i.size, i.bytes)) = some (some (.int .i64 0), 1, 8) := by kernel_rfl
/-- numbers as cells. -/
def iv (l : List Int) : List Value := l.map (Value.int .i64)
theorem iv_len (l : List Int) : (iv l).length = l.length * 1 := by simp [iv]
theorem iv_append (l r : List Int) : iv (l ++ r) = iv l ++ iv r := by simp [iv]
theorem iown_keep {w w' : World} {B n : Nat} {v : Value} {xs : List Value} (h : w.ownsRow B 3 1 v n xs) (hk : ∀ k, v.ownBlock = some k → w'.heap[k]? = w.heap[k]?) : w'.ownsRow B 3 1 v n xs := by
  obtain ⟨h1, h2⟩ := h
  refine ⟨h1, ?_⟩
  rcases h2 with h2 | ⟨g, cap, cur, e, hb, hh, r⟩
  · exact Or.inl h2
  · subst e
    exact Or.inr ⟨g, cap, cur, rfl, hb, (hk g rfl).trans hh, r⟩
theorem iown_not_box {w : World} {B n b : Nat} {v : Value} {xs : List Value} {c : Array Value} {T : TypeId} (h : w.ownsRow B 3 1 v n xs) (hb : w.heap[b]? = some (.cells c T)) (hT : T ≠ 3) : v.ownBlock ≠ some b := by
  rcases h.2 with ⟨rfl, _⟩ | ⟨g, cap, cur, rfl, _, hg, _⟩
  · intro e; cases e
  · intro e
    have e' : g = b := Option.some.inj e
    subst e'
    rw [hb] at hg
    injection hg with hg
    injection hg with h1 h2
    exact hT h2
theorem iown_slice {w : World} {B n : Nat} {v : Value} {xs : List Value} (h : w.ownsRow B 3 1 v n xs) : ∃ ao cap, v = .slice ao n cap := by
  rcases h.2 with ⟨h, h'⟩ | ⟨g, cap, cur, h, _⟩
  · exact ⟨none, 0, by rw [h']; exact h⟩
  · exact ⟨_, cap, h⟩
theorem ints_of_iown {w : World} {B : Nat} {v : Value} {l : List Int} (h : w.ownsRow B 3 1 v l.length (iv l)) : HasInts w v l := by
  rcases h.2 with ⟨e, h0⟩ | ⟨g, cap, cur, rfl, hg, hh, _⟩
  · have : l = [] := List.eq_nil_of_length_eq_zero h0
    subst this
    exact ⟨none, 0, e, fun j p hj => by simp at hj⟩
  · refine ⟨_, cap, rfl, fun j a hj => ⟨g, 0, rfl, lt_of_get hh, ?_⟩⟩
    have hlt := (List.getElem?_eq_some_iff.1 hj).1
    rw [Nat.zero_add]
    exact (h.cellAt j (by omega)).trans (by simp [iv, hj])
/-- two rows that share no block. -/
def Apart (a b : Value) : Prop := ∀ k, a.ownBlock = some k → b.ownBlock ≠ some k
theorem Apart.symm {a b : Value} (h : Apart a b) : Apart b a := fun k hk e => h k e hk
end Go.Proofs.YtodilocmfdeehaaGreatDoor

namespace Go.Proofs.YtodilocmfdeehaaGreatDoor
open Go.Maps

/-- one number more: what stands behind it is cut off, or it comes to stand there. -/
def stepS (s : List Int) (v : Int) : List Int := if v ∈ s then s.take (s.idxOf v + 1) else s ++ [v]
def simpS (xs : List Int) : List Int := xs.foldl stepS []
theorem take_snoc {xs : List Int} {k : Nat} {a : Int} (h : xs[k]? = some a) : xs.take (k + 1) = xs.take k ++ [a] := by
  rw [List.take_add_one, h]
  rfl
theorem simpS_snoc {xs : List Int} {k : Nat} {a : Int} (h : xs[k]? = some a) : simpS (xs.take (k + 1)) = stepS (simpS (xs.take k)) a := by
  rw [take_snoc h]
  simp [simpS, List.foldl_append]
theorem stepS_nodup {s : List Int} (h : s.Nodup) (v : Int) : (stepS s v).Nodup := by
  unfold stepS
  split
  · exact h.sublist (List.take_sublist _ _)
  · rename_i hv
    rw [List.nodup_append]
    refine ⟨h, by simp, ?_⟩
    intro a ha b hb
    simp at hb
    subst hb
    exact fun e => hv (e ▸ ha)
theorem stepS_len (s : List Int) (v : Int) : (stepS s v).length ≤ s.length + 1 := by
  unfold stepS
  split
  · rw [List.length_take]; omega
  · simp
theorem simp_fold : ∀ (xs s : List Int), s.Nodup → (xs.foldl stepS s).Nodup ∧ (xs.foldl stepS s).length ≤ s.length + xs.length
  | [], s, h => ⟨h, by simp⟩
  | x :: r, s, h => by
    have ih := simp_fold r (stepS s x) (stepS_nodup h x)
    have := stepS_len s x
    refine ⟨ih.1, Nat.le_trans ih.2 ?_⟩
    simp only [List.length_cons]
    omega
theorem simpS_nodup (xs : List Int) : (simpS xs).Nodup := (simp_fold xs [] List.nodup_nil).1
theorem simpS_len (xs : List Int) : (simpS xs).length ≤ xs.length := by
  have := (simp_fold xs [] List.nodup_nil).2
  unfold simpS
  simpa using this
theorem simpS_sub : ∀ (xs s : List Int) (x : Int), x ∈ xs.foldl stepS s → x ∈ s ∨ x ∈ xs
  | [], s, x, h => Or.inl h
  | a :: r, s, x, h => by
    rcases simpS_sub r (stepS s a) x h with h1 | h1
    · unfold stepS at h1
      split at h1
      · exact Or.inl (List.mem_of_mem_take h1)
      · rcases List.mem_append.1 h1 with h2 | h2
        · exact Or.inl h2
        · simp at h2
          subst h2
          exact Or.inr (by simp)
    · exact Or.inr (by simp [h1])
theorem simpS_mem {xs : List Int} {x : Int} (h : x ∈ simpS xs) : x ∈ xs := by
  rcases simpS_sub xs [] x h with h1 | h1
  · cases h1
  · exact h1

/-- the key of a number. -/
abbrev ky (x : Int) : Lit := .int .i64 x
theorem ky_ne {x y : Int} (h : x ≠ y) : ky x ≠ ky y := fun e => h (by injection e)
theorem ky_key (x : Int) : WideAt.IsKeyLit (ky x) := trivial
/-- the map knows the numbers of A, each by its place in s. -/
structure MapIs (D : DataW Unit) (A s : List Int) : Prop where
  isMap : IsMap D
  has : ∀ x, Maps.has D (ky x) = decide (x ∈ A)
  place : ∀ (i : Nat) (x : Int), s[i]? = some x → x ∈ A → ∀ z, D.atKey (ky x) z = .lit (.int .i64 (i : Int))
theorem MapIs.nil : MapIs (.map []) [] [] := ⟨isMap_empty, fun x => by simp [Maps.has], fun i x h => by simp at h⟩
theorem MapIs.add {D : DataW Unit} {s : List Int} {v : Int} (h : MapIs D s s) (hv : v ∉ s) : MapIs (D.put (ky v) (.lit (.int .i64 (s.length : Int)))) (s ++ [v]) (s ++ [v]) := by
  refine ⟨h.isMap.put _ _, fun x => ?_, fun i x hi hx z => ?_⟩
  · by_cases e : x = v
    · subst e
      rw [has_put_same h.isMap (ky_key _)]
      simp
    · rw [has_put_other (ky_ne e), h.has]
      simp [e]
  · rcases Nat.lt_or_ge i s.length with hl | hl
    · rw [List.getElem?_append_left hl] at hi
      have hm : x ∈ s := List.mem_of_getElem? hi
      have hne : x ≠ v := fun e => hv (e ▸ hm)
      rw [atKey_put_other (ky_ne hne)]
      exact h.place i x hi hm z
    · rw [List.getElem?_append_right hl] at hi
      rcases Nat.eq_or_lt_of_le hl with e | e
      · subst e
        simp at hi
        subst hi
        exact atKey_put_same h.isMap (ky_key _) _ _
      · rw [List.getElem?_eq_none (by simp; omega)] at hi
        cases hi
theorem MapIs.drop {D : DataW Unit} {P R s : List Int} {x : Int} (h : MapIs D (P ++ x :: R) s) (hn : x ∉ P ++ R) : MapIs (D.del (ky x)) (P ++ R) s := by
  refine ⟨h.isMap.del _, fun y => ?_, fun i y hi hy z => ?_⟩
  · by_cases e : y = x
    · subst e
      rw [has_del_same]
      rw [decide_eq_false hn]
    · rw [has_del_other (ky_ne e), h.has]
      simp [e]
  · have e : y ≠ x := fun e => hn (e ▸ hy)
    rw [atKey_del_other (ky_ne e)]
    refine h.place i y hi ?_ z
    rcases List.mem_append.1 hy with h1 | h1
    · exact List.mem_append.2 (Or.inl h1)
    · exact List.mem_append.2 (Or.inr (by simp [h1]))
theorem MapIs.cut {D : DataW Unit} {s : List Int} {m : Nat} (h : MapIs D (s.take m) s) : MapIs D (s.take m) (s.take m) := by
  refine ⟨h.isMap, h.has, fun i x hi hx z => ?_⟩
  rw [List.getElem?_take] at hi
  split at hi
  · exact h.place i x hi hx z
  · cases hi
/-- the place of a number that stands there. -/
theorem MapIs.look {D : DataW Unit} {s : List Int} {v c : Int} (h : MapIs D s s) (hv : v ∈ s) (hc : D.atKey (ky v) (.lit (.int .i64 0)) = .lit (.int .i64 c)) : c = (s.idxOf v : Int) ∧ s.idxOf v < s.length := by
  have hl : s.idxOf v < s.length := List.idxOf_lt_length_of_mem hv
  have hi : s[s.idxOf v]? = some v := by rw [List.getElem?_eq_getElem hl, List.getElem_idxOf]
  rw [h.place _ v hi hv] at hc
  injection hc with e
  injection e with _ e2
  exact ⟨e2.symm, hl⟩
theorem nodup_parts {s : List Int} (h : s.Nodup) {m : Nat} {x : Int} (hx : s[m]? = some x) (p : Nat) (hp : p ≤ m) : x ∉ s.take p ++ s.drop (m + 1) := by
  intro hm
  have key : ∀ j : Nat, s[j]? = some x → j = m := fun j hj => by
    obtain ⟨hj1, hj2⟩ := List.getElem?_eq_some_iff.1 hj
    obtain ⟨hm1, hm2⟩ := List.getElem?_eq_some_iff.1 hx
    have e1 := List.Nodup.idxOf_getElem h j hj1
    have e2 := List.Nodup.idxOf_getElem h m hm1
    rw [hj2] at e1
    rw [hm2] at e2
    omega
  rcases List.mem_append.1 hm with h1 | h1
  · obtain ⟨j, hj⟩ := List.getElem?_of_mem h1
    rw [List.getElem?_take] at hj
    split at hj
    · have := key j hj; omega
    · cases hj
  · obtain ⟨j, hj⟩ := List.getElem?_of_mem h1
    rw [List.getElem?_drop] at hj
    have := key _ hj
    omega
end Go.Proofs.YtodilocmfdeehaaGreatDoor

namespace Go.Proofs.YtodilocmfdeehaaGreatDoor
open Go.RowKit Go.Extern Go.Maps

attribute [local go_sem] Oper.semAt_some

theorem law_ii : Keyed Tryz.prog 3 := int_keyed Tryz.underlying3
theorem zero_ii (w : World) : (zeroValue 3).run Tryz.prog w = .ok (.int .i64 0) w := by kernel_rfl
theorem Tryz.elemS : Tryz.prog.underlying 28 = some (.slice (Tryz.prog.elem 28)) := by kernel_rfl
theorem Tryz.sizeS (w : World) : (sizeOf (Tryz.prog.elem 28)).run Tryz.prog w = .ok 1 w := by kernel_rfl
theorem isl_to (b n lc i : Nat) (h : n ≤ lc) (hi : i ≤ n) (w : World) : (Instr.slice 28 (.slice (some ⟨b, 0, none⟩) n lc) none (some (.int .i64 (i : Int))) none).run Tryz.prog w = .ok (.slice (some ⟨b, 0, none⟩) i lc) w := by
  rw [run_slice_h (ht := Tryz.elemS) (h0 := by omega) (h2 := by omega), Tryz.sizeS]
  have e2 : (i : Int).toNat = i := by omega
  simp only [Result.andThen_ok, sliced, e2]
  simp [Addr.add]
theorem isl_from (b n lc i : Nat) (h : n ≤ lc) (hi : i ≤ n) : ∃ ao, (∀ w, (Instr.slice 28 (.slice (some ⟨b, 0, none⟩) n lc) (some (.int .i64 (i : Int))) none none).run Tryz.prog w = .ok (.slice ao (n - i) (lc - i)) w) ∧ (i < n → ao = some ⟨b, i, none⟩) := by
  have e2 : (i : Int).toNat = i := by omega
  refine ⟨if lc = i then some ⟨b, 0, none⟩ else (some (⟨b, 0, none⟩ : Addr)).map (·.add (i * 1)), fun w => ?_, fun hl => ?_⟩
  · rw [run_slice_l (ht := Tryz.elemS) (h0 := by omega) (h1 := by omega), Tryz.sizeS]
    simp only [Result.andThen_ok, sliced, e2]
  · rw [if_neg (by omega)]
    show some ((⟨b, 0, none⟩ : Addr).add (i * 1)) = _
    rw [Addr.add_lit, Nat.zero_add, Nat.mul_one]
/-- a row that is cut is a row. -/
theorem iown_cut {w : World} {B g n cap m : Nat} {l : List Int} (h : w.ownsRow B 3 1 (.slice (some ⟨g, 0, none⟩) n cap) n (iv l)) (hm : m ≤ n) : w.ownsRow B 3 1 (.slice (some ⟨g, 0, none⟩) m cap) m (iv (l.take m)) := by
  have hl : l.length = n := by have := h.1; simp [iv] at this; exact this
  refine ⟨by simp [iv, hl]; omega, ?_⟩
  rcases h.2 with ⟨e, _⟩ | ⟨g', cap', cur, e, hb, hh, hle, hmx, hsz, ht⟩
  · cases e
  · cases e
    refine .inr ⟨g, cap, cur, rfl, hb, hh, by omega, hmx, hsz, ?_⟩
    have e2 : cur.toList.take (m * 1) = (cur.toList.take (n * 1)).take m := by rw [List.take_take]; congr 1; omega
    rw [e2, ht]
    simp [iv, List.map_take]
theorem cell_one1 (w : World) (v : Value) : ∀ j u, [v][j]? = some u → (w.alloc (.cells #[v] 3)).cell? ((⟨w.heap.size, 0, none⟩ : Addr).add j) = some u := by
  intro j u hj
  rcases j with _ | j
  · simp at hj
    subst hj
    have hg := heap_new w (.cells #[v] 3)
    rw [Addr.add_lit]
    generalize w.alloc (.cells #[v] 3) = W at hg ⊢
    simp [World.cell?, hg]
  · simp at hj
theorem iown_alloc {w : World} {B n : Nat} {v : Value} {xs : List Value} (h : w.ownsRow B 3 1 v n xs) (o : Obj) : (w.alloc o).ownsRow B 3 1 v n xs := iown_keep h fun k hk => Below.heap_alloc _ _ _ (h.lt k hk).2
theorem iown_old {w w' : World} {M n : Nat} {v : Value} {xs : List Value} (h : w.ownsRow (M + 1) 3 1 v n xs) (hg : w.grownBy w' (some M)) : w'.ownsRow (M + 1) 3 1 v n xs := iown_keep h fun k hk => hg.block k (h.lt k hk).2 (fun e => by have h1 := (h.lt k hk).1; have := Option.some.inj e; omega)
theorem iown_base0 {w : World} {M n : Nat} {v : Value} {xs : List Value} (h : w.ownsRow (M + 1) 3 1 v n xs) : w.ownsRow M 3 1 v n xs := by
  obtain ⟨h1, h2⟩ := h
  refine ⟨h1, ?_⟩
  rcases h2 with h2 | ⟨g, cap, cur, e, hb, r⟩
  · exact Or.inl h2
  · exact Or.inr ⟨g, cap, cur, e, by omega, r⟩
theorem below_g {w wr w1 : World} {row : Option Nat} (h : Below w.heap.size w wr) (hg : wr.grownBy w1 row) (hr : ∀ k, some k = row → w.heap.size ≤ k) : Below w.heap.size w w1 :=
  h.trans ⟨hg.os, hg.tape, hg.output, hg.size, fun k hk => hg.block k (Nat.lt_of_lt_of_le hk h.size) (fun e => by have := hr k e; omega)⟩
/-- numbers as cells, by another name. -/
abbrev iv' (l : List Int) : List Value := iv l
/-- what holds at each round. -/
structure SI (w : World) (M : Nat) (s : List Int) (k : Nat) (ko : Option Addr) (kc : Nat) (wr : World) : Prop where
  row : wr.ownsRow (M + 1) 3 1 (.slice ko s.length kc) s.length (iv s)
  map : ∃ D : DataW Unit, wr.ownsMap Tryz.prog 3 (plainElem Tryz.prog 3) M k D ∧ MapIs D s s
  below : Below w.heap.size w wr
  size : M + 1 ≤ wr.heap.size

set_option maxRecDepth 100000 in
set_option maxHeartbeats 4000000 in
theorem simple_calls (lo : Option Addr) (lc : Nat) (xs : List Int) (w : World) (hl : HasInts w (.slice lo xs.length lc) xs) (hx : ∀ x ∈ xs, (Lit.int .i64 x).wf = true) (hm : xs.length * 8 ≤ 140737488351232) :
    Calls Tryz.prog 44 #[.slice lo xs.length lc] w fun e w' => ∃ so sc, e = .returned (.slice so (simpS xs).length sc) ∧ w'.ownsRow w.heap.size 3 1 (.slice so (simpS xs).length sc) (simpS xs).length (iv (simpS xs)) ∧ Below w.heap.size w w' := by
  have hmm := @run_makeMap Tryz.prog
  have HL : Hid (HasInts w (.slice lo xs.length lc) xs) := hl
  have HX : Hid (∀ x ∈ xs, (Lit.int .i64 x).wf = true) := hx
  obtain ⟨i0, hi, hz0, hz1, hz2⟩ : ∃ i, Tryz.prog.info? 3 = some i ∧ i.zero = some (.int .i64 0) ∧ i.size = 1 ∧ i.bytes = 8 := by
    have h := infoJ
    cases hi : Tryz.prog.info? 3 with
    | none => rw [hi] at h; cases h
    | some i => rw [hi] at h; simp at h; exact ⟨i, rfl, h.1, h.2.1, h.2.2⟩
  clear hl hx
  go_enter Tryz.func44, Tryz.ntmps44
  go_wp2_with fail
  have HM0 : Hid ((w.alloc (.map #[] 0)).ownsMap Tryz.prog 3 (plainElem (H := Unit) Tryz.prog 3) w.heap.size 0 (.map [])) := World.ownsMap_made _ _ _ _
  have HB0 : Hid (Below w.heap.size w (w.alloc (.map #[] 0))) := (Below.refl _ w).alloc (Nat.le_refl _) _
  have HS0 : Hid (w.heap.size + 1 ≤ (w.alloc (.map #[] 0)).heap.size) := by show _ ≤ _; simp
  generalize w.alloc (.map #[] 0) = W0 at *
  go_loopw [3, 14] (fun kv iv wr => ∃ (k : Nat) (ko : Option Addr) (kc : Nat), k ≤ xs.length ∧ iv = .int .i64 k ∧ kv = .slice ko (simpS (xs.take k)).length kc ∧ SI w w.heap.size (simpS (xs.take k)) k ko kc wr) (fun _ iv _ => xs.length - (intOf iv).toNat)
  case atStart => exact ⟨0, none, 0, Nat.zero_le _, rfl, rfl, ⟨World.ownsRow_nil _ _ _ _, ⟨_, HM0.out, MapIs.nil⟩, HB0.out, HS0.out⟩⟩
  case round =>
    obtain ⟨k, ko, kc, hk, rfl, rfl, hI⟩ := hrel
    by_cases hlt : k < xs.length
    · obtain ⟨a, ha⟩ : ∃ a, xs[k]? = some a := ⟨xs[k], List.getElem?_eq_getElem hlt⟩
      obtain ⟨b, off, hao, hbl, q0⟩ := HL.out.at ha
      subst hao
      have e0 := (hI.below.cell (p := ⟨b, off + k, none⟩) hbl).trans q0
      have hbw : b < wr.heap.size := Nat.lt_of_lt_of_le hbl hI.below.size
      have hwf : (Lit.int .i64 a).wf = true := HX.out a (List.mem_of_getElem? ha)
      have HSN : Hid (simpS (xs.take (k + 1)) = stepS (simpS (xs.take k)) a) := simpS_snoc ha
      have HND : Hid ((simpS (xs.take k)).Nodup) := simpS_nodup _
      have hsl : (simpS (xs.take k)).length ≤ k := Nat.le_trans (simpS_len _) (by rw [List.length_take]; omega)
      have HWF : Hid (∀ x ∈ simpS (xs.take k), (Lit.int .i64 x).wf = true) := fun x h => HX.out x (List.mem_of_mem_take (simpS_mem h))
      generalize simpS (xs.take k) = s at *
      have hkey : keyOf Tryz.prog 3 (.int .i64 a) = some (ky a) := keyOf_int_mk Tryz.underlying3 hwf
      obtain ⟨D, hmap, hD⟩ := hI.map
      have HI : Hid (SI w w.heap.size s k ko kc wr) := hI
      have HMP : Hid (wr.ownsMap Tryz.prog 3 (plainElem Tryz.prog 3) w.heap.size k D ∧ MapIs D s s) := ⟨hmap, hD⟩
      have i0' : (0 : Int) ≤ (k : Int) := by omega
      have i1' : (k : Int) < (xs.length : Int) := by omega
      have hhas := hD.has a
      clear q0 ha hI hmap hD
      by_cases hv : a ∈ s
      · rw [decide_eq_true hv] at hhas
        have hIr := HI.out.row
        obtain ⟨g, cap', e, hgB, hgl⟩ := hIr.form (List.length_pos_of_mem hv)
        injection e with e1 _ e3
        subst e1
        subst e3
        have hle : s.length ≤ kc := by
          rcases hIr.2 with ⟨e, _⟩ | ⟨g', c', cur, e, _, _, h, _⟩
          · cases e
          · cases e; exact h
        have HSE : Hid (simpS (xs.take (k + 1)) = s.take (s.idxOf a + 1)) := by
          have h := HSN.out
          unfold stepS at h
          rw [if_pos hv] at h
          exact h
        have hpl : s.idxOf a < s.length := List.idxOf_lt_length_of_mem hv
        have HV : Hid (a ∈ s) := hv
        have HLK : Hid (∀ c, D.atKey (ky a) (.lit (.int .i64 0)) = .lit (.int .i64 c) → c = (s.idxOf a : Int)) := fun c hc => (HMP.out.2.look HV.out hc).1
        generalize s.idxOf a = p at *
        obtain ⟨ro, hr1, hr2⟩ : ∃ ro, (∀ wx, (Instr.slice 28 (.slice (some ⟨g, 0, none⟩) s.length kc) (some (.int .i64 ((p : Int) + 1))) none none).run Tryz.prog wx = .ok (.slice ro (s.length - (p + 1)) (kc - (p + 1))) wx) ∧ (p + 1 < s.length → ro = some ⟨g, p + 1, none⟩) := by
          obtain ⟨ro, h1, h2⟩ := isl_from g s.length kc (p + 1) hle (by omega)
          exact ⟨ro, fun wx => by simpa using h1 wx, h2⟩
        have hr3 : ∀ wx, (Instr.slice 28 (.slice (some ⟨g, 0, none⟩) s.length kc) none (some (.int .i64 ((p : Int) + 1))) none).run Tryz.prog wx = .ok (.slice (some ⟨g, 0, none⟩) (p + 1) kc) wx := fun wx => by
          have h := isl_to g s.length kc (p + 1) hle (by omega) wx
          simpa using h
        have hw1 : IntKind.i64.wrap ((p : Int) + 1) = (p : Int) + 1 := by rw [IntKind.wrap_i64] <;> omega
        obtain ⟨q, hq⟩ : ∃ q, s.length - (p + 1) = q := ⟨_, rfl⟩
        have HQ : Hid (p + 1 + q = s.length) := by show _ = _; omega
        have hqb : q < 17592186043905 := by omega
        rw [hq] at hr1
        have HRO : Hid (p + 1 < s.length → ro = some ⟨g, p + 1, none⟩) := hr2
        clear hIr hr2 hq hgB hgl
        go_wp2_with (first
          | (at_lookup; refine wpList_lookup_own_ok_int _ rfl _ _ 141 rfl 3 3 .i64 law_ii Tryz.underlying141 Tryz.underlying3 (zero_ii _) w.heap.size k D rfl HMP.out.1 _ (ky a) rfl hkey ?_; intro c hat hwc; have hc := HLK.out c hat; subst hc; clear hat hwc))
        have HIN : Hid (∃ D', wr.ownsMap Tryz.prog 3 (plainElem (H := Unit) Tryz.prog 3) w.heap.size k D' ∧ MapIs D' (s.take (p + 1) ++ s.drop (p + 1 + 0)) s) := ⟨D, HMP.out.1, by rw [Nat.add_zero, List.take_append_drop]; exact HMP.out.2⟩
        generalize hW1 : wr = W1 at *
        clear hW1
        go_loopw [39] (fun iv wx => ∃ (t : Nat), t ≤ q ∧ iv = .int .i64 t ∧ wx.ownsRow (w.heap.size + 1) 3 1 (.slice (some ⟨g, 0, none⟩) s.length kc) s.length (iv' s) ∧ (∃ D', wx.ownsMap Tryz.prog 3 (plainElem (H := Unit) Tryz.prog 3) w.heap.size k D' ∧ MapIs D' (s.take (p + 1) ++ s.drop (p + 1 + t)) s) ∧ Below w.heap.size w wx ∧ w.heap.size + 1 ≤ wx.heap.size) (fun iv _ => q - (intOf iv).toNat)
        case atStart => exact ⟨0, Nat.zero_le _, rfl, HI.out.row, HIN.out, HI.out.below, HI.out.size⟩
        case round =>
          obtain ⟨t, ht, rfl, hrow, ⟨D', hown, hDp⟩, hbe, hsz⟩ := hrel
          have HB2 : Hid (Below w.heap.size w wr ∧ w.heap.size + 1 ≤ wr.heap.size) := ⟨hbe, hsz⟩
          have HRW : Hid (wr.ownsRow (w.heap.size + 1) 3 1 (.slice (some ⟨g, 0, none⟩) s.length kc) s.length (iv' s)) := hrow
          have HOW : Hid (wr.ownsMap Tryz.prog 3 (plainElem (H := Unit) Tryz.prog 3) w.heap.size k D' ∧ MapIs D' (s.take (p + 1) ++ s.drop (p + 1 + t)) s) := ⟨hown, hDp⟩
          by_cases htl : t < q
          · have hqs := HQ.out
            obtain ⟨x, hx⟩ : ∃ x, s[p + 1 + t]? = some x := ⟨s[p + 1 + t], List.getElem?_eq_getElem (by omega)⟩
            have hro := HRO.out (by omega)
            subst hro
            have c0 : wr.cell? ⟨g, p + 1 + t, none⟩ = some (.int .i64 x) := by
              rw [hrow.cellAt (p + 1 + t) (by omega)]
              show (s.map (Value.int .i64))[p + 1 + t]? = _
              rw [List.getElem?_map, hx]
              rfl
            have gl : g < wr.heap.size := (hrow.lt g rfl).2
            have hkx : keyOf Tryz.prog 3 (.int .i64 x) = some (ky x) := keyOf_int_mk Tryz.underlying3 (HWF.out x (List.mem_of_getElem? hx))
            have HDE : Hid (MapIs (D'.del (ky x)) (s.take (p + 1) ++ s.drop (p + 1 + (t + 1))) s) := by
              have e : s.drop (p + 1 + t) = x :: s.drop (p + 1 + t + 1) := by
                obtain ⟨h1, h2⟩ := List.getElem?_eq_some_iff.1 hx
                rw [List.drop_eq_getElem_cons h1, h2]
              have h := hDp
              rw [e] at h
              exact h.drop (nodup_parts HND.out hx (p + 1) (by omega))
            have t0 : (0 : Int) ≤ (t : Int) := by omega
            have t1 : (t : Int) < (q : Int) := by omega
            clear hrow hown hDp hbe hsz hx hqs
            go_wp2_with (at_delete; refine wpList_delete_own _ rfl _ _ 141 3 rfl 3 law_ii Tryz.underlying141 _ w.heap.size k D' rfl HOW.out.1 _ (ky x) rfl hkx ?_; intro w1 hown1 hturn1; have HO1 : Hid (w1.ownsMap Tryz.prog 3 (plainElem (H := Unit) Tryz.prog 3) w.heap.size k (D'.del (ky x))) := hown1; have HT1 : Hid (wr.grownBy w1 (some w.heap.size)) := hturn1.grown; clear hown1 hturn1)
            refine ⟨⟨t + 1, by omega, by go_num, iown_old HRW.out HT1.out, ⟨_, HO1.out, HDE.out⟩, below_g HB2.out.1 HT1.out (fun k e => by have := Option.some.inj e; omega), Nat.le_trans HB2.out.2 HT1.out.size⟩, by simp [intOf]; omega⟩
          · obtain rfl : t = q := by omega
            clear hrow hown hDp hbe hsz
            go_wp2
            have hqs := HQ.out
            have hpt : (s.take (p + 1)).length = p + 1 := by rw [List.length_take]; omega
            refine ⟨⟨k + 1, some ⟨g, 0, none⟩, kc, by omega, by go_num, by rw [HSE.out, hpt], ?_⟩, by simp [intOf]; omega⟩
            rw [HSE.out]
            refine ⟨?_, ⟨D', HOW.out.1.mono (Nat.le_succ _), ?_⟩, HB2.out.1, HB2.out.2⟩
            · rw [hpt]
              exact iown_cut HRW.out (by omega)
            · have h := HOW.out.2
              rw [List.drop_eq_nil_of_le (by omega), List.append_nil] at h
              exact h.cut
      · rw [decide_eq_false hv] at hhas
        have HV : Hid (a ∉ s) := hv
        have HSE : Hid (simpS (xs.take (k + 1)) = s ++ [a]) := by
          have h := HSN.out
          unfold stepS at h
          rw [if_neg hv] at h
          exact h
        have hwl : (Lit.int .i64 (s.length : Int)).wf = true := WalkArith.wf_i64 (by omega)
        go_wp2_with (first
          | (at_lookup; refine wpList_lookup_own_ok_int _ rfl _ _ 141 rfl 3 3 .i64 law_ii Tryz.underlying141 Tryz.underlying3 (zero_ii _) w.heap.size k D rfl HMP.out.1 _ (ky a) rfl hkey ?_; intro c hat hwc; clear hat hwc)
          | (at_mapUpdate; refine wpList_mapUpdate_own _ rfl _ _ _ 141 rfl 3 3 law_ii Tryz.underlying141 _ w.heap.size k D rfl HMP.out.1 (by unfold maxLen; omega) _ _ (ky a) rfl rfl hkey (.lit (.int .i64 (s.length : Int))) [] (plainElem_int Tryz.underlying3 hwl) ?_; intro w1 hown1 hgrow1; have HM1 : Hid (w1.ownsMap Tryz.prog 3 (plainElem (H := Unit) Tryz.prog 3) w.heap.size (k + 1) (D.put (ky a) (.lit (.int .i64 (s.length : Int))))) := hown1; have HG1 : Hid (wr.grownBy w1 (some w.heap.size)) := hgrow1; clear hown1 hgrow1)
          | (at_builtin; refine wpList_append_own _ rfl _ _ 28 rfl (w.heap.size + 1) 3 i0 (.int .i64 0) 1 8 Tryz.underlying28 hi hz0 hz1 hz2 rfl (by decide) (.slice ko s.length kc) s.length (iv s) rfl (iown_alloc (iown_old HI.out.row HG1.out) _) ⟨w1.heap.size, 0, none⟩ 1 1 [.int .i64 a] rfl rfl (cell_one1 _ _) (by intro x hx; simp at hx; subst hx; rfl) (by unfold maxLen; omega) (by omega) (by have h1 := HI.out.size; have h2 := HG1.out.size; simp; omega) ?_; intro v' w2 hown2 hgrow2 _; have HR2 : Hid (w2.ownsRow (w.heap.size + 1) 3 1 v' (s.length + 1) (iv s ++ [.int .i64 a])) := hown2; have HG2 : Hid ((w1.alloc (.cells #[.int .i64 a] 3)).grownBy w2 (Value.slice ko s.length kc).ownBlock) := hgrow2; clear hown2 hgrow2; obtain ⟨vo, vc, hv2⟩ := iown_slice HR2.out; subst hv2))
        refine ⟨⟨k + 1, vo, vc, by omega, by go_num, by rw [HSE.out, List.length_append]; rfl, ?_⟩, by simp [intOf]; omega⟩
        rw [HSE.out]
        have hrow : (w1.alloc (.cells #[.int .i64 a] 3)).ownsRow (w.heap.size + 1) 3 1 (.slice ko s.length kc) s.length (iv s) := iown_alloc (iown_old HI.out.row HG1.out) _
        have hnb : ∀ k, some k = (Value.slice ko s.length kc).ownBlock → w.heap.size + 1 ≤ k := fun k e => (hrow.lt k e.symm).1
        refine ⟨?_, ⟨_, (HM1.out.alloc _).kept HG2.out (fun e => by have := hnb _ e; omega), HMP.out.2.add HV.out⟩, ?_, ?_⟩
        · rw [iv_append, List.length_append]
          exact HR2.out
        · exact below_g ((below_g HI.out.below HG1.out (fun k e => by have := Option.some.inj e; omega)).alloc (by have := HG1.out.size; have := HI.out.size; omega) _) HG2.out (fun k e => by have := hnb k e; omega)
        · have h1 := HG2.out.size
          have h2 := HG1.out.size
          have h3 := HI.out.size
          simp at h1
          omega
    · obtain rfl : k = xs.length := by omega
      rw [List.take_length] at hI ⊢
      have HI : Hid (SI w w.heap.size (simpS xs) xs.length ko kc wr) := hI
      clear hI
      go_wp2
      go_ret
      exact ⟨ko, kc, rfl, iown_base0 HI.out.row, HI.out.below⟩
end Go.Proofs.YtodilocmfdeehaaGreatDoor

namespace Go.Proofs
namespace YtodilocmfdeehaaGreatDoor
open Go.RowKit Go.Extern

attribute [local go_sem] Oper.semAt_some

theorem ints_cells {w : World} {b : Nat} {off : Nat} {n cap : Nat} {xs : List Int} (h : HasInts w (.slice (some ⟨b, off, none⟩) n cap) xs) : ∀ j u, (iv xs)[j]? = some u → w.cell? ((⟨b, off, none⟩ : Addr).add j) = some u := fun j u hj => by
  unfold iv at hj
  rw [List.getElem?_map] at hj
  obtain ⟨a, ha, rfl⟩ := Option.map_eq_some_iff.1 hj
  obtain ⟨b', off', e, _, q⟩ := h.at ha
  cases e
  rw [Addr.add_lit]
  exact q
/-- a list of numbers is appended to a row of one's own. -/
theorem wpList_append_ints {w : World} {ops : Array Oper} {rest : List Oper} {o : Oper} {a : Act} {Q : Exit → Act → World → Prop} (hgd : o.guard = none) (s x : Operand)
    (ho : o.op = .call { callee := .builtin .append, args := #[s, x], argTypes := #[28, 28] })
    (base : Nat) (v : Value) (L : List Int) (hs : a.eval s = v) (hown : w.ownsRow base 3 1 v L.length (iv L))
    (b off ac : Nat) (xs : List Int) (hx : a.eval x = .slice (some ⟨b, off, none⟩) xs.length ac) (hl : HasInts w (.slice (some ⟨b, off, none⟩) xs.length ac) xs)
    (hlen : (L.length + xs.length) * 8 ≤ 140737488355328) (hbase : base ≤ w.heap.size)
    (h : ∀ v' w', w'.ownsRow base 3 1 v' (L ++ xs).length (iv (L ++ xs)) → w.grownBy w' v.ownBlock → wpList Tryz.prog ops Q rest (a.put o.dst v') w') : wpList Tryz.prog ops Q (o :: rest) a w := by
  obtain ⟨i0, hi, hz0, hz1, hz2⟩ : ∃ i, Tryz.prog.info? 3 = some i ∧ i.zero = some (.int .i64 0) ∧ i.size = 1 ∧ i.bytes = 8 := by
    have h := infoJ
    cases hi : Tryz.prog.info? 3 with
    | none => rw [hi] at h; cases h
    | some i => rw [hi] at h; simp at h; exact ⟨i, rfl, h.1, h.2.1, h.2.2⟩
  refine wpList_append_own _ hgd s x 28 ho base 3 i0 _ 1 8 Tryz.underlying28 hi hz0 hz1 hz2 rfl (by decide) v L.length (iv L) hs hown ⟨b, off, none⟩ xs.length ac (iv xs) hx (iv_len xs) (ints_cells hl) (by intro u hu; simp [iv] at hu; obtain ⟨a, _, rfl⟩ := hu; rfl) (by unfold maxLen; omega) (by omega) hbase ?_
  intro v' w' h1 h2 _
  exact h v' w' (by rw [List.length_append, iv_append]; exact h1) h2

theorem eql_nil (a : Addr) (n c : Nat) : ∀ wx, (binOp .eql 28 (.slice (some a) n c) (.slice none 0 0)).run Tryz.prog wx = .ok (.bool false) wx := fun wx => Lib.run_eql_slice_nil wx 28 3 (some a) n c 0 0 Tryz.underlying28
theorem eql_nil0 (n c : Nat) : ∀ wx, (binOp .eql 28 (.slice none n c) (.slice none 0 0)).run Tryz.prog wx = .ok (.bool true) wx := fun wx => Lib.run_eql_slice_nil wx 28 3 none n c 0 0 Tryz.underlying28
theorem own_empty (w : World) : (w.alloc (.cells #[] 3)).ownsRow w.heap.size 3 1 (.slice (some ⟨w.heap.size, 0, none⟩) 0 0) 0 (iv []) := ⟨rfl, .inr ⟨w.heap.size, 0, #[], rfl, Nat.le_refl _, heap_new _ _, Nat.le_refl _, Nat.zero_le _, rfl, rfl⟩⟩

set_option maxRecDepth 100000 in
set_option maxHeartbeats 1000000 in
theorem clone_calls (b off lc : Nat) (xs : List Int) (w : World) (hl : HasInts w (.slice (some ⟨b, off, none⟩) xs.length lc) xs) (hm : xs.length * 8 ≤ 140737488351232) :
    Calls Tryz.prog 88 #[.slice (some ⟨b, off, none⟩) xs.length lc] w fun e w' => ∃ so sc, e = .returned (.slice so xs.length sc) ∧ w'.ownsRow w.heap.size 3 1 (.slice so xs.length sc) xs.length (iv xs) ∧ Below w.heap.size w w' := by
  have HL : Hid (HasInts w (.slice (some ⟨b, off, none⟩) xs.length lc) xs) := hl
  have hnil := eql_nil ⟨b, off, none⟩ xs.length lc
  have HE : Hid (type_of% (own_empty w)) := own_empty w
  have HB : Hid (Below w.heap.size w (w.alloc (.cells #[] 3))) := (Below.refl _ w).alloc (Nat.le_refl _) _
  clear hl
  go_enter Tryz.func88, Tryz.ntmps88
  go_wp2_with (at_builtin; refine wpList_append_ints rfl _ _ rfl w.heap.size (.slice (some ⟨w.heap.size, 0, none⟩) 0 0) [] rfl HE.out b off lc xs rfl (HL.out.keep HB.out) (by simp; omega) HB.out.size ?_; intro v' w2 hown2 hgrow2; have HR2 : Hid (w2.ownsRow w.heap.size 3 1 v' xs.length (iv xs)) := hown2; have HB2 : Hid (Below w.heap.size w w2) := below_g HB.out hgrow2 (fun k e => by cases e; exact Nat.le_refl _); clear hown2 hgrow2; obtain ⟨vo, vc, hv2⟩ := iown_slice HR2.out; subst hv2)
  go_ret
  exact ⟨vo, vc, rfl, HR2.out, HB2.out⟩
set_option maxRecDepth 100000 in
theorem clone_nil (lc : Nat) (w : World) : Calls Tryz.prog 88 #[.slice none 0 lc] w fun e w' => e = .returned (.slice none 0 0) ∧ w' = w := by
  have hnil := eql_nil0 0 lc
  go_enter Tryz.func88, Tryz.ntmps88
  go_wp2
  go_ret
  exact ⟨rfl, rfl⟩
/-- Clone, whatever the list. -/
theorem clone_any (lo : Option Addr) (lc : Nat) (xs : List Int) (w : World) (hl : HasInts w (.slice lo xs.length lc) xs) (hs : ∀ a, lo = some a → a.spot = none) (hm : xs.length * 8 ≤ 140737488351232) :
    Calls Tryz.prog 88 #[.slice lo xs.length lc] w fun e w' => ∃ so sc, e = .returned (.slice so xs.length sc) ∧ w'.ownsRow w.heap.size 3 1 (.slice so xs.length sc) xs.length (iv xs) ∧ Below w.heap.size w w' := by
  cases lo with
  | none =>
    have hx : xs = [] := by
      cases xs with
      | nil => rfl
      | cons q r => obtain ⟨b, off, e, _⟩ := hl.at (k := 0) (a := q) rfl; cases e
    subst hx
    refine (clone_nil lc w).mono ?_
    rintro e w' ⟨rfl, rfl⟩
    exact ⟨none, 0, rfl, World.ownsRow_nil _ _ _ _, Below.refl _ _⟩
  | some a =>
    obtain ⟨b, off, sp⟩ := a
    obtain rfl : sp = none := hs _ rfl
    exact clone_calls b off lc xs w hl hm
end YtodilocmfdeehaaGreatDoor
open Go.Shelf in
def Tryz.rv_ren : Go.Shelf.Ren := ⟨fun | 112 => 80 | n => n, fun | 28 => 28 | n => n, fun | n => n⟩
theorem Tryz.rv : Go.Proofs.Lays.n112 Tryz.prog Tryz.rv_ren := {
  mixed := by kernel_rfl
  f112 := Tryz.func80.trans (congrArg some (by kernel_rfl))
  t0 := Tryz.underlying0
  a0 := Tryz.isAgg0
  z0 := Tryz.sizeOf0
  v0 := Tryz.zeroValue0
  t3 := Tryz.underlying3
  a3 := Tryz.isAgg3
  z3 := Tryz.sizeOf3
  v3 := Tryz.zeroValue3
  t4 := Tryz.underlying4
  a4 := Tryz.isAgg4
  z4 := Tryz.sizeOf4
  v4 := Tryz.zeroValue4
  t28 := Tryz.underlying28
  a28 := Tryz.isAgg28
  z28 := Tryz.sizeOf28
  v28 := Tryz.zeroValue28 }
namespace YtodilocmfdeehaaGreatDoor
open Go.RowKit Go.Extern Go.Sort

attribute [local go_sem] Oper.semAt_some

/-- Reverse, at a row of one's own: it is turned about. -/
theorem reverse_own (B g cap : Nat) (zs : List Int) (w : World) (h : w.ownsRow B 3 1 (.slice (some ⟨g, 0, none⟩) zs.length cap) zs.length (iv zs)) (hm : zs.length ≤ 9223372036854775807) :
    Calls Tryz.prog 80 #[.slice (some ⟨g, 0, none⟩) zs.length cap] w fun e w' => e = .returned (.tuple #[]) ∧ w'.ownsRow B 3 1 (.slice (some ⟨g, 0, none⟩) zs.length cap) zs.length (iv zs.reverse) ∧ w.grownBy w' (some g) := by
  have hH : Holds (Value.int .i64) w g 0 zs.toArray := fun j hj => by
    have hj' : j < zs.length := by simpa using hj
    refine ⟨?_, by rw [Nat.zero_add]; exact h.frozenAt j⟩
    rw [Nat.zero_add, h.cellAt j (by omega)]
    simp [iv, hj']
  have hc := Any.slices_Reverse_int Tryz.rv g 0 cap zs w hH hm
  refine hc.mono ?_
  rintro e w' ⟨he, n, rfl⟩
  refine ⟨he, ?_, ?_⟩
  · rcases h.2 with ⟨e, _⟩ | ⟨g', cap', cur, e, hb, hh, hle, hmx, hsz, ht⟩
    · cases e
    · cases e
      refine ⟨by simp [iv], .inr ⟨g, cap, putCells (Value.int .i64) 0 zs.reverse.toArray cur, rfl, hb, ?_, hle, hmx, by simp [putCells]; simpa using hsz, ?_⟩⟩
      · simp only [putRow, mapBlock, Sort.ahead, Array.getElem?_modify]
        rw [if_pos trivial, hh]
        rfl
      · apply List.ext_getElem?
        intro j
        rw [List.getElem?_take]
        by_cases hj : j < zs.length * 1
        · rw [if_pos hj]
          have hj' : j < zs.length := by omega
          have hjc : j < cur.size := by omega
          simp [putCells, iv, hjc, hj']
        · rw [if_neg hj, List.getElem?_eq_none (by simp [iv]; omega)]
  · refine ⟨rfl, rfl, rfl, by simp [putRow, mapBlock, Sort.ahead], fun k hk hne => ?_⟩
    simp only [putRow, mapBlock, Sort.ahead, Array.getElem?_modify]
    rw [if_neg (fun e => hne (by rw [e]))]
end YtodilocmfdeehaaGreatDoor
end Go.Proofs

namespace Go.Proofs.YtodilocmfdeehaaGreatDoor
open Go.RowKit Go.Extern

attribute [local go_sem] Oper.semAt_some

/-- what is answered: a list in memory of its own. -/
def LA (w : World) (ys : List Int) (e : Ending) (w' : World) : Prop := ∃ so sc, e = .returned (.slice so ys.length sc) ∧ w'.ownsRow w.heap.size 3 1 (.slice so ys.length sc) ys.length (iv ys) ∧ Below w.heap.size w w'
theorem reverse_any (B sc : Nat) (so : Option Addr) (zs : List Int) (w : World) (h : w.ownsRow B 3 1 (.slice so zs.length sc) zs.length (iv zs)) (hm : zs.length ≤ 9223372036854775807) (hB : w.heap.size ≤ w.heap.size) :
    Calls Tryz.prog 80 #[.slice so zs.length sc] w fun e w' => e = .returned (.tuple #[]) ∧ w'.ownsRow B 3 1 (.slice so zs.length sc) zs.length (iv zs.reverse) ∧ w.grownBy w' (Value.slice so zs.length sc).ownBlock := by
  rcases h.2 with ⟨e, h0⟩ | ⟨g, cap, cur, e, _⟩
  · injection e with e1 e2 e3
    subst e1
    subst e3
    have hz : zs = [] := List.eq_nil_of_length_eq_zero h0
    subst hz
    refine (Any.slices_Reverse_int_empty Tryz.rv none 0 w).mono ?_
    rintro e w' ⟨he, rfl⟩
    exact ⟨he, World.ownsRow_nil _ _ _ _, ⟨rfl, rfl, rfl, Nat.le_refl _, fun _ _ _ => rfl⟩⟩
  · injection e with e1 e2 e3
    subst e1
    subst e3
    exact reverse_own B g sc zs w h hm

set_option maxRecDepth 100000 in
set_option maxHeartbeats 1000000 in
theorem back_calls (lo : Option Addr) (lc : Nat) (xs : List Int) (w : World) (hl : HasInts w (.slice lo xs.length lc) xs) (hs : ∀ a, lo = some a → a.spot = none) (hm : xs.length * 8 ≤ 140737488351232) :
    Calls Tryz.prog 59 #[.slice lo xs.length lc] w (LA w xs.reverse) := by
  have HC : Hid (type_of% (clone_any lo lc xs w hl hs hm)) := clone_any lo lc xs w hl hs hm
  clear hl hs
  go_enter Tryz.func59, Tryz.ntmps59
  go_wp2_with fail
  refine HC.out.mono ?_
  rintro e w1 ⟨so, sc, rfl, ho, h⟩
  have H1 : Hid (w1.ownsRow w.heap.size 3 1 (.slice so xs.length sc) xs.length (iv xs) ∧ Below w.heap.size w w1) := ⟨ho, h⟩
  clear ho h
  go_wp2_with fail
  refine (reverse_any w.heap.size sc so xs w1 H1.out.1 (by omega) (Nat.le_refl _)).mono ?_
  rintro e w2 ⟨rfl, ho, hg⟩
  have H2 : Hid (w2.ownsRow w.heap.size 3 1 (.slice so xs.length sc) xs.length (iv xs.reverse) ∧ Below w.heap.size w w2) := ⟨ho, below_g H1.out.2 hg (fun k e => (H1.out.1.lt k e.symm).1)⟩
  clear ho hg
  go_wp2
  go_ret
  refine ⟨so, sc, congrArg (fun n : Nat => Ending.returned (.slice so n sc)) List.length_reverse.symm, ?_, H2.out.2⟩
  rw [List.length_reverse]
  exact H2.out.1

end Go.Proofs.YtodilocmfdeehaaGreatDoor

namespace Go.Proofs.YtodilocmfdeehaaGreatDoor.Hi
open Go.RowKit Go.Extern

attribute [local go_sem] Oper.semAt_some

/-- numbers as whole numbers. -/
def zs (L : List Nat) : List Int := L.map fun n : Nat => (n : Int)
theorem zs_len (L : List Nat) : (zs L).length = L.length := by simp [zs]
theorem zs_append (L M : List Nat) : zs (L ++ M) = zs L ++ zs M := by simp [zs]
theorem zs_take (L : List Nat) (m : Nat) : (zs L).take m = zs (L.take m) := by simp [zs, List.map_take]
theorem zs_rev (L : List Nat) : (zs L).reverse = zs L.reverse := by simp [zs]
theorem ivz_len (L : List Nat) : (iv (zs L)).length = L.length * 1 := by simp [iv, zs]
theorem ivz_one (L : List Nat) : ∀ u ∈ iv (zs L), u.oneCell' = true := by
  intro u hu
  simp only [iv, zs, List.mem_map] at hu
  obtain ⟨a, ⟨b, _, rfl⟩, rfl⟩ := hu
  rfl
theorem iown_cut {w : World} {B g n cap m : Nat} {l : List Int} (h : w.ownsRow B 3 1 (.slice (some ⟨g, 0, none⟩) n cap) n (iv l)) (hm : m ≤ n) : w.ownsRow B 3 1 (.slice (some ⟨g, 0, none⟩) m cap) m (iv (l.take m)) := by
  have hl : l.length = n := by have := h.1; rw [iv_len, Nat.mul_one, Nat.mul_one] at this; exact this
  refine ⟨by rw [iv_len, List.length_take, hl]; congr 1; omega, ?_⟩
  rcases h.2 with ⟨e, _⟩ | ⟨g', cap', cur, e, hb, hh, hle, hmx, hsz, ht⟩
  · cases e
  · cases e
    refine .inr ⟨g, cap, cur, rfl, hb, hh, by omega, hmx, hsz, ?_⟩
    have e2 : cur.toList.take (m * 1) = (cur.toList.take (n * 1)).take m := by rw [List.take_take]; congr 1; omega
    rw [e2, ht]
    simp [iv, List.map_take]
theorem iown_at {w : World} {B n : Nat} {v : Value} {L : List Nat} (h : w.ownsRow B 3 1 v n (iv (zs L))) (hn : 0 < n) : ∃ g cap, v = .slice (some ⟨g, 0, none⟩) n cap ∧ B ≤ g ∧ g < w.heap.size ∧ n ≤ cap ∧ ∀ (j a : Nat), L[j]? = some a → w.cell? ⟨g, j, none⟩ = some (.int .i64 (a : Int)) := by
  have hl : L.length = n := by have := h.1; rw [ivz_len, Nat.mul_one, Nat.mul_one] at this; exact this
  rcases h.2 with ⟨_, e⟩ | ⟨g, cap, cur, rfl, hb, hh, hle, hmx, hsz, ht⟩
  · omega
  · refine ⟨g, cap, rfl, hb, some_lt hh, hle, fun j a hj => ?_⟩
    have hlt := (List.getElem?_eq_some_iff.1 hj).1
    exact (h.cellAt j (by omega)).trans (by simp [iv, zs, hj])
/-- the numbers that lie in a row. -/
def rdRow (w : World) : Value → List Nat
  | .slice (some a) n _ => (List.range n).map fun j => (intOf ((w.cell? ⟨a.block, j, none⟩).getD undef)).toNat
  | _ => []
theorem rd_own {w : World} {B : Nat} {v : Value} {L : List Nat} (h : w.ownsRow B 3 1 v L.length (iv (zs L))) : rdRow w v = L := by
  rcases Nat.eq_zero_or_pos L.length with e | e
  · have e' : L = [] := List.eq_nil_of_length_eq_zero e
    subst e'
    rcases h.2 with ⟨rfl, _⟩ | ⟨g, cap, cur, rfl, _⟩
    · rfl
    · rfl
  · obtain ⟨g, cap, rfl, _, _, _, hc⟩ := iown_at h e
    unfold rdRow
    apply List.ext_getElem?
    intro j
    rcases Nat.lt_or_ge j L.length with hj | hj
    · rw [List.getElem?_map, List.getElem?_range hj, List.getElem?_eq_getElem hj]
      simp only [Option.map_some]
      rw [hc j _ (List.getElem?_eq_getElem hj)]
      simp [intOf]
    · rw [List.getElem?_eq_none (by simp; omega), List.getElem?_eq_none hj]
/-- the two rows of lay: what is laid, what waits. -/
structure LayI (h : Hr) (T : List Nat) (B : Nat) (W0 wr : World) (pv qv : Value) (P W : List Nat) : Prop where
  bel : Below W0.heap.size W0 wr
  own : wr.ownsRow W0.heap.size 3 1 pv P.length (iv (zs P))
  wow : wr.ownsRow W0.heap.size 3 1 qv W.length (iv (zs W))
  apt : Apart pv qv
  eq : P ++ layL h W.reverse = T
  wai : Waits h B W
  few : P.length ≤ 131072
theorem LayI.up {h : Hr} {T : List Nat} {B : Nat} {W0 wr wx : World} {pv qv : Value} {P W : List Nat} (g : LayI h T B W0 wr pv qv P W) (hb : Below wr.heap.size wr wx) : LayI h T B W0 wx pv qv P W :=
  ⟨g.bel.trans (hb.mono g.bel.size), iown_keep g.own fun k hk => hb.block k (g.own.lt k hk).2, iown_keep g.wow fun k hk => hb.block k (g.wow.lt k hk).2, g.apt, g.eq, g.wai, g.few⟩
/-- the next one is taken off. -/
theorem LayI.pop {h : Hr} {T : List Nat} {B gq cap : Nat} {W0 wr : World} {pv : Value} {P W : List Nat} {i : Nat} (g : LayI h T B W0 wr pv (.slice (some ⟨gq, 0, none⟩) (W ++ [i]).length cap) P (W ++ [i])) :
    wr.ownsRow W0.heap.size 3 1 (.slice (some ⟨gq, 0, none⟩) W.length cap) W.length (iv (zs W)) ∧ Waits h B W ∧ i < (stds h).length ∧ W.length + (lkO h i).rk ≤ B := by
  obtain ⟨k1, k2, k3⟩ := g.wai.pop
  have q := iown_cut g.wow (m := W.length) (by simp)
  rw [zs_take, List.take_left] at q
  exact ⟨q, k1, k2, k3⟩
theorem grown_below {W0 w w' : World} {B n : Nat} {v : Value} {xs : List Value} (hb : Below W0.heap.size W0 w) (h : w.ownsRow B 3 1 v n xs) (hB : W0.heap.size ≤ B) (hg : w.grownBy w' v.ownBlock) : Below W0.heap.size W0 w' :=
  ⟨hg.os.trans hb.os, hg.tape.trans hb.tape, hg.output.trans hb.output, Nat.le_trans hb.size hg.size, fun k hk => (hg.block k (Nat.lt_of_lt_of_le hk hb.size) (fun e => by have := (h.lt k e.symm).1; omega)).trans (hb.block k hk)⟩
theorem LayI.cut {h : Hr} {T : List Nat} {B gq cap g5 cap5 : Nat} {W0 wr wx w5 : World} {pv : Value} {P W : List Nat} {i : Nat} (g : LayI h T B W0 wr pv (.slice (some ⟨gq, 0, none⟩) (W ++ [i]).length cap) P (W ++ [i])) (hc : chk h = (0, [])) (hp : plO h i = false) (hb : Below wr.heap.size wr wx)
    (ho : w5.ownsRow W0.heap.size 3 1 (.slice (some ⟨g5, 0, none⟩) (W.length + 2) cap5) (W.length + 2) (iv (zs W) ++ iv (zs [(lkO h i).lk.rt, (lkO h i).lk.lf]))) (hg : wx.grownBy w5 (some gq)) (hor : some gq = some g5 ∨ g5 = wx.heap.size) :
    LayI h T B W0 w5 pv (.slice (some ⟨g5, 0, none⟩) (W ++ [(lkO h i).lk.rt, (lkO h i).lk.lf]).length cap5) P (W ++ [(lkO h i).lk.rt, (lkO h i).lk.lf]) ∧ sumZ h (W ++ [(lkO h i).lk.rt, (lkO h i).lk.lf]) < sumZ h (W ++ [i]) := by
  obtain ⟨q1, q2, q3, q4⟩ := g.pop
  obtain ⟨k1, k2, k3, k4⟩ := kidsU hc q3 hp
  obtain ⟨e1, e2⟩ := lay_cut hc q3 g.eq hp
  have gx := g.up hb
  refine ⟨⟨?_, ?_, ?_, ?_, e1, q2.push q4 k2 k1 k4 k3, g.few⟩, e2⟩
  · exact grown_below gx.bel gx.wow (Nat.le_refl _) hg
  · exact iown_keep gx.own fun k hk => hg.block k (gx.own.lt k hk).2 (fun e => gx.apt k hk e.symm)
  · rw [← iv_append, ← zs_append] at ho
    simpa using ho
  · intro k hk e
    have hk2 : g5 = k := Option.some.inj e
    rcases hor with h1 | h1
    · exact gx.apt k hk (by rw [← hk2]; exact h1)
    · have := (gx.own.lt k hk).2
      omega
theorem LayI.add {h : Hr} {T : List Nat} {B gq cap g5 cap5 : Nat} {W0 wr wx w5 : World} {pv : Value} {P W : List Nat} {i : Nat} (g : LayI h T B W0 wr pv (.slice (some ⟨gq, 0, none⟩) (W ++ [i]).length cap) P (W ++ [i])) (hp : plO h i = true) (hlt : P.length < 131072) (hb : Below wr.heap.size wr wx)
    (ho : w5.ownsRow W0.heap.size 3 1 (.slice (some ⟨g5, 0, none⟩) (P.length + 1) cap5) (P.length + 1) (iv (zs P) ++ iv (zs [i]))) (hg : wx.grownBy w5 pv.ownBlock) (hor : pv.ownBlock = some g5 ∨ g5 = wx.heap.size) :
    LayI h T B W0 w5 (.slice (some ⟨g5, 0, none⟩) (P ++ [i]).length cap5) (.slice (some ⟨gq, 0, none⟩) W.length cap) (P ++ [i]) W ∧ sumZ h W < sumZ h (W ++ [i]) := by
  have gx := g.up hb
  obtain ⟨q1, q2, q3, q4⟩ := gx.pop
  obtain ⟨e1, e2⟩ := lay_plain g.eq hp
  refine ⟨⟨?_, ?_, ?_, ?_, e1, q2, by simp; omega⟩, e2⟩
  · exact grown_below gx.bel gx.own (Nat.le_refl _) hg
  · rw [← iv_append, ← zs_append] at ho
    simpa using ho
  · exact iown_keep q1 fun k hk => hg.block k (q1.lt k hk).2 (fun e => gx.apt k e.symm hk)
  · intro k hk e
    have hk2 : g5 = k := Option.some.inj hk
    have hk3 : gq = k := Option.some.inj e
    rcases hor with h1 | h1
    · exact gx.apt g5 h1 (by show some gq = some g5; rw [hk2, hk3])
    · have := (q1.lt gq rfl).2
      omega
theorem Tryz.elemI : Tryz.prog.underlying 28 = some (.slice (Tryz.prog.elem 28)) := by kernel_rfl
theorem Tryz.sizeI (w : World) : (sizeOf (Tryz.prog.elem 28)).run Tryz.prog w = .ok 1 w := by kernel_rfl
theorem slice_uptoI (b n lc i : Nat) (h : n ≤ lc) (hi : i ≤ n) (w : World) : (Instr.slice 28 (.slice (some ⟨b, 0, none⟩) n lc) none (some (.int .i64 (i : Int))) none).run Tryz.prog w = .ok (.slice (some ⟨b, 0, none⟩) i lc) w := by
  rw [run_slice_h (ht := Tryz.elemI) (h0 := by omega) (h2 := by omega), Tryz.sizeI]
  have e2 : (i : Int).toNat = i := by omega
  simp only [Result.andThen_ok, sliced, e2]
  simp [Addr.add]
end Go.Proofs.YtodilocmfdeehaaGreatDoor.Hi

namespace Go.Proofs.YtodilocmfdeehaaGreatDoor.Hi
open Go.RowKit Go.Extern

attribute [local go_sem] Oper.semAt_some

theorem infoI : ∃ i, Tryz.prog.info? 3 = some i ∧ i.zero = some (.int .i64 0) ∧ i.size = 1 ∧ i.bytes = 8 := by
  have h := infoJ
  cases hi : Tryz.prog.info? 3 with
  | none => rw [hi] at h; cases h
  | some i => rw [hi] at h; simp at h; exact ⟨i, rfl, h.1, h.2.1, h.2.2⟩
theorem new_cellsU (W : World) (c : List Value) (T : TypeId) : ∀ j u, c[j]? = some u → (W.alloc (.cells c.toArray T)).cell? ((⟨W.heap.size, 0, none⟩ : Addr).add j) = some u := fun j u hj => by
  have hh := heap_newW W (.cells c.toArray T)
  generalize W.alloc (.cells c.toArray T) = W' at hh
  have e : (⟨W.heap.size, 0, none⟩ : Addr).add j = ⟨W.heap.size, j, none⟩ := by
    by_cases h0 : j = 0
    · subst h0; rfl
    · simp [Addr.add, h0]
  rw [e]
  simp [World.cell?, hh, hj]
/-- what lay answers. -/
def LayA (w : World) (T : List Nat) (e : Ending) (w' : World) : Prop := ((T.length ≤ 131072 ∧ ∃ mo mc, e = .returned (.tuple #[.slice mo T.length mc, .nilIface]) ∧ w'.ownsRow w.heap.size 3 1 (.slice mo T.length mc) T.length (iv (zs T))) ∨ (131072 < T.length ∧ e = .returned (.tuple #[.slice none 0 0, .iface 61 (.int .i64 2)]))) ∧ Below w.heap.size w w'
theorem own_lowU {w : World} {B B' n : Nat} {v : Value} {xs : List Value} (h : w.ownsRow B 3 1 v n xs) (hb : B' ≤ B) : w.ownsRow B' 3 1 v n xs := by
  refine ⟨h.1, ?_⟩
  rcases h.2 with h2 | ⟨g, cap, cur, e, hg, r⟩
  · exact Or.inl h2
  · exact Or.inr ⟨g, cap, cur, e, by omega, r⟩
theorem btrU {a b c : World} (h : Below a.heap.size a b) (k : Below b.heap.size b c) : Below a.heap.size a c := h.trans (k.mono h.size)

set_option maxRecDepth 100000 in
set_option maxHeartbeats 8000000 in
theorem lay_calls (v : HV) (h : Hr) (lo : Option Addr) (lc : Nat) (L : List Nat) (w : World) (hH : HasH w v h) (hc : chk h = (0, [])) (hl : HasInts w (.slice lo L.length lc) (zs L)) (hsp : ∀ a, lo = some a → a.spot = none) (hL : ∀ i ∈ L, i < (stds h).length) (hn : L.length ≤ 1000000) :
    Calls Tryz.prog 32 #[hvl v h, .slice lo L.length lc] w fun e w' => LayA w (layL h L) e w' := by
  obtain ⟨k1, k2, k3, k4, k5, k6, k7, k8⟩ := chk_ok hc
  have hlen := stds_len k5 k6
  obtain ⟨W0, hW0⟩ : ∃ W0, w.alloc (.cells #[.slice v.no h.node.length v.nc, .slice v.uo h.upF.length v.uc, .slice v.ul h.up.length v.ulc, .slice v.wo h.dnF.length v.wc, .slice v.dl h.dn.length v.dlc] 25) = W0 := ⟨_, rfl⟩
  have HW0 : Hid (w.alloc (.cells #[.slice v.no h.node.length v.nc, .slice v.uo h.upF.length v.uc, .slice v.ul h.up.length v.ulc, .slice v.wo h.dnF.length v.wc, .slice v.dl h.dn.length v.dlc] 25) = W0) := hW0
  have hB0 : Below w.heap.size w W0 := by rw [← hW0]; exact (Below.refl _ _).alloc (Nat.le_refl _) _
  have hbx : W0.heap[w.heap.size]? = some (.cells #[.slice v.no h.node.length v.nc, .slice v.uo h.upF.length v.uc, .slice v.ul h.up.length v.ulc, .slice v.wo h.dnF.length v.wc, .slice v.dl h.dn.length v.dlc] 25) := by rw [← hW0]; exact heap_newW _ _
  have HX : Hid (∀ wx, Below W0.heap.size W0 wx → (wx.cell? ⟨w.heap.size, 0, none⟩ = some (.slice v.no h.node.length v.nc) ∧ wx.cell? ⟨w.heap.size, 1, none⟩ = some (.slice v.uo h.upF.length v.uc) ∧ wx.cell? ⟨w.heap.size, 2, none⟩ = some (.slice v.ul h.up.length v.ulc) ∧ wx.cell? ⟨w.heap.size, 3, none⟩ = some (.slice v.wo h.dnF.length v.wc) ∧ wx.cell? ⟨w.heap.size, 4, none⟩ = some (.slice v.dl h.dn.length v.dlc)) ∧ w.heap.size < wx.heap.size ∧ Below w.heap.size w wx) := fun wx hb => by
    have q := (hb.block _ (some_lt hbx)).trans hbx
    exact ⟨five_cells q, some_lt q, hB0.trans (hb.mono hB0.size)⟩
  have HAT : Hid (∀ wx (i : Nat), i < (stds h).length → Below W0.heap.size W0 wx → Calls Tryz.prog 60 #[.agg #[.slice v.no h.node.length v.nc, .slice v.uo h.upF.length v.uc, .slice v.ul h.up.length v.ulc, .slice v.wo h.dnF.length v.wc, .slice v.dl h.dn.length v.dlc], .int .i64 (i : Int)] wx fun e w' => e = .returned (.agg #[.int .u32 ((lkO h i).lk.hd : Int), .int .u64 ((lkO h i).lk.wt : Int), .int .u32 ((lkO h i).lk.lf : Int), .int .u32 ((lkO h i).lk.rt : Int)]) ∧ Below wx.heap.size wx w') := fun wx i hi hx => by
    have q := uat_calls v h i wx (hH.keep (HX.out wx hx).2.2) (by omega) (by omega)
    rw [(link_ok hc hi).lk] at q
    exact q
  have HPL : Hid (∀ (l : Lk) wx, Calls Tryz.prog 61 #[.agg #[.int .u32 (l.hd : Int), .int .u64 (l.wt : Int), .int .u32 (l.lf : Int), .int .u32 (l.rt : Int)]] wx fun e w' => e = .returned (.bool l.plain) ∧ Below wx.heap.size wx w') := fun l wx => uplain_calls l wx
  have HBK : Hid (Calls Tryz.prog 59 #[.slice lo L.length lc] W0 fun e w' => ∃ so sc, e = .returned (.slice so L.length sc) ∧ w'.ownsRow W0.heap.size 3 1 (.slice so L.length sc) L.length (iv (zs L.reverse)) ∧ Below W0.heap.size W0 w') := by
    have q := back_calls lo lc (zs L) W0 (by rw [zs_len]; exact hl.keep hB0) hsp (by rw [zs_len]; omega)
    rw [zs_len] at q
    refine q.mono ?_
    rintro e w' ⟨so, sc, rfl, ho, hb2⟩
    rw [List.length_reverse, zs_len, zs_rev] at ho
    rw [List.length_reverse, zs_len]
    exact ⟨so, sc, rfl, ho, hb2⟩
  obtain ⟨i0, hi0⟩ := infoI
  have HI0 : Hid (Tryz.prog.info? 3 = some i0 ∧ i0.zero = some (.int .i64 0) ∧ i0.size = 1 ∧ i0.bytes = 8) := hi0
  obtain ⟨B, hB⟩ : ∃ B, L.length + 65536 = B := ⟨_, rfl⟩
  have hBn : B ≤ 1065536 := by omega
  have HWA : Hid (Waits h B L.reverse) := hB ▸ Waits.back hc hL
  have HCC : Hid (chk h = (0, [])) := hc
  have HOKL : Hid (∀ i, i < (stds h).length → (lkO h i).lk.ok) := fun i hi => by
    have q := (link_ok hc hi).lk
    have hi2 : i < h.up.length + h.dn.length := by omega
    show (sd (stds h) i).lk.ok
    rw [← q]
    unfold linkAt
    rw [List.getD_eq_getElem?_getD]
    rcases Nat.lt_or_ge i h.up.length with hlt | hge
    · rw [List.getElem?_append_left hlt, List.getElem?_eq_getElem hlt]
      exact (hH.up.at (List.getElem?_eq_getElem hlt)).1
    · rw [List.getElem?_append_right hge, List.getElem?_eq_getElem (by omega)]
      exact (hH.dn.at (List.getElem?_eq_getElem (by omega))).1
  obtain ⟨T, hT⟩ : ∃ T, layL h L = T := ⟨_, rfl⟩
  have HT : Hid (layL h L = T) := hT
  rw [hT]
  clear hW0 hB0 hbx hH hl hsp hL hc hlen k1 k2 k3 k4 k5 k6 k7 k8 hi0 hT hB
  unfold hvl
  go_enter Tryz.func32, Tryz.ntmps32
  go_upto_region 1 with fail
  rw [HW0.out]
  go_wp2_with fail
  refine HBK.out.mono ?_
  rintro e y0 ⟨so, sc, rfl, ho, hb⟩
  have Y0 : Hid (LayI h T B W0 y0 (.slice none 0 0) (.slice so L.reverse.length sc) [] L.reverse) := ⟨hb, World.ownsRow_nil _ _ _ _, by rw [List.length_reverse]; exact ho, (fun k hk => by cases hk), by rw [List.reverse_reverse, List.nil_append]; exact HT.out, HWA.out, Nat.zero_le _⟩
  have hLr : L.length = L.reverse.length := (List.length_reverse).symm
  rw [hLr] at *
  clear ho hb hLr
  generalize L.reverse = R at *
  go_wp2_with fail
  go_loopw [6, 7] (fun pv qv wr => ∃ (P W : List Nat) (po qo : Option Addr) (pc qc : Nat), pv = .slice po P.length pc ∧ qv = .slice qo W.length qc ∧ Hid (LayI h T B W0 wr (.slice po P.length pc) (.slice qo W.length qc) P W)) (fun _ qv wr => sumZ h (rdRow wr qv))
  case atStart => exact ⟨[], R, none, so, 0, sc, rfl, rfl, Y0.out⟩
  case round =>
    obtain ⟨P, W, po, qo, pc, qc, rfl, rfl, HI⟩ := hrel
    rcases List.eq_nil_or_concat W with rfl | ⟨W1, i, hW⟩
    · have HE : Hid (P = T ∧ P.length ≤ 131072) := ⟨by have := HI.out.eq; simpa [layL] using this, HI.out.few⟩
      go_wp2
      go_ret2
      obtain ⟨e1, e2⟩ := HE.out
      subst e1
      exact ⟨Or.inl ⟨e2, po, pc, rfl, own_lowU HI.out.own (HX.out W0 (Below.refl _ _)).2.2.size⟩, (HX.out _ HI.out.bel).2.2⟩
    · rw [List.concat_eq_append] at hW
      subst hW
      obtain ⟨gq, cap, hq, _, hgl, hcap, hcl⟩ := iown_at HI.out.wow (by simp)
      injection hq with hq1 hq2 hq3
      subst hq1 hq3
      clear hq2
      have ci := hcl W1.length i (by simp)
      clear hcl
      obtain ⟨_, hwt, hist, hwl⟩ := HI.out.pop
      have hwn : W1.length ≤ 2000000 := by
        have := hwt.len
        omega
      have HIS : Hid (i < (stds h).length) := hist
      have HME : Hid (rdRow wr (.slice (some ⟨gq, 0, none⟩) (W1 ++ [i]).length qc) = W1 ++ [i]) := rd_own HI.out.wow
      obtain ⟨l, hl⟩ : ∃ l, (lkO h i).lk = l := ⟨_, rfl⟩
      obtain ⟨o1, o2, o3, o4⟩ := HOKL.out i hist
      rw [hl] at o1 o2 o3 o4
      have HL : Hid ((lkO h i).lk = l) := hl
      have hA := HAT.out wr i hist HI.out.bel
      rw [hl] at hA
      have HA : Hid (type_of% hA) := hA
      obtain ⟨pl, hpl⟩ : ∃ pl, plO h i = pl := ⟨_, rfl⟩
      have HP : Hid (plO h i = pl ∧ l.plain = pl) := ⟨hpl, by rw [← hl]; exact hpl⟩
      have w1 : IntKind.i64.wrap ((W1.length : Int) + 1 - 1) = (W1.length : Int) := by rw [IntKind.wrap_i64] <;> omega
      have w1' : (W1.length : Int) + 1 - 1 = (W1.length : Int) := by omega
      have hsl : ∀ wx, (Instr.slice 28 (.slice (some ⟨gq, 0, none⟩) (W1.length + 1) qc) none (some (.int .i64 (W1.length : Int))) none).run Tryz.prog wx = .ok (.slice (some ⟨gq, 0, none⟩) W1.length qc) wx := fun wx => slice_uptoI gq (W1.length + 1) qc W1.length (by simpa using hcap) (by omega) wx
      have i1 : (0 : Int) ≤ (W1.length : Int) := by omega
      have i2 : (W1.length : Int) < (W1.length : Int) + 1 := by omega
      obtain ⟨⟨c0, c1, c2, c3, c4⟩, l0, _⟩ := HX.out wr HI.out.bel
      clear hist hl hA hpl hwt hwl
      go_wp2_with fail
      refine HA.out.mono ?_
      rintro e y1 ⟨rfl, hb⟩
      have Y1 : Hid (Below wr.heap.size wr y1) := hb
      clear hb c0 c1 c2 c3 c4 l0 ci hsl hgl
      obtain ⟨b, hbz⟩ : ∃ b, y1.heap.size = b := ⟨_, rfl⟩
      obtain ⟨V1, hV1⟩ : ∃ V1, y1.alloc (.cells #[.int .u32 (l.hd : Int), .int .u64 (l.wt : Int), .int .u32 (l.lf : Int), .int .u32 (l.rt : Int)] 65) = V1 := ⟨_, rfl⟩
      have HV1 : Hid (y1.alloc (.cells #[.int .u32 (l.hd : Int), .int .u64 (l.wt : Int), .int .u32 (l.lf : Int), .int .u32 (l.rt : Int)] 65) = V1 ∧ y1.heap.size = b) := ⟨hV1, hbz⟩
      have b1 : Below y1.heap.size y1 V1 := by rw [← hV1]; exact (Below.refl _ _).alloc (Nat.le_refl _) _
      have n1 : V1.heap[b]? = some (.cells #[.int .u32 (l.hd : Int), .int .u64 (l.wt : Int), .int .u32 (l.lf : Int), .int .u32 (l.rt : Int)] 65) := by rw [← hV1, ← hbz]; exact heap_newW _ _
      have HV2 : Hid (∀ wx, Below V1.heap.size V1 wx → (wx.cell? ⟨b, 0, none⟩ = some (.int .u32 (l.hd : Int)) ∧ wx.cell? ⟨b, 1, none⟩ = some (.int .u64 (l.wt : Int)) ∧ wx.cell? ⟨b, 2, none⟩ = some (.int .u32 (l.lf : Int)) ∧ wx.cell? ⟨b, 3, none⟩ = some (.int .u32 (l.rt : Int)) ∧ b < wx.heap.size) ∧ Below wr.heap.size wr wx) := fun wx hx => by
        have q := (hx.block _ (some_lt n1)).trans n1
        exact ⟨⟨by simp [World.cell?, q], by simp [World.cell?, q], by simp [World.cell?, q], by simp [World.cell?, q], some_lt q⟩, btrU Y1.out (btrU b1 hx)⟩
      clear hV1 hbz b1 n1
      go_upto_region 9 with fail
      rw [HV1.out.1]
      rw [HV1.out.2]
      obtain ⟨⟨d0, d1, d2, d3, lb⟩, _⟩ := HV2.out V1 (Below.refl _ _)
      go_wp2_with fail
      refine (HPL.out l V1).mono ?_
      rintro e y2 ⟨rfl, hb⟩
      have Y2 : Hid (Below V1.heap.size V1 y2) := hb
      clear hb d0 d1 d2 d3 lb
      obtain ⟨⟨d0, d1, d2, d3, lb⟩, _⟩ := HV2.out y2 Y2.out
      have HB2 : Hid (Below wr.heap.size wr y2) := (HV2.out y2 Y2.out).2
      rw [HP.out.2]
      have x1 : IntKind.i64.wrap (l.rt : Int) = (l.rt : Int) := by rw [IntKind.wrap_i64] <;> omega
      have x2 : IntKind.i64.wrap (l.lf : Int) = (l.lf : Int) := by rw [IntKind.wrap_i64] <;> omega
      cases pl with
      | false =>
        go_wp2_with (at_builtin; refine wpList_append_lies _ rfl _ _ 28 rfl W0.heap.size 3 i0 (.int .i64 0) 1 8 Tryz.underlying28 HI0.out.1 HI0.out.2.1 HI0.out.2.2.1 HI0.out.2.2.2 rfl (by decide) (.slice (some ⟨gq, 0, none⟩) W1.length qc) W1.length (iv (zs W1)) rfl (iown_keep (HI.out.up HB2.out).pop.1 fun k hk => Below.heap_alloc _ _ _ ((HI.out.up HB2.out).pop.1.lt k hk).2) ⟨y2.heap.size, 0, none⟩ 2 2 (iv (zs [l.rt, l.lf])) rfl rfl (new_cellsU y2 (iv (zs [l.rt, l.lf])) 3) (ivz_one _) (by decide) (by unfold maxLen; omega) (by omega) (by have := (HI.out.up HB2.out).bel.size; simp; omega) _ rfl ?_; intro g5 cap5 w5 hown5 hgr5 hor5 hlt5; have H5 : Hid (LayI h T B W0 w5 (.slice po P.length pc) (.slice (some ⟨g5, 0, none⟩) (W1 ++ [(lkO h i).lk.rt, (lkO h i).lk.lf]).length cap5) P (W1 ++ [(lkO h i).lk.rt, (lkO h i).lk.lf]) ∧ sumZ h (W1 ++ [(lkO h i).lk.rt, (lkO h i).lk.lf]) < sumZ h (W1 ++ [i])) := HI.out.cut HCC.out HP.out.1 (btrU HB2.out ((Below.refl _ y2).alloc (Nat.le_refl _) _)) (by rw [HL.out]; exact hown5) hgr5 hor5; clear hown5 hgr5 hor5 hlt5)
        go_roundw
        case rel => exact ⟨P, W1 ++ [(lkO h i).lk.rt, (lkO h i).lk.lf], po, some ⟨g5, 0, none⟩, pc, cap5, rfl, by simp, H5.out.1⟩
        case measure =>
          have q1 := rd_own H5.out.1.wow
          have q2 := HME.out
          have q3 := H5.out.2
          simp only [List.length_append, List.length_cons, List.length_nil] at q1 q2 ⊢
          rw [q1, q2]
          exact q3
      | true =>
        by_cases hful : P.length = 131072
        · have f1 : ((P.length : Int) == 131072) = true := by simp; omega
          have HTT : Hid (131072 < T.length) := by
            have q1 := HI.out.eq
            have q2 := (lay_plain q1 HP.out.1).1
            show 131072 < T.length
            rw [← q2]
            simp
            omega
          go_wp2
          go_ret2
          exact ⟨Or.inr ⟨HTT.out, rfl⟩, (HX.out y2 (HI.out.up HB2.out).bel).2.2⟩
        · have f1 : ((P.length : Int) == 131072) = false := by simp; omega
          have HPL2 : Hid (P.length < 131072) := by have := HI.out.few; show P.length < 131072; omega
          have hpf : P.length < 131072 := HPL2.out
          go_wp2_with (at_builtin; refine wpList_append_lies _ rfl _ _ 28 rfl W0.heap.size 3 i0 (.int .i64 0) 1 8 Tryz.underlying28 HI0.out.1 HI0.out.2.1 HI0.out.2.2.1 HI0.out.2.2.2 rfl (by decide) (.slice po P.length pc) P.length (iv (zs P)) rfl (iown_keep (HI.out.up HB2.out).own fun k hk => Below.heap_alloc _ _ _ ((HI.out.up HB2.out).own.lt k hk).2) ⟨y2.heap.size, 0, none⟩ 1 1 (iv (zs [i])) rfl rfl (new_cellsU y2 (iv (zs [i])) 3) (ivz_one _) (by decide) (by unfold maxLen; omega) (by omega) (by have := (HI.out.up HB2.out).bel.size; simp; omega) _ rfl ?_; intro g5 cap5 w5 hown5 hgr5 hor5 hlt5; have H5 : Hid (LayI h T B W0 w5 (.slice (some ⟨g5, 0, none⟩) (P ++ [i]).length cap5) (.slice (some ⟨gq, 0, none⟩) W1.length qc) (P ++ [i]) W1 ∧ sumZ h W1 < sumZ h (W1 ++ [i])) := HI.out.add HP.out.1 HPL2.out (btrU HB2.out ((Below.refl _ y2).alloc (Nat.le_refl _) _)) hown5 hgr5 hor5; clear hown5 hgr5 hor5 hlt5)
          go_roundw
          case rel => exact ⟨P ++ [i], W1, some ⟨g5, 0, none⟩, some ⟨gq, 0, none⟩, cap5, qc, by simp, rfl, H5.out.1⟩
          case measure =>
            have q1 := rd_own H5.out.1.wow
            have q2 := HME.out
            have q3 := H5.out.2
            simp only [List.length_append, List.length_cons, List.length_nil] at q1 q2 ⊢
            rw [q1, q2]
            exact q3
end Go.Proofs.YtodilocmfdeehaaGreatDoor.Hi

namespace Go.Proofs.YtodilocmfdeehaaGreatDoor.Hi
open Go.RowKit Go.Extern

attribute [local go_sem] Oper.semAt_some

theorem field_hdU (a b c d : Int) (wx : World) : (Instr.field 65 (.agg #[.int .u32 a, .int .u64 b, .int .u32 c, .int .u32 d]) 0).run Tryz.prog wx = .ok (.int .u32 a) wx := by
  first | kernel_rfl | rfl
theorem FOk.rises {F : List Nat} {m : Nat} (h : FOk F m) : F.Pairwise (· ≤ ·) := by
  rw [List.pairwise_iff_getElem]
  intro i j hi hj hij
  have q := h.mono (Nat.le_of_lt hij) hj
  have e1 := nth_get hi
  have e2 := nth_get hj
  rw [List.getElem?_eq_getElem hi] at e1
  rw [List.getElem?_eq_getElem hj] at e2
  rw [Option.some.inj e1, Option.some.inj e2]
  exact q
theorem below_stand {F : List Nat} {L : List Lk} (h : FOk F L.length) {i : Nat} {y : Nat × Lk} (hy : (rkL F L)[i]? = some y) : below32 F (i + 1) = y.1 + 1 := by
  obtain ⟨_, g1, g2, g3⟩ := rkL_get h hy
  refine below32_at (by omega) (fun t a ht ha => ?_) (fun t a ht ha => ?_)
  · have hl := (List.getElem?_eq_some_iff.1 ha).1
    have q := h.mono (a := t) (b := y.1) (by omega) (by omega)
    rw [nth_of ha] at q
    omega
  · have hl := (List.getElem?_eq_some_iff.1 ha).1
    have q := h.mono (a := y.1 + 1) (b := t) (by omega) (by omega)
    rw [nth_of ha] at q
    omega
theorem stand_up {h : Hr} (hc : chk h = (0, [])) {i : Nat} (hi : i < h.up.length) : (lkO h i).up = true ∧ below32 h.upF (i + 1) = (lkO h i).rk + 1 := by
  obtain ⟨k1, k2, k3, k4, k5, k6, k7, k8⟩ := chk_ok hc
  have hlt : i < (rkL h.upF h.up).length := by rw [rkL_len k5]; exact hi
  have hy := List.getElem?_eq_getElem hlt
  generalize (rkL h.upF h.up)[i] = y at hy
  have e : lkO h i = upS y := sd_of (by unfold stds; rw [List.getElem?_append_left (by rw [List.length_map]; exact hlt), List.getElem?_map, hy]; rfl)
  rw [e]
  exact ⟨rfl, below_stand k5 hy⟩
theorem stand_dn {h : Hr} (hc : chk h = (0, [])) {k : Nat} (hk : k < h.dn.length) : (lkO h (h.up.length + k)).up = false ∧ below32 h.dnF (k + 1) = (lkO h (h.up.length + k)).rk + 1 := by
  obtain ⟨k1, k2, k3, k4, k5, k6, k7, k8⟩ := chk_ok hc
  have hlt : k < (rkL h.dnF h.dn).length := by rw [rkL_len k6]; exact hk
  have hy := List.getElem?_eq_getElem hlt
  generalize (rkL h.dnF h.dn)[k] = y at hy
  have e : lkO h (h.up.length + k) = dnS y := sd_of (by unfold stds; rw [List.getElem?_append_right (by rw [List.length_map, rkL_len k5]; omega), List.length_map, rkL_len k5, Nat.add_sub_cancel_left, List.getElem?_map, hy]; rfl)
  rw [e]
  exact ⟨rfl, below_stand k6 hy⟩

set_option maxRecDepth 100000 in
set_option maxHeartbeats 2000000 in
theorem ustands_calls (ao : Option Addr) (cap : Nat) (F : List Nat) (p r : Nat) (w : World) (h : HasWs w (.slice ao F.length cap) F) (hs : F.Pairwise (· ≤ ·)) (hn : F.length ≤ 1000000) (hp : p ≤ 2000000) (hr : below32 F (p + 1) = r + 1) :
    Calls Tryz.prog 69 #[.slice ao F.length cap, .int .i64 (p : Int)] w fun e w' => e = .returned (.int .i64 (r : Int)) ∧ w' = w := by
  have hB := bs32_calls ao cap F (p + 1) w h hs (by omega)
  have hrl := below32_le F (p + 1)
  rw [hr] at hB
  have e1 : ((p + 1 : Nat) : Int) = (p : Int) + 1 := by omega
  have e2 : ((r + 1 : Nat) : Int) = (r : Int) + 1 := by omega
  rw [e1, e2] at hB
  have HB : Hid (type_of% hB) := hB
  have x1 : IntKind.u32.wrap (p : Int) = (p : Int) := by rw [IntKind.wrap_u32] <;> omega
  have x2 : IntKind.u32.wrap ((p : Int) + 1) = (p : Int) + 1 := by rw [IntKind.wrap_u32] <;> omega
  have x3 : IntKind.i64.wrap (r : Int) = (r : Int) := by rw [IntKind.wrap_i64] <;> omega
  have x4 : (r : Int) + 1 - 1 = (r : Int) := by omega
  clear hB h hs hr e1 e2
  go_enter Tryz.func69, Tryz.ntmps69
  go_wp2_with fail
  refine HB.out.mono ?_
  rintro e y ⟨f, rfl, hy⟩
  have hy' := hy.symm
  clear hy
  subst hy'
  go_wp2
  go_ret
  exact ⟨rfl, rfl⟩

set_option maxRecDepth 100000 in
set_option maxHeartbeats 2000000 in
theorem uends_calls (v : HV) (h : Hr) (i : Nat) (w : World) (hH : HasH w v h) (hc : chk h = (0, [])) (hi : i < (stds h).length) :
    (Calls Tryz.prog 39 #[hvl v h, .int .i64 (i : Int)] w fun e w' => e = .returned (.int .i64 ((lkO h i).tail : Int)) ∧ Below w.heap.size w w') ∧ (Calls Tryz.prog 68 #[hvl v h, .int .i64 (i : Int)] w fun e w' => e = .returned (.int .i64 ((lkO h i).head : Int)) ∧ Below w.heap.size w w') := by
  obtain ⟨k1, k2, k3, k4, k5, k6, k7, k8⟩ := chk_ok hc
  have hlen := stds_len k5 k6
  obtain ⟨W0, hW0⟩ : ∃ W0, w.alloc (.cells #[.slice v.no h.node.length v.nc, .slice v.uo h.upF.length v.uc, .slice v.ul h.up.length v.ulc, .slice v.wo h.dnF.length v.wc, .slice v.dl h.dn.length v.dlc] 25) = W0 := ⟨_, rfl⟩
  have HW0 : Hid (w.alloc (.cells #[.slice v.no h.node.length v.nc, .slice v.uo h.upF.length v.uc, .slice v.ul h.up.length v.ulc, .slice v.wo h.dnF.length v.wc, .slice v.dl h.dn.length v.dlc] 25) = W0) := hW0
  have hB0 : Below w.heap.size w W0 := by rw [← hW0]; exact (Below.refl _ _).alloc (Nat.le_refl _) _
  have hbx : W0.heap[w.heap.size]? = some (.cells #[.slice v.no h.node.length v.nc, .slice v.uo h.upF.length v.uc, .slice v.ul h.up.length v.ulc, .slice v.wo h.dnF.length v.wc, .slice v.dl h.dn.length v.dlc] 25) := by rw [← hW0]; exact heap_newW _ _
  obtain ⟨c0, c1, c2, c3, c4⟩ := five_cells hbx
  have l0 := some_lt hbx
  have HB0 : Hid (Below w.heap.size w W0) := hB0
  have HA : Hid (Calls Tryz.prog 60 #[.agg #[.slice v.no h.node.length v.nc, .slice v.uo h.upF.length v.uc, .slice v.ul h.up.length v.ulc, .slice v.wo h.dnF.length v.wc, .slice v.dl h.dn.length v.dlc], .int .i64 (i : Int)] W0 fun e w' => e = .returned (.agg #[.int .u32 ((lkO h i).lk.hd : Int), .int .u64 ((lkO h i).lk.wt : Int), .int .u32 ((lkO h i).lk.lf : Int), .int .u32 ((lkO h i).lk.rt : Int)]) ∧ Below W0.heap.size W0 w') := by
    have q := uat_calls v h i W0 (hH.keep hB0) (by omega) (by omega)
    rw [(link_ok hc hi).lk] at q
    exact q
  have hhd : (lkO h i).lk.hd < h.node.length := (link_ok hc hi).high
  unfold hvl
  rcases Nat.lt_or_ge i h.up.length with hlt | hge
  · have d1 : decide ((i : Int) < (h.up.length : Int)) = true := by simp; omega
    obtain ⟨s1, s2⟩ := stand_up hc hlt
    have et : (lkO h i).tail = (lkO h i).rk := by unfold Sd.tail; rw [s1]; rfl
    have eh : (lkO h i).head = (lkO h i).lk.hd := by unfold Sd.head; rw [s1]; rfl
    have HS : Hid (Calls Tryz.prog 69 #[.slice v.uo h.upF.length v.uc, .int .i64 (i : Int)] W0 fun e w' => e = .returned (.int .i64 ((lkO h i).rk : Int)) ∧ w' = W0) := ustands_calls _ _ _ i _ W0 (hH.keep hB0).upF k5.rises (by omega) (by omega) s2
    rw [et, eh]
    generalize lkO h i = s at *
    have x1 : IntKind.i64.wrap (s.lk.hd : Int) = (s.lk.hd : Int) := by rw [IntKind.wrap_i64] <;> omega
    clear hW0 hB0 hbx hH s1 s2 et eh hc k3 k4 k5 k6 k7 k8 hlen hi
    constructor
    · go_enter Tryz.func39, Tryz.ntmps39
      go_upto_region 1 with fail
      rw [HW0.out]
      go_wp2_with fail
      refine HS.out.mono ?_
      rintro e y ⟨rfl, hy⟩
      have hy' := hy.symm
      clear hy
      subst hy'
      go_wp2
      go_ret
      exact ⟨rfl, HB0.out⟩
    · go_enter Tryz.func68, Tryz.ntmps68
      go_upto_region 1 with fail
      rw [HW0.out]
      go_wp2_with fail
      refine HA.out.mono ?_
      rintro e y ⟨rfl, hb⟩
      have hfd := field_hdU (s.lk.hd : Int) (s.lk.wt : Int) (s.lk.lf : Int) (s.lk.rt : Int) y
      have HY : Hid (Below W0.heap.size W0 y) := hb
      clear hb
      go_wp2
      go_ret
      exact ⟨rfl, btrU HB0.out HY.out⟩
  · have d1 : decide ((i : Int) < (h.up.length : Int)) = false := by simp; omega
    obtain ⟨k, hk⟩ : ∃ k, i = h.up.length + k := ⟨i - h.up.length, by omega⟩
    obtain ⟨s1, s2⟩ := stand_dn hc (k := k) (by omega)
    rw [← hk] at s1 s2
    have et : (lkO h i).tail = (lkO h i).lk.hd := by unfold Sd.tail; rw [s1]; rfl
    have eh : (lkO h i).head = (lkO h i).rk := by unfold Sd.head; rw [s1]; rfl
    have HS : Hid (Calls Tryz.prog 69 #[.slice v.wo h.dnF.length v.wc, .int .i64 (k : Int)] W0 fun e w' => e = .returned (.int .i64 ((lkO h i).rk : Int)) ∧ w' = W0) := ustands_calls _ _ _ k _ W0 (hH.keep hB0).dnF k6.rises (by omega) (by omega) s2
    rw [et, eh]
    generalize lkO h i = s at *
    have x1 : IntKind.i64.wrap (s.lk.hd : Int) = (s.lk.hd : Int) := by rw [IntKind.wrap_i64] <;> omega
    have x2 : IntKind.i64.wrap ((i : Int) - (h.up.length : Int)) = (k : Int) := by rw [IntKind.wrap_i64] <;> omega
    clear hW0 hB0 hbx hH s1 s2 et eh hc k3 k4 k5 k6 k7 k8 hlen hi hk
    constructor
    · go_enter Tryz.func39, Tryz.ntmps39
      go_upto_region 1 with fail
      rw [HW0.out]
      go_wp2_with fail
      refine HA.out.mono ?_
      rintro e y ⟨rfl, hb⟩
      have hfd := field_hdU (s.lk.hd : Int) (s.lk.wt : Int) (s.lk.lf : Int) (s.lk.rt : Int) y
      have HY : Hid (Below W0.heap.size W0 y) := hb
      clear hb
      go_wp2
      go_ret
      exact ⟨rfl, btrU HB0.out HY.out⟩
    · go_enter Tryz.func68, Tryz.ntmps68
      go_upto_region 1 with fail
      rw [HW0.out]
      go_wp2_with fail
      refine HS.out.mono ?_
      rintro e y ⟨rfl, hy⟩
      have hy' := hy.symm
      clear hy
      subst hy'
      go_wp2
      go_ret
      exact ⟨rfl, HB0.out⟩
end Go.Proofs.YtodilocmfdeehaaGreatDoor.Hi

namespace Go.Proofs.YtodilocmfdeehaaGreatDoor.Hi
open Go.RowKit Go.Extern

attribute [local go_sem] Oper.semAt_some

/-- the ranks along links from a rank on. -/
def alR (h : Hr) (a : Nat) (L : List Nat) : List Nat := a :: L.map fun i => (lkO h i).head
/-- the nodes of ranks. -/
def ndR (h : Hr) (L : List Nat) : List Nat := L.map fun r => nth h.node r
theorem alR_len (h : Hr) (a : Nat) (L : List Nat) : (alR h a L).length = L.length + 1 := by simp [alR]
theorem ndR_len (h : Hr) (L : List Nat) : (ndR h L).length = L.length := by simp [ndR]
theorem take_snocU {L : List Nat} {k x : Nat} (h : L[k]? = some x) : L.take (k + 1) = L.take k ++ [x] := by
  rw [List.take_add_one, h]; rfl
theorem alR_snoc {h : Hr} {a : Nat} {L : List Nat} {k x : Nat} (hx : L[k]? = some x) : alR h a (L.take (k + 1)) = alR h a (L.take k) ++ [(lkO h x).head] := by
  rw [take_snocU hx]; simp [alR]
theorem ndR_snoc {h : Hr} {L : List Nat} {k x : Nat} (hx : L[k]? = some x) : ndR h (L.take (k + 1)) = ndR h (L.take k) ++ [nth h.node x] := by
  rw [take_snocU hx]; simp [ndR]
/-- a row in the making. -/
structure GrI (W0 wr : World) (pv : Value) (P : List Nat) : Prop where
  own : wr.ownsRow W0.heap.size 3 1 pv P.length (iv (zs P))
  bel : Below W0.heap.size W0 wr
theorem GrI.up {W0 wr wx : World} {pv : Value} {P : List Nat} (g : GrI W0 wr pv P) (hb : Below wr.heap.size wr wx) : GrI W0 wx pv P :=
  ⟨iown_keep g.own fun k hk => hb.block k (g.own.lt k hk).2, g.bel.trans (hb.mono g.bel.size)⟩
theorem GrI.add {W0 wr wx w5 : World} {pv : Value} {P : List Nat} {x : Nat} {g5 cap5 : Nat} (g : GrI W0 wr pv P) (hb : Below wr.heap.size wr wx)
    (ho : w5.ownsRow W0.heap.size 3 1 (.slice (some ⟨g5, 0, none⟩) (P.length + 1) cap5) (P.length + 1) (iv (zs P) ++ iv (zs [x]))) (hg : wx.grownBy w5 pv.ownBlock) : GrI W0 w5 (.slice (some ⟨g5, 0, none⟩) (P ++ [x]).length cap5) (P ++ [x]) := by
  have gx := g.up hb
  refine ⟨?_, grown_below gx.bel gx.own (Nat.le_refl _) hg⟩
  rw [← iv_append, ← zs_append] at ho
  simpa using ho
theorem zs_at {L : List Nat} {k x : Nat} (h : L[k]? = some x) : (zs L)[k]? = some (x : Int) := by unfold zs; rw [List.getElem?_map, h]; rfl

set_option maxRecDepth 100000 in
set_option maxHeartbeats 4000000 in
theorem ualong_calls (v : HV) (h : Hr) (a : Nat) (lo : Option Addr) (lc : Nat) (L : List Nat) (w : World) (hH : HasH w v h) (hc : chk h = (0, [])) (hl : HasInts w (.slice lo L.length lc) (zs L)) (hL : ∀ i ∈ L, i < (stds h).length) (hn : L.length ≤ 1000000) :
    Calls Tryz.prog 38 #[hvl v h, .int .i64 (a : Int), .slice lo L.length lc] w fun e w' => ∃ mo mc, e = .returned (.slice mo (alR h a L).length mc) ∧ GrI w w' (.slice mo (alR h a L).length mc) (alR h a L) := by
  obtain ⟨W0, hW0⟩ : ∃ W0, w.alloc (.cells #[.slice v.no h.node.length v.nc, .slice v.uo h.upF.length v.uc, .slice v.ul h.up.length v.ulc, .slice v.wo h.dnF.length v.wc, .slice v.dl h.dn.length v.dlc] 25) = W0 := ⟨_, rfl⟩
  have HW0 : Hid (w.alloc (.cells #[.slice v.no h.node.length v.nc, .slice v.uo h.upF.length v.uc, .slice v.ul h.up.length v.ulc, .slice v.wo h.dnF.length v.wc, .slice v.dl h.dn.length v.dlc] 25) = W0) := hW0
  have hB0 : Below w.heap.size w W0 := by rw [← hW0]; exact (Below.refl _ _).alloc (Nat.le_refl _) _
  have hbx : W0.heap[w.heap.size]? = some (.cells #[.slice v.no h.node.length v.nc, .slice v.uo h.upF.length v.uc, .slice v.ul h.up.length v.ulc, .slice v.wo h.dnF.length v.wc, .slice v.dl h.dn.length v.dlc] 25) := by rw [← hW0]; exact heap_newW _ _
  have HX : Hid (∀ wx, Below W0.heap.size W0 wx → (wx.cell? ⟨w.heap.size, 0, none⟩ = some (.slice v.no h.node.length v.nc) ∧ wx.cell? ⟨w.heap.size, 1, none⟩ = some (.slice v.uo h.upF.length v.uc) ∧ wx.cell? ⟨w.heap.size, 2, none⟩ = some (.slice v.ul h.up.length v.ulc) ∧ wx.cell? ⟨w.heap.size, 3, none⟩ = some (.slice v.wo h.dnF.length v.wc) ∧ wx.cell? ⟨w.heap.size, 4, none⟩ = some (.slice v.dl h.dn.length v.dlc)) ∧ w.heap.size < wx.heap.size ∧ Below w.heap.size w wx) := fun wx hb => by
    have q := (hb.block _ (some_lt hbx)).trans hbx
    exact ⟨five_cells q, some_lt q, hB0.trans (hb.mono hB0.size)⟩
  have HHD : Hid (∀ wx (i : Nat), i < (stds h).length → Below W0.heap.size W0 wx → Calls Tryz.prog 68 #[.agg #[.slice v.no h.node.length v.nc, .slice v.uo h.upF.length v.uc, .slice v.ul h.up.length v.ulc, .slice v.wo h.dnF.length v.wc, .slice v.dl h.dn.length v.dlc], .int .i64 (i : Int)] wx fun e w' => e = .returned (.int .i64 ((lkO h i).head : Int)) ∧ Below wx.heap.size wx w') := fun wx i hi hx => (uends_calls v h i wx (hH.keep (HX.out wx hx).2.2) hc hi).2
  have HRD : Hid (∀ wx (k x : Nat), L[k]? = some x → Below W0.heap.size W0 wx → x < (stds h).length ∧ ∃ b off, lo = some ⟨b, off, none⟩ ∧ b < wx.heap.size ∧ wx.cell? ⟨b, off + k, none⟩ = some (.int .i64 (x : Int))) := fun wx k x hx hb => by
    have q := hl.keep (HX.out wx hb).2.2
    exact ⟨hL x (List.mem_of_getElem? hx), q.at (zs_at hx)⟩
  obtain ⟨i0, hi0⟩ := infoI
  have HI0 : Hid (Tryz.prog.info? 3 = some i0 ∧ i0.zero = some (.int .i64 0) ∧ i0.size = 1 ∧ i0.bytes = 8) := hi0
  obtain ⟨W1, hW1⟩ : ∃ W1, W0.alloc (.cells #[.int .i64 (a : Int)] 3) = W1 := ⟨_, rfl⟩
  have HW1 : Hid (W0.alloc (.cells #[.int .i64 (a : Int)] 3) = W1) := hW1
  have Y0 : Hid (GrI W0 W1 (.slice (some ⟨W0.heap.size, 0, none⟩) (alR h a (L.take 0)).length 1) (alR h a (L.take 0))) := by
    have b1 : Below W0.heap.size W0 W1 := by rw [← hW1]; exact (Below.refl _ _).alloc (Nat.le_refl _) _
    have n1 : W1.heap[W0.heap.size]? = some (.cells #[.int .i64 (a : Int)] 3) := by rw [← hW1]; exact heap_newW _ _
    exact ⟨⟨rfl, Or.inr ⟨W0.heap.size, 1, _, rfl, Nat.le_refl _, n1, Nat.le_refl _, by unfold maxLen; decide, rfl, rfl⟩⟩, b1⟩
  clear hW0 hB0 hbx hH hl hL hc hi0 hW1
  unfold hvl
  go_enter Tryz.func38, Tryz.ntmps38
  go_upto_region 1 with fail
  rw [HW0.out]
  go_upto_region 2 with fail
  rw [HW1.out]
  go_wp2_with fail
  go_loopw [7, 14] (fun pv jv wr => ∃ (k : Nat) (po : Option Addr) (pc : Nat), k ≤ L.length ∧ jv = .int .i64 (k : Int) ∧ pv = .slice po (k + 1) pc ∧ Hid (GrI W0 wr (.slice po (alR h a (L.take k)).length pc) (alR h a (L.take k)))) (fun _ jv _ => L.length - (intOf jv).toNat)
  case atStart => exact ⟨0, some ⟨W0.heap.size, 0, none⟩, 1, Nat.zero_le _, rfl, rfl, Y0.out⟩
  case round =>
    obtain ⟨k, po, pc, hk, rfl, rfl, HG⟩ := hrel
    have HLN : Hid ((alR h a (L.take k)).length = k + 1) := by show _ = _; rw [alR_len, List.length_take]; omega
    by_cases hlt : k < L.length
    · have d1 : decide ((k : Int) < (L.length : Int)) = true := by simp; omega
      obtain ⟨x, hx⟩ : ∃ x, L[k]? = some x := ⟨L[k], List.getElem?_eq_getElem hlt⟩
      obtain ⟨hxs, b, off, hlo, hbl, q0⟩ := HRD.out wr k x hx HG.out.bel
      subst hlo
      have HXX : Hid (L[k]? = some x) := hx
      have hA := HHD.out wr x hxs HG.out.bel
      have HA : Hid (type_of% hA) := hA
      obtain ⟨⟨c0, c1, c2, c3, c4⟩, l0, _⟩ := HX.out wr HG.out.bel
      have i1 : (0 : Int) ≤ (k : Int) := by omega
      have i2 : (k : Int) < (L.length : Int) := by omega
      have w1 : IntKind.i64.wrap ((k : Int) + 1) = (k : Int) + 1 := by rw [IntKind.wrap_i64] <;> omega
      clear hx hxs hA
      go_wp2_with fail
      refine HA.out.mono ?_
      rintro e y1 ⟨rfl, hb⟩
      have Y1 : Hid (Below wr.heap.size wr y1) := hb
      obtain ⟨z, hz⟩ : ∃ z, (lkO h x).head = z := ⟨_, rfl⟩
      have HZ : Hid ((lkO h x).head = z) := hz
      rw [hz]
      clear hb c0 c1 c2 c3 c4 l0 q0 hbl hz
      go_wp2_with (at_builtin; refine wpList_append_lies _ rfl _ _ 28 rfl W0.heap.size 3 i0 (.int .i64 0) 1 8 Tryz.underlying28 HI0.out.1 HI0.out.2.1 HI0.out.2.2.1 HI0.out.2.2.2 rfl (by decide) (.slice po (k + 1) pc) (k + 1) (iv (zs (alR h a (L.take k)))) rfl (by have q := (HG.out.up (btrU Y1.out ((Below.refl _ y1).alloc (Nat.le_refl _) (.cells #[.int .i64 (z : Int)] 3)))).own; rw [HLN.out] at q; exact q) ⟨y1.heap.size, 0, none⟩ 1 1 (iv (zs [z])) rfl rfl (new_cellsU y1 (iv (zs [z])) 3) (ivz_one _) (by decide) (by unfold maxLen; omega) (by omega) (by have := (HG.out.up Y1.out).bel.size; simp; omega) _ rfl ?_; intro g5 cap5 w5 hown5 hgr5 hor5 hlt5; have H5 : Hid (GrI W0 w5 (.slice (some ⟨g5, 0, none⟩) (alR h a (L.take (k + 1))).length cap5) (alR h a (L.take (k + 1)))) := (by show GrI _ _ _ _; rw [alR_snoc HXX.out, HZ.out]; exact HG.out.add (btrU Y1.out ((Below.refl _ y1).alloc (Nat.le_refl _) _)) (by rw [HLN.out]; exact hown5) (by rw [HLN.out]; exact hgr5)); clear hown5 hgr5 hor5 hlt5)
      go_roundw
      case rel => exact ⟨k + 1, some ⟨g5, 0, none⟩, cap5, by omega, rfl, rfl, H5.out⟩
      case measure => simp [intOf]; omega
    · obtain rfl : k = L.length := by omega
      have HE : Hid (GrI W0 wr (.slice po (alR h a L).length pc) (alR h a L)) := by have q := HG.out; rw [List.take_length] at q; exact q
      have HN : Hid ((alR h a L).length = L.length + 1) := alR_len h a L
      clear HG HLN
      go_wp2
      go_ret
      exact ⟨po, pc, by (rw [HN.out]; rfl), own_lowU HE.out.own (HX.out W0 (Below.refl _ _)).2.2.size, (HX.out _ HE.out.bel).2.2⟩

theorem make_isU (n : Nat) (hn : n ≤ 1073741824) : ∃ cs : Array Value, cs.size = n * 1 ∧ ∀ w, (Instr.makeSlice 28 (.int .i64 0) (.int .i64 (n : Int))).run Tryz.prog w = .ok (.slice (some ⟨w.heap.size, 0, none⟩) 0 n) (w.alloc (.cells cs 3)) := by
  obtain ⟨i, hi, hz, hs, hb⟩ := infoI
  refine ⟨madeCells #[.int .i64 0] (n * 1), by simp [size_madeCells], fun w => ?_⟩
  have hr := run_make (P := Tryz.prog) w 28 3 i _ Tryz.underlying28 hi hz .i64 .i64 0 n (by omega) (by omega) (by rw [hb]; omega) (by omega)
  simp only [Int.toNat_natCast, hs] at hr
  rw [hr]
  rfl

set_option maxRecDepth 100000 in
set_option maxHeartbeats 4000000 in
theorem unodes_calls (v : HV) (h : Hr) (lo : Option Addr) (lc : Nat) (L : List Nat) (w : World) (hH : HasH w v h) (hl : HasInts w (.slice lo L.length lc) (zs L)) (hL : ∀ i ∈ L, i < h.node.length) (hn : L.length ≤ 1000000) :
    Calls Tryz.prog 37 #[hvl v h, .slice lo L.length lc] w fun e w' => ∃ mo mc, e = .returned (.slice mo (ndR h L).length mc) ∧ GrI w w' (.slice mo (ndR h L).length mc) (ndR h L) := by
  obtain ⟨W0, hW0⟩ : ∃ W0, w.alloc (.cells #[.slice v.no h.node.length v.nc, .slice v.uo h.upF.length v.uc, .slice v.ul h.up.length v.ulc, .slice v.wo h.dnF.length v.wc, .slice v.dl h.dn.length v.dlc] 25) = W0 := ⟨_, rfl⟩
  have HW0 : Hid (w.alloc (.cells #[.slice v.no h.node.length v.nc, .slice v.uo h.upF.length v.uc, .slice v.ul h.up.length v.ulc, .slice v.wo h.dnF.length v.wc, .slice v.dl h.dn.length v.dlc] 25) = W0) := hW0
  have hB0 : Below w.heap.size w W0 := by rw [← hW0]; exact (Below.refl _ _).alloc (Nat.le_refl _) _
  have hbx : W0.heap[w.heap.size]? = some (.cells #[.slice v.no h.node.length v.nc, .slice v.uo h.upF.length v.uc, .slice v.ul h.up.length v.ulc, .slice v.wo h.dnF.length v.wc, .slice v.dl h.dn.length v.dlc] 25) := by rw [← hW0]; exact heap_newW _ _
  have HX : Hid (∀ wx, Below W0.heap.size W0 wx → wx.cell? ⟨w.heap.size, 0, none⟩ = some (.slice v.no h.node.length v.nc) ∧ w.heap.size < wx.heap.size ∧ Below w.heap.size w wx) := fun wx hb => by
    have q := (hb.block _ (some_lt hbx)).trans hbx
    exact ⟨(five_cells q).1, some_lt q, hB0.trans (hb.mono hB0.size)⟩
  have HRD : Hid (∀ wx (k x : Nat), L[k]? = some x → Below W0.heap.size W0 wx → x < h.node.length ∧ nth h.node x < 4294967296 ∧ (∃ b off, v.no = some ⟨b, off, none⟩ ∧ b < wx.heap.size ∧ wx.cell? ⟨b, off + x, none⟩ = some (.int .u32 (nth h.node x : Int))) ∧ ∃ b off, lo = some ⟨b, off, none⟩ ∧ b < wx.heap.size ∧ wx.cell? ⟨b, off + k, none⟩ = some (.int .i64 (x : Int))) := fun wx k x hx hb => by
    have q := hl.keep (HX.out wx hb).2.2
    have hx2 := hL x (List.mem_of_getElem? hx)
    have q2 := ws_get (hH.keep (HX.out wx hb).2.2).node (nth_get hx2)
    exact ⟨hx2, q2.1, q2.2, q.at (zs_at hx)⟩
  obtain ⟨i0, hi0⟩ := infoI
  have HI0 : Hid (Tryz.prog.info? 3 = some i0 ∧ i0.zero = some (.int .i64 0) ∧ i0.size = 1 ∧ i0.bytes = 8) := hi0
  obtain ⟨cs, hcs, hmk⟩ := make_isU L.length (by omega)
  obtain ⟨W1, hW1⟩ : ∃ W1, W0.alloc (.cells cs 3) = W1 := ⟨_, rfl⟩
  have HW1 : Hid (W0.alloc (.cells cs 3) = W1) := hW1
  have Y0 : Hid (GrI W0 W1 (.slice (some ⟨W0.heap.size, 0, none⟩) (ndR h (L.take 0)).length L.length) (ndR h (L.take 0))) := by
    have b1 : Below W0.heap.size W0 W1 := by rw [← hW1]; exact (Below.refl _ _).alloc (Nat.le_refl _) _
    have n1 : W1.heap[W0.heap.size]? = some (.cells cs 3) := by rw [← hW1]; exact heap_newW _ _
    exact ⟨⟨rfl, Or.inr ⟨W0.heap.size, L.length, cs, rfl, Nat.le_refl _, n1, Nat.zero_le _, by unfold maxLen; omega, hcs, rfl⟩⟩, b1⟩
  clear hW0 hB0 hbx hH hl hL hi0 hW1 hcs
  unfold hvl
  go_enter Tryz.func37, Tryz.ntmps37
  go_upto_region 1 with fail
  rw [HW0.out]
  go_upto_region 2 with fail
  rw [HW1.out]
  clear hmk
  go_wp2_with fail
  go_loopw [5, 13] (fun pv jv wr => ∃ (k : Nat) (po : Option Addr) (pc : Nat), k ≤ L.length ∧ jv = .int .i64 (k : Int) ∧ pv = .slice po k pc ∧ Hid (GrI W0 wr (.slice po (ndR h (L.take k)).length pc) (ndR h (L.take k)))) (fun _ jv _ => L.length - (intOf jv).toNat)
  case atStart => exact ⟨0, some ⟨W0.heap.size, 0, none⟩, L.length, Nat.zero_le _, rfl, rfl, Y0.out⟩
  case round =>
    obtain ⟨k, po, pc, hk, rfl, rfl, HG⟩ := hrel
    have HLN : Hid ((ndR h (L.take k)).length = k) := by show _ = _; rw [ndR_len, List.length_take]; omega
    by_cases hlt : k < L.length
    · have d1 : decide ((k : Int) < (L.length : Int)) = true := by simp; omega
      obtain ⟨x, hx⟩ : ∃ x, L[k]? = some x := ⟨L[k], List.getElem?_eq_getElem hlt⟩
      obtain ⟨hxs, hxz, ⟨bn, offn, hno, hbn, qn⟩, b, off, hlo, hbl, q0⟩ := HRD.out wr k x hx HG.out.bel
      subst hlo
      obtain ⟨z, hz⟩ : ∃ z, nth h.node x = z := ⟨_, rfl⟩
      rw [hz] at hxz qn
      have HXX : Hid (L[k]? = some x ∧ nth h.node x = z) := ⟨hx, hz⟩
      obtain ⟨c0, l0, _⟩ := HX.out wr HG.out.bel
      rw [hno] at c0
      have i1 : (0 : Int) ≤ (k : Int) := by omega
      have i2 : (k : Int) < (L.length : Int) := by omega
      have i3 : (0 : Int) ≤ (x : Int) := by omega
      have i4 : (x : Int) < (h.node.length : Int) := by omega
      have w1 : IntKind.i64.wrap ((k : Int) + 1) = (k : Int) + 1 := by rw [IntKind.wrap_i64] <;> omega
      have w2 : IntKind.i64.wrap (z : Int) = (z : Int) := by rw [IntKind.wrap_i64] <;> omega
      clear hx hz hno
      go_wp2_with (at_builtin; refine wpList_append_lies _ rfl _ _ 28 rfl W0.heap.size 3 i0 (.int .i64 0) 1 8 Tryz.underlying28 HI0.out.1 HI0.out.2.1 HI0.out.2.2.1 HI0.out.2.2.2 rfl (by decide) (.slice po k pc) k (iv (zs (ndR h (L.take k)))) rfl (by have q := (HG.out.up ((Below.refl _ wr).alloc (Nat.le_refl _) (.cells #[.int .i64 (z : Int)] 3))).own; rw [HLN.out] at q; exact q) ⟨wr.heap.size, 0, none⟩ 1 1 (iv (zs [z])) rfl rfl (new_cellsU wr (iv (zs [z])) 3) (ivz_one _) (by decide) (by unfold maxLen; omega) (by omega) (by have := HG.out.bel.size; simp; omega) _ rfl ?_; intro g5 cap5 w5 hown5 hgr5 hor5 hlt5; have H5 : Hid (GrI W0 w5 (.slice (some ⟨g5, 0, none⟩) (ndR h (L.take (k + 1))).length cap5) (ndR h (L.take (k + 1)))) := (by show GrI _ _ _ _; rw [ndR_snoc HXX.out.1, HXX.out.2]; exact HG.out.add ((Below.refl _ wr).alloc (Nat.le_refl _) _) (by rw [HLN.out]; exact hown5) (by rw [HLN.out]; exact hgr5)); clear hown5 hgr5 hor5 hlt5)
      go_roundw
      case rel => exact ⟨k + 1, some ⟨g5, 0, none⟩, cap5, by omega, rfl, rfl, H5.out⟩
      case measure => simp [intOf]; omega
    · obtain rfl : k = L.length := by omega
      have HE : Hid (GrI W0 wr (.slice po (ndR h L).length pc) (ndR h L)) := by have q := HG.out; rw [List.take_length] at q; exact q
      have HN : Hid ((ndR h L).length = L.length) := ndR_len h L
      clear HG HLN
      go_wp2
      go_ret
      exact ⟨po, pc, by (rw [HN.out]; rfl), own_lowU HE.out.own (HX.out W0 (Below.refl _ _)).2.2.size, (HX.out _ HE.out.bel).2.2⟩
end Go.Proofs.YtodilocmfdeehaaGreatDoor.Hi

namespace Go.Proofs.YtodilocmfdeehaaGreatDoor.Hi
open Go.RowKit Go.Extern

attribute [local go_sem] Oper.semAt_some

/-- by which error Links refuses. -/
def lkE (h : Hr) (i : Int) : Int × List (Int × Int) := if chk h ≠ (0, []) then chk h else if i < 0 ∨ ((h.up.length + h.dn.length : Nat) : Int) ≤ i then (1, []) else if 131072 < (flatI h i.toNat).length then (2, []) else (0, [])
/-- what Links answers. -/
def lkL (h : Hr) (i : Int) : List Nat := if lkE h i = (0, []) then flatI h i.toNat else []
/-- what Nodes answers. -/
def lkN (h : Hr) (i : Int) : List Nat := if lkE h i = (0, []) then ndR h (alR h (lkO h i.toNat).tail (flatI h i.toNat)) else []
theorem lkE_chk {h : Hr} {i : Int} (hc : ¬ chk h = (0, [])) : lkE h i = chk h := by unfold lkE; rw [if_pos hc]
theorem lkE_arg {h : Hr} {i : Int} (hc : chk h = (0, [])) (hi : i < 0 ∨ ((h.up.length + h.dn.length : Nat) : Int) ≤ i) : lkE h i = (1, []) := by unfold lkE; rw [if_neg (by simpa using hc), if_pos hi]
theorem lkE_long {h : Hr} {i : Nat} (hc : chk h = (0, [])) (hi : i < h.up.length + h.dn.length) (hl : 131072 < (flatI h i).length) : lkE h (i : Int) = (2, []) := by unfold lkE; rw [if_neg (by simpa using hc), if_neg (by omega), Int.toNat_natCast, if_pos hl]
theorem lkE_ok {h : Hr} {i : Nat} (hc : chk h = (0, [])) (hi : i < h.up.length + h.dn.length) (hl : (flatI h i).length ≤ 131072) : lkE h (i : Int) = (0, []) := by unfold lkE; rw [if_neg (by simpa using hc), if_neg (by omega), Int.toNat_natCast, if_neg (by omega)]
theorem lkE_inv {h : Hr} {i : Int} (he : lkE h i = (0, [])) : chk h = (0, []) ∧ ∃ k : Nat, i = (k : Int) ∧ k < h.up.length + h.dn.length ∧ (flatI h k).length ≤ 131072 := by
  unfold lkE at he
  split at he
  · rename_i h1
    exact absurd he h1
  · rename_i h1
    split at he
    · simp at he
    · rename_i h2
      split at he
      · simp at he
      · rename_i h3
        refine ⟨by simpa using h1, i.toNat, by omega, by omega, by omega⟩
theorem lkL_bad {h : Hr} {i : Int} (he : lkE h i ≠ (0, [])) : lkL h i = [] := by unfold lkL; rw [if_neg he]
theorem lkN_bad {h : Hr} {i : Int} (he : lkE h i ≠ (0, [])) : lkN h i = [] := by unfold lkN; rw [if_neg he]
theorem lkL_ok {h : Hr} {i : Nat} (he : lkE h (i : Int) = (0, [])) : lkL h (i : Int) = flatI h i := by unfold lkL; rw [if_pos he, Int.toNat_natCast]
theorem lkN_ok {h : Hr} {i : Nat} (he : lkE h (i : Int) = (0, [])) : lkN h (i : Int) = ndR h (alR h (lkO h i).tail (flatI h i)) := by unfold lkN; rw [if_pos he, Int.toNat_natCast]
theorem layL_one (h : Hr) (i : Nat) : layL h [i] = flatI h i := by rw [layL_cons]; simp [layL]
/-- what Links or Nodes answers, and by which error. -/
def LkA (w : World) (er : Int × List (Int × Int)) (P : List Nat) (e : Ending) (w' : World) : Prop :=
  ∃ (mo : Option Addr) (mc : Nat) (u : Value), e = .returned (.tuple #[.slice mo P.length mc, u]) ∧ IsTold w' er u ∧ GrI w w' (.slice mo P.length mc) P
theorem LkA.bad {w w' : World} {er : Int × List (Int × Int)} {P : List Nat} {T : TypeId} {x : Value} (hP : P = []) (ht : IsTold w' er (.iface T x)) (hb : Below w.heap.size w w') : LkA w er P (.returned (.tuple #[.slice none 0 0, .iface T x])) w' := by
  subst hP
  exact ⟨none, 0, _, rfl, ht, World.ownsRow_nil _ _ _ _, hb⟩

set_option maxRecDepth 100000 in
set_option maxHeartbeats 4000000 in
theorem ulinks_calls (v : HV) (h : Hr) (i : Int) (w : World) (hH : HasH w v h) (hb1 : h.up.length ≤ 1152921504606846976) (hb2 : h.dn.length ≤ 1152921504606846976) (hb3 : h.node.length ≤ 1152921504606846976) :
    Calls Tryz.prog 9 #[hvl v h, .int .i64 i] w (LkA w (lkE h i) (lkL h i)) := by
  obtain ⟨W0, hW0⟩ : ∃ W0, w.alloc (.cells #[.slice v.no h.node.length v.nc, .slice v.uo h.upF.length v.uc, .slice v.ul h.up.length v.ulc, .slice v.wo h.dnF.length v.wc, .slice v.dl h.dn.length v.dlc] 25) = W0 := ⟨_, rfl⟩
  have HW0 : Hid (w.alloc (.cells #[.slice v.no h.node.length v.nc, .slice v.uo h.upF.length v.uc, .slice v.ul h.up.length v.ulc, .slice v.wo h.dnF.length v.wc, .slice v.dl h.dn.length v.dlc] 25) = W0) := hW0
  have hB0 : Below w.heap.size w W0 := by rw [← hW0]; exact (Below.refl _ _).alloc (Nat.le_refl _) _
  have hbx : W0.heap[w.heap.size]? = some (.cells #[.slice v.no h.node.length v.nc, .slice v.uo h.upF.length v.uc, .slice v.ul h.up.length v.ulc, .slice v.wo h.dnF.length v.wc, .slice v.dl h.dn.length v.dlc] 25) := by rw [← hW0]; exact heap_newW _ _
  have HX : Hid (∀ wx, Below W0.heap.size W0 wx → (wx.cell? ⟨w.heap.size, 0, none⟩ = some (.slice v.no h.node.length v.nc) ∧ wx.cell? ⟨w.heap.size, 1, none⟩ = some (.slice v.uo h.upF.length v.uc) ∧ wx.cell? ⟨w.heap.size, 2, none⟩ = some (.slice v.ul h.up.length v.ulc) ∧ wx.cell? ⟨w.heap.size, 3, none⟩ = some (.slice v.wo h.dnF.length v.wc) ∧ wx.cell? ⟨w.heap.size, 4, none⟩ = some (.slice v.dl h.dn.length v.dlc)) ∧ w.heap.size < wx.heap.size ∧ Below w.heap.size w wx ∧ HasH wx v h) := fun wx hb => by
    have q := (hb.block _ (some_lt hbx)).trans hbx
    have q2 := hB0.trans (hb.mono hB0.size)
    exact ⟨five_cells q, some_lt q, q2, hH.keep q2⟩
  have HCK : Hid (Calls Tryz.prog 31 #[.agg #[.slice v.no h.node.length v.nc, .slice v.uo h.upF.length v.uc, .slice v.ul h.up.length v.ulc, .slice v.wo h.dnF.length v.wc, .slice v.dl h.dn.length v.dlc]] W0 fun e w' => ∃ u, e = .returned u ∧ IsTold w' (chk h) u ∧ Below W0.heap.size W0 w') := check_calls v h W0 (hH.keep hB0) hb1 hb2 hb3
  obtain ⟨⟨c0, c1, c2, c3, c4⟩, l0, _⟩ := HX.out W0 (Below.refl _ _)
  clear hW0 hB0 hbx hH
  unfold hvl
  go_enter Tryz.func9, Tryz.ntmps9
  go_upto_region 1 with fail
  rw [HW0.out]
  go_wp2_with fail
  refine HCK.out.mono ?_
  rintro e w1 ⟨u, rfl, ht, hbb1⟩
  have HB1 : Hid (Below W0.heap.size W0 w1) := hbb1
  by_cases hc : chk h = (0, [])
  · rw [hc] at ht
    have hu := isTold_nil ht
    subst hu
    have HC : Hid (chk h = (0, [])) := hc
    have hsm := (chk_ok hc).2.1
    clear hbb1 c0 c1 c2 c3 c4 l0 ht hc
    obtain ⟨⟨c0, c1, c2, c3, c4⟩, l0, _⟩ := HX.out w1 HB1.out
    have w3 : IntKind.i64.wrap ((h.up.length : Int) + (h.dn.length : Int)) = (h.up.length : Int) + (h.dn.length : Int) := by rw [IntKind.wrap_i64] <;> omega
    by_cases hneg : i < 0
    · have i1 : decide (i < 0) = true := by simpa using hneg
      have HEE : Hid (lkE h i = (1, [])) := lkE_arg HC.out (Or.inl hneg)
      go_wp2
      go_ret2
      exact LkA.bad (lkL_bad (by rw [HEE.out]; decide)) (by rw [HEE.out]; exact told_num _ (by decide)) (HX.out w1 HB1.out).2.2.1
    · have i1 : decide (i < 0) = false := by simpa using hneg
      obtain ⟨k, rfl⟩ : ∃ k : Nat, i = (k : Int) := ⟨i.toNat, by omega⟩
      by_cases hge : (h.up.length : Int) + (h.dn.length : Int) ≤ (k : Int)
      · have i2 : decide ((h.up.length : Int) + (h.dn.length : Int) ≤ (k : Int)) = true := by simpa using hge
        have HEE : Hid (lkE h (k : Int) = (1, [])) := lkE_arg HC.out (Or.inr (by omega))
        go_wp2
        go_ret2
        exact LkA.bad (lkL_bad (by rw [HEE.out]; decide)) (by rw [HEE.out]; exact told_num _ (by decide)) (HX.out w1 HB1.out).2.2.1
      · have i2 : decide ((h.up.length : Int) + (h.dn.length : Int) ≤ (k : Int)) = false := by simpa using hge
        have hk : k < h.up.length + h.dn.length := by omega
        obtain ⟨V, hV⟩ : ∃ V, w1.alloc (.cells #[.int .i64 (k : Int)] 3) = V := ⟨_, rfl⟩
        have HV : Hid (w1.alloc (.cells #[.int .i64 (k : Int)] 3) = V) := hV
        have hbV : Below w1.heap.size w1 V := by rw [← hV]; exact (Below.refl _ _).alloc (Nat.le_refl _) _
        have HBV : Hid (Below w.heap.size w V) := (HX.out V (btrU HB1.out hbV)).2.2.1
        have hLA := lay_calls v h (some ⟨w1.heap.size, 0, none⟩) 1 [k] V (HX.out V (btrU HB1.out hbV)).2.2.2 HC.out (by
          refine ⟨some ⟨w1.heap.size, 0, none⟩, 1, rfl, fun j a hj => ?_⟩
          have hn1 : V.heap[w1.heap.size]? = some (.cells #[.int .i64 (k : Int)] 3) := by rw [← hV]; exact heap_newW _ _
          have hj0 := (List.getElem?_eq_some_iff.1 hj).1
          have hj1 : j = 0 := by simp [zs] at hj0; omega
          subst hj1
          simp [zs] at hj
          subst hj
          exact ⟨w1.heap.size, 0, rfl, some_lt hn1, by simp [World.cell?, hn1]⟩) (fun a ha => by injection ha with ha; subst ha; rfl) (fun j hj => by
          simp at hj
          subst hj
          obtain ⟨_, _, _, _, k5, k6, _, _⟩ := chk_ok HC.out
          rw [stds_len k5 k6]
          exact hk) (by simp)
        rw [layL_one] at hLA
        have HLA : Hid (type_of% hLA) := hLA
        clear hLA hV hbV
        unfold hvl at HLA
        go_wp2_with fail
        rw [HV.out]
        refine HLA.out.mono ?_
        rintro e y ⟨hcase, hb⟩
        have HY : Hid (Below V.heap.size V y) := hb
        rcases hcase with ⟨hle, mo, mc, rfl, ho⟩ | ⟨hgt, rfl⟩
        · have HEE : Hid (lkE h (k : Int) = (0, []) ∧ lkL h (k : Int) = flatI h k) := ⟨lkE_ok HC.out hk hle, lkL_ok (lkE_ok HC.out hk hle)⟩
          have HO : Hid (y.ownsRow V.heap.size 3 1 (.slice mo (flatI h k).length mc) (flatI h k).length (iv (zs (flatI h k)))) := ho
          clear ho hb hle c0 c1 c2 c3 c4 l0
          generalize flatI h k = F at *
          go_wp2
          go_ret2
          rw [HEE.out.1, HEE.out.2]
          exact ⟨mo, mc, _, rfl, Or.inl ⟨rfl, rfl⟩, own_lowU HO.out HBV.out.size, btrU HBV.out HY.out⟩
        · have HEE : Hid (lkE h (k : Int) = (2, [])) := lkE_long HC.out hk hgt
          clear hgt hb c0 c1 c2 c3 c4 l0
          go_wp2
          go_ret2
          exact LkA.bad (lkL_bad (by rw [HEE.out]; decide)) (by rw [HEE.out]; exact told_num _ (by decide)) (btrU HBV.out HY.out)
  · obtain ⟨tt, xx, hu1, _⟩ := isTold_some ht hc
    subst hu1
    have HEE : Hid (lkE h i = chk h ∧ lkL h i = []) := ⟨lkE_chk hc, lkL_bad (by rw [lkE_chk hc]; exact hc)⟩
    have HTT : Hid (IsTold w1 (chk h) (.iface tt xx)) := ht
    clear hbb1 c0 c1 c2 c3 c4 l0 ht hc
    go_wp2
    go_ret2
    rw [HEE.out.1]
    exact LkA.bad HEE.out.2 HTT.out (HX.out w1 HB1.out).2.2.1
end Go.Proofs.YtodilocmfdeehaaGreatDoor.Hi

namespace Go.Proofs.YtodilocmfdeehaaGreatDoor.Hi
open Go.RowKit Go.Extern

attribute [local go_sem] Oper.semAt_some

theorem ints_ownU {w : World} {B : Nat} {mo : Option Addr} {mc : Nat} {L : List Nat} (h : w.ownsRow B 3 1 (.slice mo L.length mc) L.length (iv (zs L))) : HasInts w (.slice mo L.length mc) (zs L) := by
  refine ⟨mo, mc, by rw [zs_len], fun j a hj => ?_⟩
  have hlt := (List.getElem?_eq_some_iff.1 hj).1
  rw [zs_len] at hlt
  obtain ⟨g, cap, e, _, hl, _, hc⟩ := iown_at h (by omega)
  injection e with e1 _ _
  refine ⟨g, 0, e1, hl, ?_⟩
  rw [Nat.zero_add, hc j _ (List.getElem?_eq_getElem hlt)]
  have e3 := zs_at (List.getElem?_eq_getElem hlt)
  rw [e3] at hj
  rw [Option.some.inj hj]
theorem head_lt {h : Hr} (hc : chk h = (0, [])) {i : Nat} (hi : i < (stds h).length) : (lkO h i).head < h.node.length ∧ (lkO h i).tail < h.node.length := by
  have k := link_ok hc hi
  have k1 : (lkO h i).rk < (lkO h i).lk.hd := k.low
  have k2 : (lkO h i).lk.hd < h.node.length := k.high
  unfold Sd.head Sd.tail
  cases (lkO h i).up <;> constructor <;> simp <;> omega
theorem Chain.all {h : Hr} : ∀ {a b : Nat} {L : List Nat}, Chain h a b L → ∀ i ∈ L, i < (stds h).length
  | _, _, [], _, _, hi => by cases hi
  | _, _, _ :: _, ⟨k1, _, _, k4⟩, i, hi => by
    rcases List.mem_cons.1 hi with rfl | hi
    · exact k1
    · exact Chain.all k4 i hi
theorem flatI_all {h : Hr} (hc : chk h = (0, [])) {i : Nat} (hi : i < (stds h).length) : ∀ j ∈ flatI h i, j < (stds h).length := (flat_chain hc _ i hi (Nat.lt_succ_self _)).1.all
theorem alR_all {h : Hr} (hc : chk h = (0, [])) {a : Nat} {L : List Nat} (ha : a < h.node.length) (hL : ∀ j ∈ L, j < (stds h).length) : ∀ r ∈ alR h a L, r < h.node.length := by
  intro r hr
  rcases List.mem_cons.1 hr with rfl | hr
  · exact ha
  · obtain ⟨j, hj, rfl⟩ := List.mem_map.1 hr
    exact (head_lt hc (hL j hj)).1

set_option maxRecDepth 100000 in
set_option maxHeartbeats 4000000 in
theorem ucount_calls (v : HV) (h : Hr) (i : Int) (w : World) (hH : HasH w v h) (hb1 : h.up.length ≤ 1152921504606846976) (hb2 : h.dn.length ≤ 1152921504606846976) (hb3 : h.node.length ≤ 1152921504606846976) :
    Calls Tryz.prog 14 #[hvl v h, .int .i64 i] w fun e w' => ∃ u, e = .returned (.tuple #[.int .i64 ((lkL h i).length : Int), u]) ∧ IsTold w' (lkE h i) u ∧ Below w.heap.size w w' := by
  obtain ⟨z, hz⟩ : ∃ z, w.heap.size = z := ⟨_, rfl⟩
  obtain ⟨W0, hW0⟩ : ∃ W0, w.alloc (.cells #[.slice v.no h.node.length v.nc, .slice v.uo h.upF.length v.uc, .slice v.ul h.up.length v.ulc, .slice v.wo h.dnF.length v.wc, .slice v.dl h.dn.length v.dlc] 25) = W0 := ⟨_, rfl⟩
  have HW0 : Hid (w.alloc (.cells #[.slice v.no h.node.length v.nc, .slice v.uo h.upF.length v.uc, .slice v.ul h.up.length v.ulc, .slice v.wo h.dnF.length v.wc, .slice v.dl h.dn.length v.dlc] 25) = W0) := hW0
  have hB0 : Below w.heap.size w W0 := by rw [← hW0]; exact (Below.refl _ _).alloc (Nat.le_refl _) _
  have hbx : W0.heap[z]? = some (.cells #[.slice v.no h.node.length v.nc, .slice v.uo h.upF.length v.uc, .slice v.ul h.up.length v.ulc, .slice v.wo h.dnF.length v.wc, .slice v.dl h.dn.length v.dlc] 25) := by rw [← hW0, ← hz]; exact heap_newW _ _
  have HX : Hid (∀ wx, Below W0.heap.size W0 wx → (wx.cell? ⟨z, 0, none⟩ = some (.slice v.no h.node.length v.nc) ∧ wx.cell? ⟨z, 1, none⟩ = some (.slice v.uo h.upF.length v.uc) ∧ wx.cell? ⟨z, 2, none⟩ = some (.slice v.ul h.up.length v.ulc) ∧ wx.cell? ⟨z, 3, none⟩ = some (.slice v.wo h.dnF.length v.wc) ∧ wx.cell? ⟨z, 4, none⟩ = some (.slice v.dl h.dn.length v.dlc)) ∧ z < wx.heap.size ∧ Below w.heap.size w wx ∧ HasH wx v h) := fun wx hb => by
    have q := (hb.block _ (some_lt hbx)).trans hbx
    have q2 := hB0.trans (hb.mono hB0.size)
    exact ⟨five_cells q, some_lt q, q2, hH.keep q2⟩
  have HLK : Hid (Calls Tryz.prog 9 #[(.agg #[.slice v.no h.node.length v.nc, .slice v.uo h.upF.length v.uc, .slice v.ul h.up.length v.ulc, .slice v.wo h.dnF.length v.wc, .slice v.dl h.dn.length v.dlc]), .int .i64 i] W0 (LkA W0 (lkE h i) (lkL h i))) := ulinks_calls v h i W0 (hH.keep hB0) hb1 hb2 hb3
  obtain ⟨⟨c0, c1, c2, c3, c4⟩, l0, _⟩ := HX.out W0 (Below.refl _ _)
  clear hW0 hB0 hbx hH
  unfold hvl
  obtain ⟨F, hF⟩ : ∃ F, lkL h i = F := ⟨_, rfl⟩
  rw [hF] at HLK ⊢
  clear hF
  go_enter Tryz.func14, Tryz.ntmps14
  go_upto_region 1 with fail
  rw [HW0.out]
  go_wp2_with fail
  refine HLK.out.mono ?_
  rintro e y1 ⟨mo, mc, u, rfl, ht, hg⟩
  have H1 : Hid (IsTold y1 (lkE h i) u ∧ Below W0.heap.size W0 y1) := ⟨ht, hg.bel⟩
  clear ht hg c0 c1 c2 c3 c4 l0
  go_wp2
  go_ret2
  exact ⟨u, rfl, H1.out.1, (HX.out y1 H1.out.2).2.2.1⟩

set_option maxRecDepth 100000 in
set_option maxHeartbeats 4000000 in
theorem unodesX_calls (v : HV) (h : Hr) (i : Int) (w : World) (hH : HasH w v h) (hb1 : h.up.length ≤ 1152921504606846976) (hb2 : h.dn.length ≤ 1152921504606846976) (hb3 : h.node.length ≤ 1152921504606846976) :
    Calls Tryz.prog 15 #[hvl v h, .int .i64 i] w (LkA w (lkE h i) (lkN h i)) := by
  obtain ⟨z, hz⟩ : ∃ z, w.heap.size = z := ⟨_, rfl⟩
  obtain ⟨W0, hW0⟩ : ∃ W0, w.alloc (.cells #[.slice v.no h.node.length v.nc, .slice v.uo h.upF.length v.uc, .slice v.ul h.up.length v.ulc, .slice v.wo h.dnF.length v.wc, .slice v.dl h.dn.length v.dlc] 25) = W0 := ⟨_, rfl⟩
  have HW0 : Hid (w.alloc (.cells #[.slice v.no h.node.length v.nc, .slice v.uo h.upF.length v.uc, .slice v.ul h.up.length v.ulc, .slice v.wo h.dnF.length v.wc, .slice v.dl h.dn.length v.dlc] 25) = W0) := hW0
  have hB0 : Below w.heap.size w W0 := by rw [← hW0]; exact (Below.refl _ _).alloc (Nat.le_refl _) _
  have hbx : W0.heap[z]? = some (.cells #[.slice v.no h.node.length v.nc, .slice v.uo h.upF.length v.uc, .slice v.ul h.up.length v.ulc, .slice v.wo h.dnF.length v.wc, .slice v.dl h.dn.length v.dlc] 25) := by rw [← hW0, ← hz]; exact heap_newW _ _
  have HX : Hid (∀ wx, Below W0.heap.size W0 wx → (wx.cell? ⟨z, 0, none⟩ = some (.slice v.no h.node.length v.nc) ∧ wx.cell? ⟨z, 1, none⟩ = some (.slice v.uo h.upF.length v.uc) ∧ wx.cell? ⟨z, 2, none⟩ = some (.slice v.ul h.up.length v.ulc) ∧ wx.cell? ⟨z, 3, none⟩ = some (.slice v.wo h.dnF.length v.wc) ∧ wx.cell? ⟨z, 4, none⟩ = some (.slice v.dl h.dn.length v.dlc)) ∧ z < wx.heap.size ∧ Below w.heap.size w wx ∧ HasH wx v h) := fun wx hb => by
    have q := (hb.block _ (some_lt hbx)).trans hbx
    have q2 := hB0.trans (hb.mono hB0.size)
    exact ⟨five_cells q, some_lt q, q2, hH.keep q2⟩
  have HLK : Hid (Calls Tryz.prog 9 #[(.agg #[.slice v.no h.node.length v.nc, .slice v.uo h.upF.length v.uc, .slice v.ul h.up.length v.ulc, .slice v.wo h.dnF.length v.wc, .slice v.dl h.dn.length v.dlc]), .int .i64 i] W0 (LkA W0 (lkE h i) (lkL h i))) := ulinks_calls v h i W0 (hH.keep hB0) hb1 hb2 hb3
  obtain ⟨⟨c0, c1, c2, c3, c4⟩, l0, _⟩ := HX.out W0 (Below.refl _ _)
  clear hW0 hB0 hbx hH
  unfold hvl
  go_enter Tryz.func15, Tryz.ntmps15
  go_upto_region 1 with fail
  rw [HW0.out]
  go_wp2_with fail
  refine HLK.out.mono ?_
  rintro e y1 ⟨mo, mc, u, rfl, ht, hg⟩
  by_cases he : lkE h i = (0, [])
  · rw [he] at ht
    have hu := isTold_nil ht
    subst hu
    obtain ⟨hc, k, rfl, hk, hle⟩ := lkE_inv he
    have k5 := (chk_ok hc).2.2.2.2.1
    have k6 := (chk_ok hc).2.2.2.2.2.1
    rw [← stds_len k5 k6] at hk
    have eL := lkL_ok he
    have HNN : Hid (lkN h (k : Int) = ndR h (alR h (lkO h k).tail (flatI h k)) ∧ lkE h (k : Int) = (0, [])) := ⟨lkN_ok he, he⟩
    rw [eL] at hg
    rw [eL]
    have HC : Hid (chk h = (0, []) ∧ k < (stds h).length ∧ (∀ j ∈ flatI h k, j < (stds h).length) ∧ (lkO h k).tail < h.node.length) := ⟨hc, hk, flatI_all hc hk, (head_lt hc hk).2⟩
    have H1 : Hid (∀ wx, Below y1.heap.size y1 wx → HasInts wx (.slice mo (flatI h k).length mc) (zs (flatI h k)) ∧ Below W0.heap.size W0 wx) := fun wx hx => ⟨(ints_ownU hg.own).keep hx, btrU hg.bel hx⟩
    clear ht hg he hc hk k5 k6 eL c0 c1 c2 c3 c4 l0
    generalize flatI h k = F at *
    obtain ⟨tl, htl⟩ : ∃ tl, (lkO h k).tail = tl := ⟨_, rfl⟩
    have HTL : Hid ((lkO h k).tail = tl) := htl
    have HNL : Hid ((alR h tl F).length ≤ 200000) := by show _ ≤ _; rw [alR_len]; omega
    rw [htl] at HNN HC
    clear htl
    have HSS : Hid (∀ wx, Below y1.heap.size y1 wx → (fun w' : World => w'.cell? ⟨z, 0, none⟩ = some (.slice v.no h.node.length v.nc) ∧ w'.cell? ⟨z, 1, none⟩ = some (.slice v.uo h.upF.length v.uc) ∧ w'.cell? ⟨z, 2, none⟩ = some (.slice v.ul h.up.length v.ulc) ∧ w'.cell? ⟨z, 3, none⟩ = some (.slice v.wo h.dnF.length v.wc) ∧ w'.cell? ⟨z, 4, none⟩ = some (.slice v.dl h.dn.length v.dlc) ∧ Hid (Below y1.heap.size y1 w')) wx) := fun wx hx => by
      obtain ⟨⟨c0, c1, c2, c3, c4⟩, _, _⟩ := HX.out wx (H1.out wx hx).2
      exact ⟨c0, c1, c2, c3, c4, hx⟩
    have HCT : Hid (∀ wx : World, (fun w' : World => w'.cell? ⟨z, 0, none⟩ = some (.slice v.no h.node.length v.nc) ∧ w'.cell? ⟨z, 1, none⟩ = some (.slice v.uo h.upF.length v.uc) ∧ w'.cell? ⟨z, 2, none⟩ = some (.slice v.ul h.up.length v.ulc) ∧ w'.cell? ⟨z, 3, none⟩ = some (.slice v.wo h.dnF.length v.wc) ∧ w'.cell? ⟨z, 4, none⟩ = some (.slice v.dl h.dn.length v.dlc) ∧ Hid (Below y1.heap.size y1 w')) wx → Calls Tryz.prog 39 #[(.agg #[.slice v.no h.node.length v.nc, .slice v.uo h.upF.length v.uc, .slice v.ul h.up.length v.ulc, .slice v.wo h.dnF.length v.wc, .slice v.dl h.dn.length v.dlc]), .int .i64 (k : Int)] wx fun e w' => e = .returned (.int .i64 (tl : Int)) ∧ Grows wx w' ∧ (fun w' : World => w'.cell? ⟨z, 0, none⟩ = some (.slice v.no h.node.length v.nc) ∧ w'.cell? ⟨z, 1, none⟩ = some (.slice v.uo h.upF.length v.uc) ∧ w'.cell? ⟨z, 2, none⟩ = some (.slice v.ul h.up.length v.ulc) ∧ w'.cell? ⟨z, 3, none⟩ = some (.slice v.wo h.dnF.length v.wc) ∧ w'.cell? ⟨z, 4, none⟩ = some (.slice v.dl h.dn.length v.dlc) ∧ Hid (Below y1.heap.size y1 w')) w') := fun wx hS => by
      have q := (uends_calls v h k wx (HX.out wx (H1.out wx hS.2.2.2.2.2.out).2).2.2.2 HC.out.1 HC.out.2.1).1
      rw [HTL.out] at q
      exact q.mono (by rintro e w' ⟨rfl, hb⟩; exact ⟨rfl, hb, HSS.out w' (btrU hS.2.2.2.2.2.out hb)⟩)
    have HCA : Hid (∀ wx : World, Below y1.heap.size y1 wx → Calls Tryz.prog 38 #[(.agg #[.slice v.no h.node.length v.nc, .slice v.uo h.upF.length v.uc, .slice v.ul h.up.length v.ulc, .slice v.wo h.dnF.length v.wc, .slice v.dl h.dn.length v.dlc]), .int .i64 (tl : Int), .slice mo F.length mc] wx fun e w' => ∃ ao ac, e = .returned (.slice ao (alR h tl F).length ac) ∧ GrI wx w' (.slice ao (alR h tl F).length ac) (alR h tl F)) := fun wx hx => ualong_calls v h tl mo mc F wx (HX.out wx (H1.out wx hx).2).2.2.2 HC.out.1 (H1.out wx hx).1 HC.out.2.2.1 (by have := HNL.out; rw [alR_len] at this; omega)
    go_upto_region 4 with fail
    refine wp_region_M (S := (fun w' : World => w'.cell? ⟨z, 0, none⟩ = some (.slice v.no h.node.length v.nc) ∧ w'.cell? ⟨z, 1, none⟩ = some (.slice v.uo h.upF.length v.uc) ∧ w'.cell? ⟨z, 2, none⟩ = some (.slice v.ul h.up.length v.ulc) ∧ w'.cell? ⟨z, 3, none⟩ = some (.slice v.wo h.dnF.length v.wc) ∧ w'.cell? ⟨z, 4, none⟩ = some (.slice v.dl h.dn.length v.dlc) ∧ Hid (Below y1.heap.size y1 w'))) (by kernel_rfl) (HSS.out _ (Below.refl _ _).drew) ?_
    refine wpAnyM_take (i := 0) (oi := { dst := Option.some 17, op := Op.load 25 (Operand.tmp 2), type := 25, pos := "unpack.go:27", after := #[], guard := Option.none }) (v := ?va0) rfl (by kernel_rfl) (by kernel_rfl) (by kernel_rfl) (fun _ _ _ h => h) (YieldsM.of_if (Or.inl ⟨by rfl, ?ha0⟩)) ?ra0
    case ha0 => ((intro wz hSw; (try dsimp only at hSw); go_simp); try (with_reducible rfl))
    try simp only [Act.put, List.setIfInBounds_toArray, List.set_cons_zero, List.set_cons_succ]
    refine wpAnyM_take (i := 1) (oi := { dst := Option.some 18, op := Op.load 25 (Operand.tmp 2), type := 25, pos := "unpack.go:27", after := #[], guard := Option.none }) (v := ?va1) rfl (by kernel_rfl) (by kernel_rfl) (by kernel_rfl) (fun _ _ _ h => h) (YieldsM.of_if (Or.inl ⟨by rfl, ?ha1⟩)) ?ra1
    case ha1 => ((intro wz hSw; (try dsimp only at hSw); go_simp); try (with_reducible rfl))
    try simp only [Act.put, List.setIfInBounds_toArray, List.set_cons_zero, List.set_cons_succ]
    refine wpAnyM_take (i := 2) (oi := { dst := Option.some 19, op := Op.load 25 (Operand.tmp 2), type := 25, pos := "unpack.go:27", after := #[], guard := Option.none }) (v := ?va2) rfl (by kernel_rfl) (by kernel_rfl) (by kernel_rfl) (fun _ _ _ h => h) (YieldsM.of_if (Or.inl ⟨by rfl, ?ha2⟩)) ?ra2
    case ha2 => ((intro wz hSw; (try dsimp only at hSw); go_simp); try (with_reducible rfl))
    try simp only [Act.put, List.setIfInBounds_toArray, List.set_cons_zero, List.set_cons_succ]
    refine wpAnyM_take (i := 3) (oi := { dst := Option.some 20, op := Op.move (Operand.tmp 1), type := 3, pos := "unpack.go:27", after := #[], guard := Option.none }) (v := ?va3) rfl (by kernel_rfl) (by kernel_rfl) (by kernel_rfl) (fun _ _ _ h => h) (YieldsM.of_if (Or.inl ⟨by rfl, ?ha3⟩)) ?ra3
    case ha3 => ((intro wz hSw; (try dsimp only at hSw); go_simp); try (with_reducible rfl))
    try simp only [Act.put, List.setIfInBounds_toArray, List.set_cons_zero, List.set_cons_succ]
    refine wpAnyM_take (i := 4) (oi := { dst := Option.some 21, op := Op.call { callee := Callee.value (Operand.func 39), args := #[Operand.tmp 19, Operand.tmp 20], argTypes := #[25, 3] }, type := 3, pos := "unpack.go:27", after := #[{ on := 2, ground := Ground.data }, { on := 3, ground := Ground.data }], guard := Option.none }) (v := (.int .i64 (tl : Int))) rfl (by kernel_rfl) (by kernel_rfl) (by kernel_rfl) (fun _ _ _ h => h) (YieldsM.of_call (f := 39) (by rfl) (fun _ _ => by kernel_rfl) (HCT.out)) ?_
    try simp only [Act.put, List.setIfInBounds_toArray, List.set_cons_zero, List.set_cons_succ]
    refine wpAnyM_take (i := 5) (oi := { dst := Option.some 22, op := Op.move (Operand.tmp 6), type := 28, pos := "unpack.go:27", after := #[], guard := Option.none }) (v := ?va5) rfl (by kernel_rfl) (by kernel_rfl) (by kernel_rfl) (fun _ _ _ h => h) (YieldsM.of_if (Or.inl ⟨by rfl, ?ha5⟩)) ?ra5
    case ha5 => ((intro wz hSw; (try dsimp only at hSw); go_simp); try (with_reducible rfl))
    try simp only [Act.put, List.setIfInBounds_toArray, List.set_cons_zero, List.set_cons_succ]
    refine readyM (i := 6) (o := { dst := Option.some 23, op := Op.call { callee := Callee.value (Operand.func 38), args := #[Operand.tmp 18, Operand.tmp 21, Operand.tmp 22], argTypes := #[25, 3, 28] }, type := 28, pos := "unpack.go:27", after := #[{ on := 1, ground := Ground.data }, { on := 4, ground := Ground.data }, { on := 5, ground := Ground.data }, { on := 4, ground := Ground.chain }], guard := Option.none }) rfl (by kernel_rfl) ?_
    intro u1 hg1 hS1 K hK
    have B1 : Hid (Below y1.heap.size y1 u1) := hS1.2.2.2.2.2.out
    clear hS1 hg1
    go_simp
    refine (HCA.out u1 B1.out).mono ?_
    rintro e u2 ⟨ao, ac, rfl, hg2⟩
    have G2 : Hid (GrI u1 u2 (.slice ao (alR h tl F).length ac) (alR h tl F)) := hg2
    clear hg2
    go_wp2_with fail
    refine hK.out _ _ (HSS.out _ (btrU B1.out G2.out.bel)) ?_
    clear hK K
    try simp only [Act.put, List.setIfInBounds_toArray, List.set_cons_zero, List.set_cons_succ]
    refine readyM (i := 7) (o := { dst := Option.some 24, op := Op.call { callee := Callee.value (Operand.func 37), args := #[Operand.tmp 17, Operand.tmp 23], argTypes := #[25, 28] }, type := 28, pos := "unpack.go:27", after := #[{ on := 0, ground := Ground.data }, { on := 6, ground := Ground.data }, { on := 6, ground := Ground.chain }], guard := Option.none }) rfl (by kernel_rfl) ?_
    intro u3 hg3 hS3 K hK
    have B3 : Hid (Below y1.heap.size y1 u3 ∧ Below u2.heap.size u2 u3) := ⟨hS3.2.2.2.2.2.out, hg3⟩
    have HCN : Hid (Calls Tryz.prog 37 #[(.agg #[.slice v.no h.node.length v.nc, .slice v.uo h.upF.length v.uc, .slice v.ul h.up.length v.ulc, .slice v.wo h.dnF.length v.wc, .slice v.dl h.dn.length v.dlc]), .slice ao (alR h tl F).length ac] u3 fun e w' => ∃ no nc, e = .returned (.slice no (ndR h (alR h tl F)).length nc) ∧ GrI u3 w' (.slice no (ndR h (alR h tl F)).length nc) (ndR h (alR h tl F))) := unodes_calls v h ao ac (alR h tl F) u3 (HX.out u3 (H1.out u3 B3.out.1).2).2.2.2 ((ints_ownU G2.out.own).keep B3.out.2) (alR_all HC.out.1 HC.out.2.2.2 HC.out.2.2.1) (Nat.le_trans HNL.out (by decide))
    clear hS3 hg3
    go_simp
    refine HCN.out.mono ?_
    rintro e u4 ⟨no, nc, rfl, hg4⟩
    have G4 : Hid (GrI w u4 (.slice no (ndR h (alR h tl F)).length nc) (ndR h (alR h tl F)) ∧ Below y1.heap.size y1 u4) := ⟨⟨own_lowU hg4.own ((HX.out u3 (H1.out u3 B3.out.1).2).2.2.1).size, (HX.out u4 (H1.out u4 (btrU B3.out.1 hg4.bel)).2).2.2.1⟩, btrU B3.out.1 hg4.bel⟩
    clear hg4
    go_wp2_with fail
    refine hK.out _ _ (HSS.out _ G4.out.2) ?_
    clear hK K
    try simp only [Act.put, List.setIfInBounds_toArray, List.set_cons_zero, List.set_cons_succ]
    refine wpAnyM_take (i := 8) (oi := { dst := Option.some 4, op := Op.assign (Operand.tmp 24), type := 28, pos := "unpack.go:27", after := #[{ on := 7, ground := Ground.data }, { on := 7, ground := Ground.chain }, { on := 0, ground := Ground.phase }, { on := 1, ground := Ground.phase }, { on := 2, ground := Ground.phase }, { on := 3, ground := Ground.phase }, { on := 4, ground := Ground.phase }, { on := 5, ground := Ground.phase }, { on := 6, ground := Ground.phase }, { on := 7, ground := Ground.phase }], guard := Option.none }) (v := ?vc8) rfl (by kernel_rfl) (by kernel_rfl) (by kernel_rfl) (fun _ _ _ h => h) (YieldsM.of_if (Or.inl ⟨by rfl, ?hc8⟩)) ?rc8
    case hc8 => ((intro wz hSw; (try dsimp only at hSw); go_simp); try (with_reducible rfl))
    try simp only [Act.put, List.setIfInBounds_toArray, List.set_cons_zero, List.set_cons_succ]
    refine wpAnyM_take (i := 9) (oi := { dst := Option.some 5, op := Op.assign (Operand.const Value.nilIface), type := 30, pos := "unpack.go:27", after := #[{ on := 8, ground := Ground.chain }, { on := 0, ground := Ground.phase }, { on := 1, ground := Ground.phase }, { on := 2, ground := Ground.phase }, { on := 3, ground := Ground.phase }, { on := 4, ground := Ground.phase }, { on := 5, ground := Ground.phase }, { on := 6, ground := Ground.phase }, { on := 7, ground := Ground.phase }, { on := 8, ground := Ground.phase }], guard := Option.none }) (v := ?vc9) rfl (by kernel_rfl) (by kernel_rfl) (by kernel_rfl) (fun _ _ _ h => h) (YieldsM.of_if (Or.inl ⟨by rfl, ?hc9⟩)) ?rc9
    case hc9 => ((intro wz hSw; (try dsimp only at hSw); go_simp); try (with_reducible rfl))
    try simp only [Act.put, List.setIfInBounds_toArray, List.set_cons_zero, List.set_cons_succ]
    refine wpAnyM_done (by kernel_rfl) ?_ _
    intro u6 hg6 hS6
    have G6 : Hid (GrI w u6 (.slice no (ndR h (alR h tl F)).length nc) (ndR h (alR h tl F))) := G4.out.1.up hg6
    clear hS6 hg6 G4 B3 HCN G2 B1
    go_wp2
    go_ret2
    rw [HNN.out.1, HNN.out.2]
    exact ⟨no, nc, _, rfl, Or.inl ⟨rfl, rfl⟩, G6.out⟩
  · obtain ⟨tt, xx, hu1, _⟩ := isTold_some ht he
    subst hu1
    have HEE : Hid (lkN h i = [] ∧ IsTold y1 (lkE h i) (.iface tt xx) ∧ Below w.heap.size w y1) := ⟨lkN_bad he, ht, (HX.out y1 hg.bel).2.2.1⟩
    clear ht hg he c0 c1 c2 c3 c4 l0
    generalize lkL h i = F at *
    go_wp2
    go_ret2
    exact LkA.bad HEE.out.1 HEE.out.2.1 HEE.out.2.2
end Go.Proofs.YtodilocmfdeehaaGreatDoor.Hi

namespace Go.Proofs.YtodilocmfdeehaaGreatDoor.Hi
open Go.RowKit Go.Extern Go.Shelf

attribute [local go_sem] Oper.semAt_some

def numT (p q i : Nat) : Nat := if i = 4294967295 then i else if i < p then q + i else i - p
set_option maxRecDepth 100000 in
set_option maxHeartbeats 4000000 in
theorem number_calls (v : HV) (h : Hr) (i : Nat) (w : World) (hi : i < 4294967296) (hL : h.up.length + h.dn.length ≤ 1048576) :
    Calls Tryz.prog 129 #[hvl v h, .int .u32 (i : Int)] w fun e w' => e = .returned (.int .u32 (numT h.up.length h.dn.length i : Int)) ∧ Below w.heap.size w w' := by
  obtain ⟨z, hz⟩ : ∃ z, w.heap.size = z := ⟨_, rfl⟩
  obtain ⟨W0, hW0⟩ : ∃ W0, w.alloc (.cells (cellsH v h) 25) = W0 := ⟨_, rfl⟩
  have h0 : W0.heap[z]? = some (.cells (cellsH v h) 25) := by rw [← hW0, ← hz]; exact heap_newW _ _
  have HW0 : Hid (w.alloc (.cells (cellsH v h) 25) = W0) := hW0
  have HB0 : Hid (Below w.heap.size w W0) := by show Below _ _ _; rw [← hW0]; exact (Below.refl _ _).alloc (Nat.le_refl _) _
  obtain ⟨c0, c1, c2, c3, c4⟩ := five_cells h0
  obtain ⟨p, hp⟩ : ∃ p, h.up.length = p := ⟨_, rfl⟩
  obtain ⟨q, hq⟩ : ∃ q, h.dn.length = q := ⟨_, rfl⟩
  obtain ⟨r, hr⟩ : ∃ r, numT p q i = r := ⟨_, rfl⟩
  have HR : Hid (numT p q i = r) := hr
  clear hW0 h0
  unfold cellsH at HW0
  unfold hvl
  rw [hp, hq] at hL ⊢
  rw [hp, hq] at HW0
  rw [hp] at c2
  rw [hq] at c4
  rw [hr]
  clear hp hq hr
  by_cases g1 : i = 4294967295
  · subst g1
    have HE : Hid (r = 4294967295) := by show _ = _; rw [← HR.out]; rfl
    go_enter Tryz.func129, Tryz.ntmps129
    go_wp2_with fail
    rw [HW0.out]
    go_wp2
    go_ret
    exact ⟨by rw [HE.out]; rfl, HB0.out⟩
  have a1 : ((i : Int) == 4294967295) = false := by simp; omega
  have a2 : (i == 4294967295) = false := by simpa using g1
  have a3 : IntKind.i64.wrap (i : Int) = (i : Int) := by rw [IntKind.wrap_i64]; omega
  by_cases g2 : i < p
  · have b1 : decide ((i : Int) < (p : Int)) = true := by simp; omega
    have b2 : decide (i < p) = true := by simpa using g2
    have b3 : IntKind.u32.wrap (q : Int) = (q : Int) := by rw [IntKind.wrap_u32]; omega
    have b4 : IntKind.u32.wrap ((q : Int) + (i : Int)) = (q : Int) + (i : Int) := by rw [IntKind.wrap_u32]; omega
    have HE : Hid (r = q + i) := by show _ = _; rw [← HR.out]; unfold numT; rw [if_neg g1, if_pos g2]
    clear g1 g2
    go_enter Tryz.func129, Tryz.ntmps129
    go_upto_region 1 with fail
    rw [HW0.out]
    go_wp2
    go_ret
    exact ⟨by rw [HE.out]; simp, HB0.out⟩
  · have b1 : decide ((i : Int) < (p : Int)) = false := by simp; omega
    have b2 : decide (i < p) = false := by simpa using g2
    have b3 : IntKind.u32.wrap (p : Int) = (p : Int) := by rw [IntKind.wrap_u32]; omega
    have b4 : IntKind.u32.wrap ((i : Int) - (p : Int)) = (r : Int) := by rw [← HR.out]; unfold numT; rw [if_neg g1, if_neg g2, IntKind.wrap_u32] <;> omega
    clear g1 g2
    go_enter Tryz.func129, Tryz.ntmps129
    go_upto_region 1 with fail
    rw [HW0.out]
    go_wp2
    go_ret
    exact ⟨by simp, HB0.out⟩
end Go.Proofs.YtodilocmfdeehaaGreatDoor.Hi

namespace Go.Proofs.YtodilocmfdeehaaGreatDoor.Hi
open Go.RowKit Go.Extern Go.Shelf

attribute [local go_sem] Oper.semAt_some

/-- a link with its children told anew, as the reference tells them. -/
def rTurnL (p q : Nat) (l : Lk) : Lk := ⟨l.hd, l.wt, numT p q l.rt, numT p q l.lf⟩
theorem build_lk (a b c d : Int) (wx : World) : (Instr.buildSlice 23 1 #[(0, .agg #[.int .u32 a, .int .u64 b, .int .u32 c, .int .u32 d])]).run Tryz.prog wx = .ok (.slice (some ⟨wx.heap.size, 0, none⟩) 1 1) (wx.alloc (.cells #[.int .u32 a, .int .u64 b, .int .u32 c, .int .u32 d] 65)) := by kernel_rfl
theorem four_at {w : World} {b : Nat} {T : TypeId} {a0 a1 a2 a3 : Value} (h : w.heap[b]? = some (.cells #[a0, a1, a2, a3] T)) : w.cell? ⟨b, 0, none⟩ = some a0 ∧ w.cell? ⟨b, 1, none⟩ = some a1 ∧ w.cell? ⟨b, 2, none⟩ = some a2 ∧ w.cell? ⟨b, 3, none⟩ = some a3 := by simp [World.cell?, h]
theorem own_upO {w w' : World} {B n z : Nat} {T : TypeId} {v : Value} {xs : List Value} (h : w.ownsRow B T z v n xs) (hb : Below w.heap.size w w') : w'.ownsRow B T z v n xs := by
  rcases h.2 with ⟨e, h0⟩ | ⟨g, cap, cur, e, hg, hh, r⟩
  · exact ⟨h.1, .inl ⟨e, h0⟩⟩
  · exact ⟨h.1, .inr ⟨g, cap, cur, e, hg, (hb.block g (some_lt hh)).trans hh, r⟩⟩

theorem own_lowO {w : World} {B B' n z : Nat} {T : TypeId} {v : Value} {xs : List Value} (h : w.ownsRow B T z v n xs) (hb : B' ≤ B) : w.ownsRow B' T z v n xs := by
  rcases h.2 with ⟨e, h0⟩ | ⟨g, cap, cur, e, hg, r⟩
  · exact ⟨h.1, .inl ⟨e, h0⟩⟩
  · exact ⟨h.1, .inr ⟨g, cap, cur, e, Nat.le_trans hb hg, r⟩⟩
theorem cells_four {w : World} {g : Nat} {a0 a1 a2 a3 : Value} (h0 : w.cell? ⟨g, 0, none⟩ = some a0) (h1 : w.cell? ⟨g, 1, none⟩ = some a1) (h2 : w.cell? ⟨g, 2, none⟩ = some a2) (h3 : w.cell? ⟨g, 3, none⟩ = some a3) : ∀ j u, [a0, a1, a2, a3][j]? = some u → w.cell? ((⟨g, 0, none⟩ : Addr).add j) = some u := fun j u hj => by
  have e : (⟨g, 0, none⟩ : Addr).add j = ⟨g, j, none⟩ := by
    by_cases h0 : j = 0
    · subst h0; rfl
    · simp [Addr.add, h0]
  rw [e]
  rcases j with _ | _ | _ | _ | j
  · simp at hj; rw [← hj]; exact h0
  · simp at hj; rw [← hj]; exact h1
  · simp at hj; rw [← hj]; exact h2
  · simp at hj; rw [← hj]; exact h3
  · simp at hj

set_option maxRecDepth 100000 in
set_option maxHeartbeats 4000000 in
theorem turned_aux (no uo ul wo dl : Option Addr) (nc uc ulc wc dlc n fu p fd q : Nat) (lo : Option Addr) (lc : Nat) (l : List Lk) (w : World) (hnum : ∀ (i : Nat) (wx : World), i < 4294967296 → Calls Tryz.prog 129 #[(.agg #[.slice no n nc, .slice uo fu uc, .slice ul p ulc, .slice wo fd wc, .slice dl q dlc]), .int .u32 (i : Int)] wx fun e w' => e = .returned (.int .u32 (numT p q i : Int)) ∧ Below wx.heap.size wx w') (hl : HasLs w (.slice lo l.length lc) l) (hm : l.length * 24 ≤ 140737488351232) :
    Calls Tryz.prog 120 #[(.agg #[.slice no n nc, .slice uo fu uc, .slice ul p ulc, .slice wo fd wc, .slice dl q dlc]), .slice lo l.length lc] w fun e w' => ∃ mo mc, e = .returned (.slice mo l.length mc) ∧ w'.ownsRow w.heap.size 65 4 (.slice mo l.length mc) l.length (lvs (l.map (rTurnL p q))) ∧ Below w.heap.size w w' := by
  obtain ⟨z, hz⟩ : ∃ z, w.heap.size = z := ⟨_, rfl⟩
  obtain ⟨W0, hW0⟩ : ∃ W0, w.alloc (.cells #[.slice no n nc, .slice uo fu uc, .slice ul p ulc, .slice wo fd wc, .slice dl q dlc] 25) = W0 := ⟨_, rfl⟩
  have HW0 : Hid (w.alloc (.cells #[.slice no n nc, .slice uo fu uc, .slice ul p ulc, .slice wo fd wc, .slice dl q dlc] 25) = W0) := hW0
  have HQ : Hid (∀ wx, Below W0.heap.size W0 wx → wx.heap[z]? = some (.cells #[.slice no n nc, .slice uo fu uc, .slice ul p ulc, .slice wo fd wc, .slice dl q dlc] 25) ∧ HasLs wx (.slice lo l.length lc) l ∧ Below w.heap.size w wx) := fun wx hx => by
    have h1 : W0.heap[z]? = some (.cells #[.slice no n nc, .slice uo fu uc, .slice ul p ulc, .slice wo fd wc, .slice dl q dlc] 25) := by rw [← hW0, ← hz]; exact heap_newW _ _
    have h2 : Below w.heap.size w W0 := by rw [← hW0]; exact (Below.refl _ _).alloc (Nat.le_refl _) _
    have h3 := btrH' h2 hx
    exact ⟨(hx.block _ (some_lt h1)).trans h1, hl.keep h3, h3⟩
  have HZ0 : Hid (z < W0.heap.size ∧ w.heap.size ≤ W0.heap.size) := by
    have h1 : W0.heap[z]? = some (.cells #[.slice no n nc, .slice uo fu uc, .slice ul p ulc, .slice wo fd wc, .slice dl q dlc] 25) := by rw [← hW0, ← hz]; exact heap_newW _ _
    exact ⟨some_lt h1, (HQ.out W0 (Below.refl _ _)).2.2.size⟩
  have HNUM : Hid (type_of% hnum) := hnum
  obtain ⟨i0, hi9, hzz⟩ := Option.map_eq_some_iff.1 infoLs
  simp only [Prod.mk.injEq] at hzz
  have HI : Hid (Tryz.prog.info? 65 = some i0 ∧ i0.zero = some (.agg #[.int .u32 0, .int .u64 0, .int .u32 0, .int .u32 0]) ∧ i0.size = 4 ∧ i0.bytes = 24) := ⟨hi9, hzz⟩
  have HW1 : Hid (Below W0.heap.size W0 W0) := Below.refl _ _
  clear hl hi9 hzz hnum hW0
  go_enter Tryz.func120, Tryz.ntmps120
  go_upto_region 1 with fail
  rw [HW0.out]
  clear HW0 hz
  go_wp2_with fail
  go_loopw [5, 10] (fun mv nv wr => ∃ (k : Nat) (so : Option Addr) (sc : Nat), k ≤ l.length ∧ nv = .int .i64 k ∧ mv = .slice so k sc ∧ Hid (wr.ownsRow W0.heap.size 65 4 (.slice so k sc) k (lvs ((l.map (rTurnL p q)).take k))) ∧ Hid (Below W0.heap.size W0 wr)) (fun _ nv _ => l.length - (intOf nv).toNat)
  case atStart => exact ⟨0, none, 0, Nat.zero_le _, rfl, rfl, World.ownsRow_nil _ _ _ _, HW1.out⟩
  case round =>
    obtain ⟨k, so, sc, hk, rfl, rfl, HO, HB⟩ := hrel
    by_cases hlt : k < l.length
    · obtain ⟨a, ha⟩ : ∃ a, l[k]? = some a := ⟨l[k], List.getElem?_eq_getElem hlt⟩
      obtain ⟨hok, b, off, hlo, hbl, c0, c1, c2, c3⟩ := ((HQ.out wr HB.out).2.1).at ha
      obtain ⟨lh, lw, ll, lr⟩ := a
      simp only at c0 c1 c2 c3
      subst hlo
      obtain ⟨x, hx⟩ : ∃ x, numT p q lr = x := ⟨_, rfl⟩
      obtain ⟨y, hy⟩ : ∃ y, numT p q ll = y := ⟨_, rfl⟩
      have HT1 : Hid ((l.map (rTurnL p q)).take (k + 1) = (l.map (rTurnL p q)).take k ++ [⟨lh, lw, x, y⟩]) := by
        show _ = _
        rw [List.take_add_one, List.getElem?_map, ha]
        show _ = _ ++ [_]
        rw [← hx, ← hy]
        rfl
      have HN1 : Hid (∀ wx, Calls Tryz.prog 129 #[(.agg #[.slice no n nc, .slice uo fu uc, .slice ul p ulc, .slice wo fd wc, .slice dl q dlc]), .int .u32 (lr : Int)] wx fun e w' => e = .returned (.int .u32 (x : Int)) ∧ Below wx.heap.size wx w') := fun wx => by rw [← hx]; exact HNUM.out lr wx hok.2.2.2
      have HN2 : Hid (∀ wx, Calls Tryz.prog 129 #[(.agg #[.slice no n nc, .slice uo fu uc, .slice ul p ulc, .slice wo fd wc, .slice dl q dlc]), .int .u32 (ll : Int)] wx fun e w' => e = .returned (.int .u32 (y : Int)) ∧ Below wx.heap.size wx w') := fun wx => by rw [← hy]; exact HNUM.out ll wx hok.2.2.1
      have i1 : (k : Int) < (l.length : Int) := by omega
      have i2 : (0 : Int) ≤ (k : Int) := by omega
      obtain ⟨bx, hbx⟩ : ∃ s, wr.heap.size = s := ⟨_, rfl⟩
      obtain ⟨W1, hW1⟩ : ∃ W1, wr.alloc (.cells #[.int .u32 (lh : Int), .int .u64 (lw : Int), .int .u32 (ll : Int), .int .u32 (lr : Int)] 65) = W1 := ⟨_, rfl⟩
      have HW1 : Hid (wr.alloc (.cells #[.int .u32 (lh : Int), .int .u64 (lw : Int), .int .u32 (ll : Int), .int .u32 (lr : Int)] 65) = W1) := hW1
      have H1 : Hid (∀ wx, Below W1.heap.size W1 wx → (wx.heap[z]? = some (.cells #[.slice no n nc, .slice uo fu uc, .slice ul p ulc, .slice wo fd wc, .slice dl q dlc] 25) ∧ wx.heap[bx]? = some (.cells #[.int .u32 (lh : Int), .int .u64 (lw : Int), .int .u32 (ll : Int), .int .u32 (lr : Int)] 65)) ∧ wx.ownsRow W0.heap.size 65 4 (.slice so k sc) k (lvs ((l.map (rTurnL p q)).take k)) ∧ Below W0.heap.size W0 wx) := fun wx hx => by
        have g1 : W1.heap[bx]? = some (.cells #[.int .u32 (lh : Int), .int .u64 (lw : Int), .int .u32 (ll : Int), .int .u32 (lr : Int)] 65) := by rw [← hW1, ← hbx]; exact heap_newW _ _
        have g2 : Below wr.heap.size wr W1 := by rw [← hW1]; exact (Below.refl _ _).alloc (Nat.le_refl _) _
        have g3 := btrH' g2 hx
        have g4 := btrH' HB.out g3
        exact ⟨⟨(HQ.out wx g4).1, (hx.block _ (some_lt g1)).trans g1⟩, own_upO HO.out g3, g4⟩
      have HOB : Hid (∀ g, (Value.slice so k sc).ownBlock = some g → g ≠ z ∧ g ≠ bx) := fun g hg => by
        have := HO.out.lt g hg
        have := HZ0.out.1
        omega
      clear hW1 ha hok hbl hx hy
      go_upto_region 5 with fail
      rw [HW1.out]
      clear HW1 c0 c1 c2 c3 hbx
      have HSS : Hid (∀ wx : World, (wx.heap[z]? = some (.cells #[.slice no n nc, .slice uo fu uc, .slice ul p ulc, .slice wo fd wc, .slice dl q dlc] 25) ∧ wx.heap[bx]? = some (.cells #[.int .u32 (lh : Int), .int .u64 (lw : Int), .int .u32 (ll : Int), .int .u32 (lr : Int)] 65)) → (fun w' => w'.cell? ⟨z, 0, none⟩ = some (.slice no n nc) ∧ w'.cell? ⟨z, 1, none⟩ = some (.slice uo fu uc) ∧ w'.cell? ⟨z, 2, none⟩ = some (.slice ul p ulc) ∧ w'.cell? ⟨z, 3, none⟩ = some (.slice wo fd wc) ∧ w'.cell? ⟨z, 4, none⟩ = some (.slice dl q dlc) ∧ w'.cell? ⟨bx, 0, none⟩ = some (.int .u32 (lh : Int)) ∧ w'.cell? ⟨bx, 1, none⟩ = some (.int .u64 (lw : Int)) ∧ w'.cell? ⟨bx, 2, none⟩ = some (.int .u32 (ll : Int)) ∧ w'.cell? ⟨bx, 3, none⟩ = some (.int .u32 (lr : Int)) ∧ Hid (w'.heap[z]? = some (.cells #[.slice no n nc, .slice uo fu uc, .slice ul p ulc, .slice wo fd wc, .slice dl q dlc] 25) ∧ w'.heap[bx]? = some (.cells #[.int .u32 (lh : Int), .int .u64 (lw : Int), .int .u32 (ll : Int), .int .u32 (lr : Int)] 65))) wx) := fun wx hx => by
        obtain ⟨a0, a1, a2, a3, a4⟩ := five_cells hx.1
        obtain ⟨b0, b1, b2, b3⟩ := four_at hx.2
        exact ⟨a0, a1, a2, a3, a4, b0, b1, b2, b3, hx⟩
      have HKS : Hid (∀ wx w' : World, (fun w' => w'.cell? ⟨z, 0, none⟩ = some (.slice no n nc) ∧ w'.cell? ⟨z, 1, none⟩ = some (.slice uo fu uc) ∧ w'.cell? ⟨z, 2, none⟩ = some (.slice ul p ulc) ∧ w'.cell? ⟨z, 3, none⟩ = some (.slice wo fd wc) ∧ w'.cell? ⟨z, 4, none⟩ = some (.slice dl q dlc) ∧ w'.cell? ⟨bx, 0, none⟩ = some (.int .u32 (lh : Int)) ∧ w'.cell? ⟨bx, 1, none⟩ = some (.int .u64 (lw : Int)) ∧ w'.cell? ⟨bx, 2, none⟩ = some (.int .u32 (ll : Int)) ∧ w'.cell? ⟨bx, 3, none⟩ = some (.int .u32 (lr : Int)) ∧ Hid (w'.heap[z]? = some (.cells #[.slice no n nc, .slice uo fu uc, .slice ul p ulc, .slice wo fd wc, .slice dl q dlc] 25) ∧ w'.heap[bx]? = some (.cells #[.int .u32 (lh : Int), .int .u64 (lw : Int), .int .u32 (ll : Int), .int .u32 (lr : Int)] 65))) wx → Below wx.heap.size wx w' → (fun w' => w'.cell? ⟨z, 0, none⟩ = some (.slice no n nc) ∧ w'.cell? ⟨z, 1, none⟩ = some (.slice uo fu uc) ∧ w'.cell? ⟨z, 2, none⟩ = some (.slice ul p ulc) ∧ w'.cell? ⟨z, 3, none⟩ = some (.slice wo fd wc) ∧ w'.cell? ⟨z, 4, none⟩ = some (.slice dl q dlc) ∧ w'.cell? ⟨bx, 0, none⟩ = some (.int .u32 (lh : Int)) ∧ w'.cell? ⟨bx, 1, none⟩ = some (.int .u64 (lw : Int)) ∧ w'.cell? ⟨bx, 2, none⟩ = some (.int .u32 (ll : Int)) ∧ w'.cell? ⟨bx, 3, none⟩ = some (.int .u32 (lr : Int)) ∧ Hid (w'.heap[z]? = some (.cells #[.slice no n nc, .slice uo fu uc, .slice ul p ulc, .slice wo fd wc, .slice dl q dlc] 25) ∧ w'.heap[bx]? = some (.cells #[.int .u32 (lh : Int), .int .u64 (lw : Int), .int .u32 (ll : Int), .int .u32 (lr : Int)] 65))) w') := fun wx w' hS hb => HSS.out w' ⟨(hb.block _ (some_lt hS.2.2.2.2.2.2.2.2.2.out.1)).trans hS.2.2.2.2.2.2.2.2.2.out.1, (hb.block _ (some_lt hS.2.2.2.2.2.2.2.2.2.out.2)).trans hS.2.2.2.2.2.2.2.2.2.out.2⟩
      have HC1 : Hid (∀ wx : World, (fun w' => w'.cell? ⟨z, 0, none⟩ = some (.slice no n nc) ∧ w'.cell? ⟨z, 1, none⟩ = some (.slice uo fu uc) ∧ w'.cell? ⟨z, 2, none⟩ = some (.slice ul p ulc) ∧ w'.cell? ⟨z, 3, none⟩ = some (.slice wo fd wc) ∧ w'.cell? ⟨z, 4, none⟩ = some (.slice dl q dlc) ∧ w'.cell? ⟨bx, 0, none⟩ = some (.int .u32 (lh : Int)) ∧ w'.cell? ⟨bx, 1, none⟩ = some (.int .u64 (lw : Int)) ∧ w'.cell? ⟨bx, 2, none⟩ = some (.int .u32 (ll : Int)) ∧ w'.cell? ⟨bx, 3, none⟩ = some (.int .u32 (lr : Int)) ∧ Hid (w'.heap[z]? = some (.cells #[.slice no n nc, .slice uo fu uc, .slice ul p ulc, .slice wo fd wc, .slice dl q dlc] 25) ∧ w'.heap[bx]? = some (.cells #[.int .u32 (lh : Int), .int .u64 (lw : Int), .int .u32 (ll : Int), .int .u32 (lr : Int)] 65))) wx → Calls Tryz.prog 129 #[(.agg #[.slice no n nc, .slice uo fu uc, .slice ul p ulc, .slice wo fd wc, .slice dl q dlc]), .int .u32 (lr : Int)] wx fun e w' => e = .returned (.int .u32 (x : Int)) ∧ Grows wx w' ∧ (fun w' => w'.cell? ⟨z, 0, none⟩ = some (.slice no n nc) ∧ w'.cell? ⟨z, 1, none⟩ = some (.slice uo fu uc) ∧ w'.cell? ⟨z, 2, none⟩ = some (.slice ul p ulc) ∧ w'.cell? ⟨z, 3, none⟩ = some (.slice wo fd wc) ∧ w'.cell? ⟨z, 4, none⟩ = some (.slice dl q dlc) ∧ w'.cell? ⟨bx, 0, none⟩ = some (.int .u32 (lh : Int)) ∧ w'.cell? ⟨bx, 1, none⟩ = some (.int .u64 (lw : Int)) ∧ w'.cell? ⟨bx, 2, none⟩ = some (.int .u32 (ll : Int)) ∧ w'.cell? ⟨bx, 3, none⟩ = some (.int .u32 (lr : Int)) ∧ Hid (w'.heap[z]? = some (.cells #[.slice no n nc, .slice uo fu uc, .slice ul p ulc, .slice wo fd wc, .slice dl q dlc] 25) ∧ w'.heap[bx]? = some (.cells #[.int .u32 (lh : Int), .int .u64 (lw : Int), .int .u32 (ll : Int), .int .u32 (lr : Int)] 65))) w') := fun wx hS => (HN1.out wx).mono (by rintro e w' ⟨rfl, hb⟩; exact ⟨rfl, hb, HKS.out wx w' hS hb⟩)
      have HC2 : Hid (∀ wx : World, (fun w' => w'.cell? ⟨z, 0, none⟩ = some (.slice no n nc) ∧ w'.cell? ⟨z, 1, none⟩ = some (.slice uo fu uc) ∧ w'.cell? ⟨z, 2, none⟩ = some (.slice ul p ulc) ∧ w'.cell? ⟨z, 3, none⟩ = some (.slice wo fd wc) ∧ w'.cell? ⟨z, 4, none⟩ = some (.slice dl q dlc) ∧ w'.cell? ⟨bx, 0, none⟩ = some (.int .u32 (lh : Int)) ∧ w'.cell? ⟨bx, 1, none⟩ = some (.int .u64 (lw : Int)) ∧ w'.cell? ⟨bx, 2, none⟩ = some (.int .u32 (ll : Int)) ∧ w'.cell? ⟨bx, 3, none⟩ = some (.int .u32 (lr : Int)) ∧ Hid (w'.heap[z]? = some (.cells #[.slice no n nc, .slice uo fu uc, .slice ul p ulc, .slice wo fd wc, .slice dl q dlc] 25) ∧ w'.heap[bx]? = some (.cells #[.int .u32 (lh : Int), .int .u64 (lw : Int), .int .u32 (ll : Int), .int .u32 (lr : Int)] 65))) wx → Calls Tryz.prog 129 #[(.agg #[.slice no n nc, .slice uo fu uc, .slice ul p ulc, .slice wo fd wc, .slice dl q dlc]), .int .u32 (ll : Int)] wx fun e w' => e = .returned (.int .u32 (y : Int)) ∧ Grows wx w' ∧ (fun w' => w'.cell? ⟨z, 0, none⟩ = some (.slice no n nc) ∧ w'.cell? ⟨z, 1, none⟩ = some (.slice uo fu uc) ∧ w'.cell? ⟨z, 2, none⟩ = some (.slice ul p ulc) ∧ w'.cell? ⟨z, 3, none⟩ = some (.slice wo fd wc) ∧ w'.cell? ⟨z, 4, none⟩ = some (.slice dl q dlc) ∧ w'.cell? ⟨bx, 0, none⟩ = some (.int .u32 (lh : Int)) ∧ w'.cell? ⟨bx, 1, none⟩ = some (.int .u64 (lw : Int)) ∧ w'.cell? ⟨bx, 2, none⟩ = some (.int .u32 (ll : Int)) ∧ w'.cell? ⟨bx, 3, none⟩ = some (.int .u32 (lr : Int)) ∧ Hid (w'.heap[z]? = some (.cells #[.slice no n nc, .slice uo fu uc, .slice ul p ulc, .slice wo fd wc, .slice dl q dlc] 25) ∧ w'.heap[bx]? = some (.cells #[.int .u32 (lh : Int), .int .u64 (lw : Int), .int .u32 (ll : Int), .int .u32 (lr : Int)] 65))) w') := fun wx hS => (HN2.out wx).mono (by rintro e w' ⟨rfl, hb⟩; exact ⟨rfl, hb, HKS.out wx w' hS hb⟩)
      refine wp_region_M (S := (fun w' => w'.cell? ⟨z, 0, none⟩ = some (.slice no n nc) ∧ w'.cell? ⟨z, 1, none⟩ = some (.slice uo fu uc) ∧ w'.cell? ⟨z, 2, none⟩ = some (.slice ul p ulc) ∧ w'.cell? ⟨z, 3, none⟩ = some (.slice wo fd wc) ∧ w'.cell? ⟨z, 4, none⟩ = some (.slice dl q dlc) ∧ w'.cell? ⟨bx, 0, none⟩ = some (.int .u32 (lh : Int)) ∧ w'.cell? ⟨bx, 1, none⟩ = some (.int .u64 (lw : Int)) ∧ w'.cell? ⟨bx, 2, none⟩ = some (.int .u32 (ll : Int)) ∧ w'.cell? ⟨bx, 3, none⟩ = some (.int .u32 (lr : Int)) ∧ Hid (w'.heap[z]? = some (.cells #[.slice no n nc, .slice uo fu uc, .slice ul p ulc, .slice wo fd wc, .slice dl q dlc] 25) ∧ w'.heap[bx]? = some (.cells #[.int .u32 (lh : Int), .int .u64 (lw : Int), .int .u32 (ll : Int), .int .u32 (lr : Int)] 65)))) (by kernel_rfl) (HSS.out _ (H1.out _ (Below.refl _ _).drew).1) ?_
      refine wpAnyM_take (i := 0) (oi := { dst := Option.some 14, op := Op.move (Operand.tmp 5), type := 23, pos := "ref.go:206", after := #[], guard := Option.none }) (v := ?va0) rfl (by kernel_rfl) (by kernel_rfl) (by kernel_rfl) (fun _ _ _ h => h) (YieldsM.of_if (Or.inl ⟨by rfl, ?ha0⟩)) ?ra0
      case ha0 => ((intro wz hSw; (try dsimp only at hSw); go_simp); try (with_reducible rfl))
      try simp only [Act.put, List.setIfInBounds_toArray, List.set_cons_zero, List.set_cons_succ]
      refine wpAnyM_take (i := 1) (oi := { dst := Option.some 15, op := Op.fieldAddr 65 (Operand.tmp 7) 0, type := 0, pos := "ref.go:206", after := #[], guard := Option.none }) (v := ?va1) rfl (by kernel_rfl) (by kernel_rfl) (by kernel_rfl) (fun _ _ _ h => h) (YieldsM.of_if (Or.inl ⟨by rfl, ?ha1⟩)) ?ra1
      case ha1 => ((intro wz hSw; (try dsimp only at hSw); go_simp); try (with_reducible rfl))
      try simp only [Act.put, List.setIfInBounds_toArray, List.set_cons_zero, List.set_cons_succ]
      refine wpAnyM_take (i := 2) (oi := { dst := Option.some 16, op := Op.load 62 (Operand.tmp 15), type := 62, pos := "ref.go:206", after := #[{ on := 1, ground := Ground.data }], guard := Option.none }) (v := ?va2) rfl (by kernel_rfl) (by kernel_rfl) (by kernel_rfl) (fun _ _ _ h => h) (YieldsM.of_if (Or.inl ⟨by rfl, ?ha2⟩)) ?ra2
      case ha2 => ((intro wz hSw; (try dsimp only at hSw); go_simp); try (with_reducible rfl))
      try simp only [Act.put, List.setIfInBounds_toArray, List.set_cons_zero, List.set_cons_succ]
      refine wpAnyM_take (i := 3) (oi := { dst := Option.some 17, op := Op.fieldAddr 65 (Operand.tmp 7) 1, type := 0, pos := "ref.go:206", after := #[], guard := Option.none }) (v := ?va3) rfl (by kernel_rfl) (by kernel_rfl) (by kernel_rfl) (fun _ _ _ h => h) (YieldsM.of_if (Or.inl ⟨by rfl, ?ha3⟩)) ?ra3
      case ha3 => ((intro wz hSw; (try dsimp only at hSw); go_simp); try (with_reducible rfl))
      try simp only [Act.put, List.setIfInBounds_toArray, List.set_cons_zero, List.set_cons_succ]
      refine wpAnyM_take (i := 4) (oi := { dst := Option.some 18, op := Op.load 45 (Operand.tmp 17), type := 45, pos := "ref.go:206", after := #[{ on := 3, ground := Ground.data }], guard := Option.none }) (v := ?va4) rfl (by kernel_rfl) (by kernel_rfl) (by kernel_rfl) (fun _ _ _ h => h) (YieldsM.of_if (Or.inl ⟨by rfl, ?ha4⟩)) ?ra4
      case ha4 => ((intro wz hSw; (try dsimp only at hSw); go_simp); try (with_reducible rfl))
      try simp only [Act.put, List.setIfInBounds_toArray, List.set_cons_zero, List.set_cons_succ]
      refine wpAnyM_take (i := 5) (oi := { dst := Option.some 19, op := Op.load 25 (Operand.tmp 2), type := 25, pos := "ref.go:206", after := #[], guard := Option.none }) (v := ?va5) rfl (by kernel_rfl) (by kernel_rfl) (by kernel_rfl) (fun _ _ _ h => h) (YieldsM.of_if (Or.inl ⟨by rfl, ?ha5⟩)) ?ra5
      case ha5 => ((intro wz hSw; (try dsimp only at hSw); go_simp); try (with_reducible rfl))
      try simp only [Act.put, List.setIfInBounds_toArray, List.set_cons_zero, List.set_cons_succ]
      refine wpAnyM_take (i := 6) (oi := { dst := Option.some 20, op := Op.fieldAddr 65 (Operand.tmp 7) 3, type := 0, pos := "ref.go:206", after := #[], guard := Option.none }) (v := ?va6) rfl (by kernel_rfl) (by kernel_rfl) (by kernel_rfl) (fun _ _ _ h => h) (YieldsM.of_if (Or.inl ⟨by rfl, ?ha6⟩)) ?ra6
      case ha6 => ((intro wz hSw; (try dsimp only at hSw); go_simp); try (with_reducible rfl))
      try simp only [Act.put, List.setIfInBounds_toArray, List.set_cons_zero, List.set_cons_succ]
      refine wpAnyM_take (i := 7) (oi := { dst := Option.some 21, op := Op.load 62 (Operand.tmp 20), type := 62, pos := "ref.go:206", after := #[{ on := 6, ground := Ground.data }], guard := Option.none }) (v := ?va7) rfl (by kernel_rfl) (by kernel_rfl) (by kernel_rfl) (fun _ _ _ h => h) (YieldsM.of_if (Or.inl ⟨by rfl, ?ha7⟩)) ?ra7
      case ha7 => ((intro wz hSw; (try dsimp only at hSw); go_simp); try (with_reducible rfl))
      try simp only [Act.put, List.setIfInBounds_toArray, List.set_cons_zero, List.set_cons_succ]
      refine wpAnyM_take (i := 8) (oi := { dst := Option.some 22, op := Op.call { callee := Callee.value (Operand.func 129), args := #[Operand.tmp 19, Operand.tmp 21], argTypes := #[25, 62] }, type := 62, pos := "ref.go:206", after := #[{ on := 5, ground := Ground.data }, { on := 7, ground := Ground.data }], guard := Option.none }) (v := (.int .u32 (x : Int))) rfl (by kernel_rfl) (by kernel_rfl) (by kernel_rfl) (fun _ _ _ h => h) (YieldsM.of_call (f := 129) (by rfl) (fun _ _ => by kernel_rfl) (HC1.out)) ?_
      try simp only [Act.put, List.setIfInBounds_toArray, List.set_cons_zero, List.set_cons_succ]
      refine wpAnyM_take (i := 9) (oi := { dst := Option.some 23, op := Op.load 25 (Operand.tmp 2), type := 25, pos := "ref.go:206", after := #[], guard := Option.none }) (v := ?va9) rfl (by kernel_rfl) (by kernel_rfl) (by kernel_rfl) (fun _ _ _ h => h) (YieldsM.of_if (Or.inl ⟨by rfl, ?ha9⟩)) ?ra9
      case ha9 => ((intro wz hSw; (try dsimp only at hSw); go_simp); try (with_reducible rfl))
      try simp only [Act.put, List.setIfInBounds_toArray, List.set_cons_zero, List.set_cons_succ]
      refine wpAnyM_take (i := 10) (oi := { dst := Option.some 24, op := Op.fieldAddr 65 (Operand.tmp 7) 2, type := 0, pos := "ref.go:206", after := #[], guard := Option.none }) (v := ?va10) rfl (by kernel_rfl) (by kernel_rfl) (by kernel_rfl) (fun _ _ _ h => h) (YieldsM.of_if (Or.inl ⟨by rfl, ?ha10⟩)) ?ra10
      case ha10 => ((intro wz hSw; (try dsimp only at hSw); go_simp); try (with_reducible rfl))
      try simp only [Act.put, List.setIfInBounds_toArray, List.set_cons_zero, List.set_cons_succ]
      refine wpAnyM_take (i := 11) (oi := { dst := Option.some 25, op := Op.load 62 (Operand.tmp 24), type := 62, pos := "ref.go:206", after := #[{ on := 10, ground := Ground.data }], guard := Option.none }) (v := ?va11) rfl (by kernel_rfl) (by kernel_rfl) (by kernel_rfl) (fun _ _ _ h => h) (YieldsM.of_if (Or.inl ⟨by rfl, ?ha11⟩)) ?ra11
      case ha11 => ((intro wz hSw; (try dsimp only at hSw); go_simp); try (with_reducible rfl))
      try simp only [Act.put, List.setIfInBounds_toArray, List.set_cons_zero, List.set_cons_succ]
      refine wpAnyM_take (i := 12) (oi := { dst := Option.some 26, op := Op.call { callee := Callee.value (Operand.func 129), args := #[Operand.tmp 23, Operand.tmp 25], argTypes := #[25, 62] }, type := 62, pos := "ref.go:206", after := #[{ on := 9, ground := Ground.data }, { on := 11, ground := Ground.data }, { on := 8, ground := Ground.chain }], guard := Option.none }) (v := (.int .u32 (y : Int))) rfl (by kernel_rfl) (by kernel_rfl) (by kernel_rfl) (fun _ _ _ h => h) (YieldsM.of_call (f := 129) (by rfl) (fun _ _ => by kernel_rfl) (HC2.out)) ?_
      try simp only [Act.put, List.setIfInBounds_toArray, List.set_cons_zero, List.set_cons_succ]
      refine wpAnyM_take (i := 13) (oi := { dst := Option.some 27, op := Op.build 65 #[(0, Operand.tmp 16), (1, Operand.tmp 18), (2, Operand.tmp 22), (3, Operand.tmp 26)], type := 65, pos := "ref.go:206", after := #[{ on := 2, ground := Ground.data }, { on := 4, ground := Ground.data }, { on := 8, ground := Ground.data }, { on := 12, ground := Ground.data }], guard := Option.none }) (v := ?va13) rfl (by kernel_rfl) (by kernel_rfl) (by kernel_rfl) (fun _ _ _ h => h) (YieldsM.of_if (Or.inl ⟨by rfl, ?ha13⟩)) ?ra13
      case ha13 => ((intro wz hSw; (try dsimp only at hSw); go_simp); try (with_reducible rfl))
      try simp only [Act.put, List.setIfInBounds_toArray, List.set_cons_zero, List.set_cons_succ]
      have F1 : Hid (∀ wx, Below W1.drew.heap.size W1.drew wx → (wx.heap[z]? = some (.cells #[.slice no n nc, .slice uo fu uc, .slice ul p ulc, .slice wo fd wc, .slice dl q dlc] 25) ∧ wx.heap[bx]? = some (.cells #[.int .u32 (lh : Int), .int .u64 (lw : Int), .int .u32 (ll : Int), .int .u32 (lr : Int)] 65)) ∧ wx.ownsRow W0.heap.size 65 4 (.slice so k sc) k (lvs ((l.map (rTurnL p q)).take k)) ∧ Below W0.heap.size W0 wx) := fun wx hx => H1.out wx (btrH' (Below.refl _ _).drew hx)
      refine readyM (i := 14) (o := { dst := Option.some 28, op := Op.buildSlice 23 1 #[(0, Operand.tmp 27)], type := 23, pos := "ref.go:206", after := #[{ on := 13, ground := Ground.data }], guard := Option.none }) rfl (by kernel_rfl) ?_
      intro u1 hg1 hS1 K hK
      have hf := F1.out u1 hg1
      have hbs := build_lk (lh : Int) (lw : Int) (x : Int) (y : Int)
      have F2 : Hid (∀ wx, Below (u1.alloc (.cells #[.int .u32 (lh : Int), .int .u64 (lw : Int), .int .u32 (x : Int), .int .u32 (y : Int)] 65)).heap.size (u1.alloc (.cells #[.int .u32 (lh : Int), .int .u64 (lw : Int), .int .u32 (x : Int), .int .u32 (y : Int)] 65)) wx → ((wx.heap[z]? = some (.cells #[.slice no n nc, .slice uo fu uc, .slice ul p ulc, .slice wo fd wc, .slice dl q dlc] 25) ∧ wx.heap[bx]? = some (.cells #[.int .u32 (lh : Int), .int .u64 (lw : Int), .int .u32 (ll : Int), .int .u32 (lr : Int)] 65)) ∧ wx.ownsRow W0.heap.size 65 4 (.slice so k sc) k (lvs ((l.map (rTurnL p q)).take k)) ∧ Below W0.heap.size W0 wx) ∧ wx.heap[u1.heap.size]? = some (.cells #[.int .u32 (lh : Int), .int .u64 (lw : Int), .int .u32 (x : Int), .int .u32 (y : Int)] 65)) := fun wx hx => by
        have g1 := heap_newW u1 (.cells #[.int .u32 (lh : Int), .int .u64 (lw : Int), .int .u32 (x : Int), .int .u32 (y : Int)] 65)
        have g2 : Below u1.heap.size u1 (u1.alloc (.cells #[.int .u32 (lh : Int), .int .u64 (lw : Int), .int .u32 (x : Int), .int .u32 (y : Int)] 65)) := (Below.refl _ _).alloc (Nat.le_refl _) _
        exact ⟨F1.out wx (btrH' hg1 (btrH' g2 hx)), (hx.block _ (some_lt g1)).trans g1⟩
      clear hS1
      go_simp
      refine hK.out _ _ (HSS.out _ (F2.out _ (Below.refl _ _)).1.1) ?_
      clear hK K hbs
      obtain ⟨g, hgg⟩ : ∃ g, u1.heap.size = g := ⟨_, rfl⟩
      rw [hgg] at F2 ⊢
      generalize u1.alloc (.cells #[.int .u32 (lh : Int), .int .u64 (lw : Int), .int .u32 (x : Int), .int .u32 (y : Int)] 65) = U2 at F2 ⊢
      clear hgg hf hg1 F1
      try simp only [Act.put, List.setIfInBounds_toArray, List.set_cons_zero, List.set_cons_succ]
      refine readyM (i := 15) (o := { dst := Option.some 29, op := Op.call { callee := Callee.builtin Builtin.append, args := #[Operand.tmp 14, Operand.tmp 28], argTypes := #[23, 23] }, type := 23, pos := "ref.go:206", after := #[{ on := 0, ground := Ground.data }, { on := 14, ground := Ground.data }, { on := 12, ground := Ground.chain }], guard := Option.none }) rfl (by kernel_rfl) ?_
      intro u3 hg3 hS3 K hK
      rw [if_pos (by rfl)]
      have hf := F2.out u3 hg3
      refine wp_append_own u3 _ _ 23 rfl W0.heap.size 65 i0 (.agg #[.int .u32 0, .int .u64 0, .int .u32 0, .int .u32 0]) 4 24 Tryz.underlying23 HI.out.1 HI.out.2.1 HI.out.2.2.1 HI.out.2.2.2 rfl (by decide) (.slice so k sc) k (lvs ((l.map (rTurnL p q)).take k)) rfl hf.1.2.1 ⟨g, 0, none⟩ 1 1 (lvs [⟨lh, lw, x, y⟩]) rfl rfl (by
        obtain ⟨b0, b1, b2, b3⟩ := four_at hf.2
        exact cells_four b0 b1 b2 b3) (lvs_one _) (by unfold maxLen; omega) (by omega) hf.1.2.2.size ?_
      intro v5 w5 hown5 hgr5 _
      have H5 : Hid (w5.ownsRow W0.heap.size 65 4 v5 (k + 1) (lvs ((l.map (rTurnL p q)).take (k + 1))) ∧ Below W0.heap.size W0 w5) := ⟨by rw [HT1.out, lvs_append]; exact hown5, below_grown hf.1.2.2 hf.1.2.1 hgr5 hf.1.2.2.size⟩
      have HZB : Hid (w5.heap[z]? = some (.cells #[.slice no n nc, .slice uo fu uc, .slice ul p ulc, .slice wo fd wc, .slice dl q dlc] 25) ∧ w5.heap[bx]? = some (.cells #[.int .u32 (lh : Int), .int .u64 (lw : Int), .int .u32 (ll : Int), .int .u32 (lr : Int)] 65)) := ⟨(hgr5.block z (some_lt hf.1.1.1) (fun e => (HOB.out z e.symm).1 rfl)).trans hf.1.1.1, (hgr5.block bx (some_lt hf.1.1.2) (fun e => (HOB.out bx e.symm).2 rfl)).trans hf.1.1.2⟩
      clear hown5 hgr5 hf hg3 hS3 F2
      obtain ⟨po, pc, hv5⟩ := own_slice H5.out.1
      subst hv5
      refine hK.out _ _ (HSS.out _ HZB.out) ?_
      clear hK K
      try simp only [Act.put, List.setIfInBounds_toArray, List.set_cons_zero, List.set_cons_succ]
      refine wpAnyM_take (i := 16) (oi := { dst := Option.some 5, op := Op.assign (Operand.tmp 29), type := 23, pos := "ref.go:206", after := #[{ on := 15, ground := Ground.data }, { on := 15, ground := Ground.chain }, { on := 0, ground := Ground.phase }, { on := 1, ground := Ground.phase }, { on := 2, ground := Ground.phase }, { on := 3, ground := Ground.phase }, { on := 4, ground := Ground.phase }, { on := 5, ground := Ground.phase }, { on := 6, ground := Ground.phase }, { on := 7, ground := Ground.phase }, { on := 8, ground := Ground.phase }, { on := 9, ground := Ground.phase }, { on := 10, ground := Ground.phase }, { on := 11, ground := Ground.phase }, { on := 12, ground := Ground.phase }, { on := 13, ground := Ground.phase }, { on := 14, ground := Ground.phase }, { on := 15, ground := Ground.phase }], guard := Option.none }) (v := ?vc16) rfl (by kernel_rfl) (by kernel_rfl) (by kernel_rfl) (fun _ _ _ h => h) (YieldsM.of_if (Or.inl ⟨by rfl, ?hc16⟩)) ?rc16
      case hc16 => ((intro wz hSw; (try dsimp only at hSw); go_simp); try (with_reducible rfl))
      try simp only [Act.put, List.setIfInBounds_toArray, List.set_cons_zero, List.set_cons_succ]
      refine wpAnyM_done (by kernel_rfl) ?_ _
      intro u6 hg6 hS6
      have H6 : Hid (u6.ownsRow W0.heap.size 65 4 (.slice po (k + 1) pc) (k + 1) (lvs ((l.map (rTurnL p q)).take (k + 1))) ∧ Below W0.heap.size W0 u6) := ⟨own_upO H5.out.1 hg6, btrH' H5.out.2 hg6⟩
      clear hS6 hg6 H5 HZB
      go_wp2
      go_roundw
      case rel => exact ⟨k + 1, po, pc, by omega, by go_num, rfl, H6.out.1, H6.out.2⟩
      case measure => simp [intOf]; omega
    · obtain rfl : k = l.length := by omega
      have HK2 : Hid (wr.ownsRow w.heap.size 65 4 (.slice so l.length sc) l.length (lvs (l.map (rTurnL p q))) ∧ Below w.heap.size w wr) := ⟨own_lowO (by have g := HO.out; rw [show l.length = (l.map (rTurnL p q)).length by simp, List.take_length] at g; simpa using g) HZ0.out.2, (HQ.out wr HB.out).2.2⟩
      clear HO HB
      go_wp2_with fail
      go_ret
      exact ⟨so, sc, rfl, HK2.out.1, HK2.out.2⟩
theorem turned_calls (v : HV) (h : Hr) (lo : Option Addr) (lc : Nat) (l : List Lk) (w : World) (hl : HasLs w (.slice lo l.length lc) l) (hm : l.length * 24 ≤ 140737488351232) (hL : h.up.length + h.dn.length ≤ 1048576) :
    Calls Tryz.prog 120 #[hvl v h, .slice lo l.length lc] w fun e w' => ∃ mo mc, e = .returned (.slice mo l.length mc) ∧ w'.ownsRow w.heap.size 65 4 (.slice mo l.length mc) l.length (lvs (l.map (rTurnL h.up.length h.dn.length))) ∧ Below w.heap.size w w' :=
  turned_aux v.no v.uo v.ul v.wo v.dl v.nc v.uc v.ulc v.wc v.dlc h.node.length h.upF.length h.up.length h.dnF.length h.dn.length lo lc l w (fun i wx hi => number_calls v h i wx hi hL) hl hm
/-- the rows lie no lower. -/
def HighV (B : Nat) (u : HV) : Prop := (∀ a, u.no = some a → B ≤ a.block) ∧ (∀ a, u.uo = some a → B ≤ a.block) ∧ (∀ a, u.ul = some a → B ≤ a.block) ∧ (∀ a, u.wo = some a → B ≤ a.block) ∧ ∀ a, u.dl = some a → B ≤ a.block
theorem rturn_eq {h : Hr} (hc : chk h = (0, [])) {l : Lk} (hl : l ∈ h.up ∨ l ∈ h.dn) : rTurnL h.up.length h.dn.length l = turnL h.up.length h.dn.length l := by
  obtain ⟨k1, k2, _⟩ := chk_ok hc
  unfold rTurnL turnL
  by_cases hp : l.plain = true
  · rw [if_pos hp]
    obtain ⟨lh, lw, ll, lr⟩ := l
    simp only [Lk.plain] at hp
    simp at hp
    obtain ⟨rfl, rfl⟩ := hp
    rfl
  · rw [if_neg hp]
    obtain ⟨q1, q2, q3⟩ := kids_mem hc hl (by simpa using hp)
    unfold numT
    rw [if_neg (by omega), if_pos q3, if_neg (by omega), if_neg (by omega)]
theorem rturn_map {h : Hr} (hc : chk h = (0, [])) {L : List Lk} (hl : L = h.up ∨ L = h.dn) : L.map (rTurnL h.up.length h.dn.length) = L.map (turnL h.up.length h.dn.length) := by
  refine List.map_congr_left fun l hm => rturn_eq hc ?_
  rcases hl with rfl | rfl
  · exact Or.inl hm
  · exact Or.inr hm
theorem rturn_res {W : World} {z : Nat} {x0 x1 x2 x3 x4 : Value} {tmps : Array Value} (h1 : W.heap[z]? = some (.cells #[x0, x1, x2, x3, x4] 25)) (t4 : tmps[2]?.getD undef = .pointer (some ⟨z, 0, none⟩)) :
    (results Tryz.f101 tmps).run Tryz.prog W = .ok (.agg #[x0, x1, x2, x3, x4]) W := by
  obtain ⟨c0, c1, c2, c3, c4⟩ := five_cells h1
  simp [results, Tryz.results101, go_sem, t4, c0, c1, c2, c3, c4]

set_option maxRecDepth 100000 in
set_option maxHeartbeats 4000000 in
theorem rTurn_high (v : HV) (h : Hr) (w : World) (hH : HasH w v h) (hr : Reach h) (hc : chk h = (0, [])) :
    Calls Tryz.prog 101 #[hvl v h] w fun e w' => ∃ u, e = .returned (hvl u (turnH h)) ∧ HasH w' u (turnH h) ∧ HighV w.heap.size u ∧ Below w.heap.size w w' := by
  obtain ⟨z, hz⟩ : ∃ z, w.heap.size = z := ⟨_, rfl⟩
  obtain ⟨W0, hW0⟩ : ∃ W0, (w.alloc (.cells (cellsH v h) 25)).alloc (.cells #[.slice none 0 0, .slice none 0 0, .slice none 0 0, .slice none 0 0, .slice none 0 0] 25) = W0 := ⟨_, rfl⟩
  have hB0 : Below w.heap.size w W0 := by rw [← hW0]; exact ((Below.refl _ w).alloc (Nat.le_refl _) _).alloc (by simp) _
  have h0 : W0.heap[z]? = some (.cells (cellsH v h) 25) := by
    rw [← hW0, ← hz]; exact (Below.heap_alloc _ _ _ (by simp)).trans (heap_newW _ _)
  have h1 : W0.heap[z + 1]? = some (.cells #[.slice none 0 0, .slice none 0 0, .slice none 0 0, .slice none 0 0, .slice none 0 0] 25) := by
    have g := heap_newW (w.alloc (.cells (cellsH v h) 25)) (.cells #[.slice none 0 0, .slice none 0 0, .slice none 0 0, .slice none 0 0, .slice none 0 0] 25)
    rw [World.size_alloc, hW0, hz] at g
    exact g
  have hpq : h.up.length + h.dn.length ≤ 1048576 := (chk_ok hc).2.1
  have HOKL : Hid ((∀ l ∈ h.dn.map (turnL h.up.length h.dn.length), l.ok) ∧ ∀ l ∈ h.up.map (turnL h.up.length h.dn.length), l.ok) := by
    refine ⟨fun l hl => ?_, fun l hl => ?_⟩
    · obtain ⟨m, hm, rfl⟩ := List.mem_map.1 hl
      exact turnL_ok hpq (fun hp => kids_mem hc (Or.inr hm) hp) (hH.dn.ok m hm)
    · obtain ⟨m, hm, rfl⟩ := List.mem_map.1 hl
      exact turnL_ok hpq (fun hp => kids_mem hc (Or.inl hm) hp) (hH.up.ok m hm)
  have HB0 : Hid (∀ wx, Below W0.heap.size W0 wx → Below w.heap.size w wx ∧ wx.heap[z + 1]? = some (.cells #[.slice none 0 0, .slice none 0 0, .slice none 0 0, .slice none 0 0, .slice none 0 0] 25)) := fun wx hx => ⟨hB0.trans (hx.mono hB0.size), (hx.block _ (some_lt h1)).trans h1⟩
  have HQ : Hid (∀ wx, Below W0.heap.size W0 wx → wx.cell? ⟨z, 0, none⟩ = some (.slice v.no h.node.length v.nc) ∧ wx.cell? ⟨z, 1, none⟩ = some (.slice v.uo h.upF.length v.uc) ∧ wx.cell? ⟨z, 2, none⟩ = some (.slice v.ul h.up.length v.ulc) ∧ wx.cell? ⟨z, 3, none⟩ = some (.slice v.wo h.dnF.length v.wc) ∧ wx.cell? ⟨z, 4, none⟩ = some (.slice v.dl h.dn.length v.dlc)) := fun wx hx => five_cells ((hx.block _ (some_lt h0)).trans h0)
  have HZ : Hid (∀ wx, Below W0.heap.size W0 wx → (∀ i, i < 5 → wx.cell? ⟨z + 1, i, none⟩ = some (.slice none 0 0)) ∧ ∀ i, wx.frozen? ⟨z + 1, i, none⟩ = false) := fun wx hx => by
    have g := (hx.block _ (some_lt h1)).trans h1
    refine ⟨fun i hi => ?_, fun i => by simp [World.frozen?, g]⟩
    rcases (show i = 0 ∨ i = 1 ∨ i = 2 ∨ i = 3 ∨ i = 4 by omega) with rfl | rfl | rfl | rfl | rfl <;> simp [World.cell?, g]
  have H1 : Hid (∀ wx, Below W0.heap.size W0 wx → Calls Tryz.prog 33 #[.slice v.no h.node.length v.nc] wx fun e w' => ∃ mo mc, e = .returned (.slice mo h.node.length mc) ∧ HasWs w' (.slice mo h.node.length mc) h.node ∧ (∀ a, mo = some a → W0.heap.size ≤ a.block) ∧ Below wx.heap.size wx w') := fun wx hx => (twords_calls _ _ _ wx (hH.node.keep (hB0.trans (hx.mono hB0.size))) hr.node).mono (by rintro e w' ⟨mo, mc, rfl, ho, hb⟩; exact ⟨mo, mc, rfl, ws_of_own ho hH.node.ok, fun a ea => Nat.le_trans hx.size (own_high ho a ea), hb⟩)
  have H2 : Hid (∀ wx, Below W0.heap.size W0 wx → Calls Tryz.prog 33 #[.slice v.wo h.dnF.length v.wc] wx fun e w' => ∃ mo mc, e = .returned (.slice mo h.dnF.length mc) ∧ HasWs w' (.slice mo h.dnF.length mc) h.dnF ∧ (∀ a, mo = some a → W0.heap.size ≤ a.block) ∧ Below wx.heap.size wx w') := fun wx hx => (twords_calls _ _ _ wx (hH.dnF.keep (hB0.trans (hx.mono hB0.size))) hr.dnF).mono (by rintro e w' ⟨mo, mc, rfl, ho, hb⟩; exact ⟨mo, mc, rfl, ws_of_own ho hH.dnF.ok, fun a ea => Nat.le_trans hx.size (own_high ho a ea), hb⟩)
  have H3 : Hid (∀ wx, Below W0.heap.size W0 wx → Calls Tryz.prog 120 #[hvl v h, .slice v.dl h.dn.length v.dlc] wx fun e w' => ∃ mo mc, e = .returned (.slice mo h.dn.length mc) ∧ HasLs w' (.slice mo h.dn.length mc) (h.dn.map (turnL h.up.length h.dn.length)) ∧ (∀ a, mo = some a → W0.heap.size ≤ a.block) ∧ Below wx.heap.size wx w') := fun wx hx => (turned_calls v h _ _ _ wx (hH.dn.keep (hB0.trans (hx.mono hB0.size))) hr.dn hpq).mono (by
    rintro e w' ⟨mo, mc, rfl, ho, hb⟩
    rw [rturn_map hc (Or.inr rfl)] at ho
    exact ⟨mo, mc, rfl, ls_of_own (by rw [List.length_map]; exact ho) HOKL.out.1, fun a ea => Nat.le_trans hx.size (own_high ho a ea), hb⟩)
  have H4 : Hid (∀ wx, Below W0.heap.size W0 wx → Calls Tryz.prog 33 #[.slice v.uo h.upF.length v.uc] wx fun e w' => ∃ mo mc, e = .returned (.slice mo h.upF.length mc) ∧ HasWs w' (.slice mo h.upF.length mc) h.upF ∧ (∀ a, mo = some a → W0.heap.size ≤ a.block) ∧ Below wx.heap.size wx w') := fun wx hx => (twords_calls _ _ _ wx (hH.upF.keep (hB0.trans (hx.mono hB0.size))) hr.upF).mono (by rintro e w' ⟨mo, mc, rfl, ho, hb⟩; exact ⟨mo, mc, rfl, ws_of_own ho hH.upF.ok, fun a ea => Nat.le_trans hx.size (own_high ho a ea), hb⟩)
  have H5 : Hid (∀ wx, Below W0.heap.size W0 wx → Calls Tryz.prog 120 #[hvl v h, .slice v.ul h.up.length v.ulc] wx fun e w' => ∃ mo mc, e = .returned (.slice mo h.up.length mc) ∧ HasLs w' (.slice mo h.up.length mc) (h.up.map (turnL h.up.length h.dn.length)) ∧ (∀ a, mo = some a → W0.heap.size ≤ a.block) ∧ Below wx.heap.size wx w') := fun wx hx => (turned_calls v h _ _ _ wx (hH.up.keep (hB0.trans (hx.mono hB0.size))) hr.up hpq).mono (by
    rintro e w' ⟨mo, mc, rfl, ho, hb⟩
    rw [rturn_map hc (Or.inl rfl)] at ho
    exact ⟨mo, mc, rfl, ls_of_own (by rw [List.length_map]; exact ho) HOKL.out.2, fun a ea => Nat.le_trans hx.size (own_high ho a ea), hb⟩)
  have HW0 : Hid ((w.alloc (.cells (cellsH v h) 25)).alloc (.cells #[.slice none 0 0, .slice none 0 0, .slice none 0 0, .slice none 0 0, .slice none 0 0] 25) = W0) := hW0
  have HLE : Hid (w.heap.size ≤ W0.heap.size) := hB0.size
  clear hW0 h0 h1 hB0 hH hr hc hpq HOKL
  have Y0 : Hid (Below W0.heap.size W0 W0) := Below.refl _ _
  obtain ⟨a0, a1, a2, a3, a4⟩ := HQ.out W0 Y0.out
  have HZZ : Hid (w.heap.size = z) := hz
  unfold cellsH at HW0
  unfold hvl at H3 H5
  unfold hvl
  go_enter Tryz.func101, Tryz.ntmps101
  go_upto_region 1 with fail
  rw [HW0.out]
  go_region_held3 (fun w' => w'.cell? ⟨z, 0, none⟩ = some (.slice v.no h.node.length v.nc) ∧ w'.cell? ⟨z, 1, none⟩ = some (.slice v.uo h.upF.length v.uc) ∧ w'.cell? ⟨z, 2, none⟩ = some (.slice v.ul h.up.length v.ulc) ∧ w'.cell? ⟨z, 3, none⟩ = some (.slice v.wo h.dnF.length v.wc) ∧ w'.cell? ⟨z, 4, none⟩ = some (.slice v.dl h.dn.length v.dlc)) (go_keep) (first
    | (go_at_call 120; refine (H5.out _ Y4.out).mono ?_; rintro e y5 ⟨m5, c5, rfl, hh, hg, hy⟩; have G5 : Hid (∀ a, m5 = some a → W0.heap.size ≤ a.block) := hg; clear hg; have Y5 : Hid (Below W0.heap.size W0 y5) := btrH' Y4.out hy; have X5_1 : Hid (HasWs y5 (.slice m1 h.node.length c1) h.node) := X4_1.out.keep hy; have X5_2 : Hid (HasWs y5 (.slice m2 h.dnF.length c2) h.dnF) := X4_2.out.keep hy; have X5_3 : Hid (HasLs y5 (.slice m3 h.dn.length c3) (h.dn.map (turnL h.up.length h.dn.length))) := X4_3.out.keep hy; have X5_4 : Hid (HasWs y5 (.slice m4 h.upF.length c4) h.upF) := X4_4.out.keep hy; have X5_5 : Hid (HasLs y5 (.slice m5 h.up.length c5) (h.up.map (turnL h.up.length h.dn.length))) := hh; obtain ⟨a0, a1, a2, a3, a4⟩ := HQ.out y5 Y5.out; obtain ⟨k0, k1⟩ := HZ.out y5 Y5.out; have k2 := k0 0 (by omega); have k3 := k0 1 (by omega); have k4 := k0 2 (by omega); have k5 := k0 3 (by omega); have k6 := k0 4 (by omega); have l2 := k1 0; have l3 := k1 1; have l4 := k1 2; have l5 := k1 3; have l6 := k1 4; clear k0 k1; clear hy hh)
    | (go_at_call 33; refine (H4.out _ Y3.out).mono ?_; rintro e y4 ⟨m4, c4, rfl, hh, hg, hy⟩; have G4 : Hid (∀ a, m4 = some a → W0.heap.size ≤ a.block) := hg; clear hg; have Y4 : Hid (Below W0.heap.size W0 y4) := btrH' Y3.out hy; have X4_1 : Hid (HasWs y4 (.slice m1 h.node.length c1) h.node) := X3_1.out.keep hy; have X4_2 : Hid (HasWs y4 (.slice m2 h.dnF.length c2) h.dnF) := X3_2.out.keep hy; have X4_3 : Hid (HasLs y4 (.slice m3 h.dn.length c3) (h.dn.map (turnL h.up.length h.dn.length))) := X3_3.out.keep hy; have X4_4 : Hid (HasWs y4 (.slice m4 h.upF.length c4) h.upF) := hh; obtain ⟨a0, a1, a2, a3, a4⟩ := HQ.out y4 Y4.out; clear hy hh)
    | (go_at_call 120; refine (H3.out _ Y2.out).mono ?_; rintro e y3 ⟨m3, c3, rfl, hh, hg, hy⟩; have G3 : Hid (∀ a, m3 = some a → W0.heap.size ≤ a.block) := hg; clear hg; have Y3 : Hid (Below W0.heap.size W0 y3) := btrH' Y2.out hy; have X3_1 : Hid (HasWs y3 (.slice m1 h.node.length c1) h.node) := X2_1.out.keep hy; have X3_2 : Hid (HasWs y3 (.slice m2 h.dnF.length c2) h.dnF) := X2_2.out.keep hy; have X3_3 : Hid (HasLs y3 (.slice m3 h.dn.length c3) (h.dn.map (turnL h.up.length h.dn.length))) := hh; obtain ⟨a0, a1, a2, a3, a4⟩ := HQ.out y3 Y3.out; clear hy hh)
    | (go_at_call 33; refine (H2.out _ Y1.out).mono ?_; rintro e y2 ⟨m2, c2, rfl, hh, hg, hy⟩; have G2 : Hid (∀ a, m2 = some a → W0.heap.size ≤ a.block) := hg; clear hg; have Y2 : Hid (Below W0.heap.size W0 y2) := btrH' Y1.out hy; have X2_1 : Hid (HasWs y2 (.slice m1 h.node.length c1) h.node) := X1_1.out.keep hy; have X2_2 : Hid (HasWs y2 (.slice m2 h.dnF.length c2) h.dnF) := hh; obtain ⟨a0, a1, a2, a3, a4⟩ := HQ.out y2 Y2.out; clear hy hh)
    | (go_at_call 33; refine (H1.out _ Y0.out.drew).mono ?_; rintro e y1 ⟨m1, c1, rfl, hh, hg, hy⟩; have G1 : Hid (∀ a, m1 = some a → W0.heap.size ≤ a.block) := hg; clear hg; have Y1 : Hid (Below W0.heap.size W0 y1) := btrH' Y0.out.drew hy; have X1_1 : Hid (HasWs y1 (.slice m1 h.node.length c1) h.node) := hh; obtain ⟨a0, a1, a2, a3, a4⟩ := HQ.out y1 Y1.out; clear hy hh))
  go_wp2
  have hS := set_five (HB0.out _ Y5.out).2 (.slice m1 h.node.length c1) (.slice m2 h.dnF.length c2) (.slice m3 h.dn.length c3) (.slice m4 h.upF.length c4) (.slice m5 h.up.length c5)
  obtain ⟨hf1, hf2⟩ := five_far y5 (z + 1) (.slice m1 h.node.length c1) (.slice m2 h.dnF.length c2) (.slice m3 h.dn.length c3) (.slice m4 h.upF.length c4) (.slice m5 h.up.length c5)
  have hlt : z + 1 < W0.heap.size := some_lt (HB0.out _ Y0.out).2
  have hbb : Below w.heap.size w (((((y5.setCell ⟨z + 1, 0, none⟩ (.slice m1 h.node.length c1)).setCell ⟨z + 1, 1, none⟩ (.slice m2 h.dnF.length c2)).setCell ⟨z + 1, 2, none⟩ (.slice m3 h.dn.length c3)).setCell ⟨z + 1, 3, none⟩ (.slice m4 h.upF.length c4)).setCell ⟨z + 1, 4, none⟩ (.slice m5 h.up.length c5)) := ((((((HB0.out _ Y5.out).1.setCell (by rw [HZZ.out]; exact Nat.le_succ _) _).setCell (by rw [HZZ.out]; exact Nat.le_succ _) _).setCell (by rw [HZZ.out]; exact Nat.le_succ _) _).setCell (by rw [HZZ.out]; exact Nat.le_succ _) _).setCell (by rw [HZZ.out]; exact Nat.le_succ _) _)
  refine bodyPost_ret (rturn_res hS rfl) rfl ⟨⟨m1, m2, m3, m4, m5, c1, c2, c3, c4, c5⟩, ?_, ?_, ⟨fun a ea => Nat.le_trans HLE.out (G1.out a ea), fun a ea => Nat.le_trans HLE.out (G2.out a ea), fun a ea => Nat.le_trans HLE.out (G3.out a ea), fun a ea => Nat.le_trans HLE.out (G4.out a ea), fun a ea => Nat.le_trans HLE.out (G5.out a ea)⟩, hbb⟩
  · simp only [turnH, List.length_map]
  generalize (((((y5.setCell ⟨z + 1, 0, none⟩ (.slice m1 h.node.length c1)).setCell ⟨z + 1, 1, none⟩ (.slice m2 h.dnF.length c2)).setCell ⟨z + 1, 2, none⟩ (.slice m3 h.dn.length c3)).setCell ⟨z + 1, 3, none⟩ (.slice m4 h.upF.length c4)).setCell ⟨z + 1, 4, none⟩ (.slice m5 h.up.length c5)) = WE at hf1 hf2
  have hs : y5.heap.size ≤ WE.heap.size := Nat.le_of_eq hf2.symm
  refine ⟨?_, ?_, ?_, ?_, ?_⟩
  · exact ws_far X5_1.out hs (fun a ea => hf1 _ (by have := G1.out a ea; omega))
  · exact ws_far X5_2.out hs (fun a ea => hf1 _ (by have := G2.out a ea; omega))
  · show HasLs WE (.slice m3 (turnH h).up.length c3) (turnH h).up
    rw [show (turnH h).up.length = h.dn.length by unfold turnH; simp]
    exact ls_far X5_3.out hs (fun a ea => hf1 _ (by have := G3.out a ea; omega))
  · exact ws_far X5_4.out hs (fun a ea => hf1 _ (by have := G4.out a ea; omega))
  · show HasLs WE (.slice m5 (turnH h).dn.length c5) (turnH h).dn
    rw [show (turnH h).dn.length = h.up.length by unfold turnH; simp]
    exact ls_far X5_5.out hs (fun a ea => hf1 _ (by have := G5.out a ea; omega))
theorem rTurn_calls (v : HV) (h : Hr) (w : World) (hH : HasH w v h) (hr : Reach h) (hc : chk h = (0, [])) :
    Calls Tryz.prog 101 #[hvl v h] w fun e w' => ∃ u, e = .returned (hvl u (turnH h)) ∧ HasH w' u (turnH h) ∧ Below w.heap.size w w' :=
  (rTurn_high v h w hH hr hc).mono (by rintro e w' ⟨u, rfl, a, _, b⟩; exact ⟨u, rfl, a, b⟩)
end Go.Proofs.YtodilocmfdeehaaGreatDoor.Hi

namespace Go.Proofs.YtodilocmfdeehaaGreatDoor.Hi
open Go.RowKit Go.Extern Go.Shelf

attribute [local go_sem] Oper.semAt_some

/-- the cells of links as arcs. -/
def evs (l : List Sd) : List Value := l.flatMap fun s => [.int .i64 (s.tail : Int), .int .i64 (s.head : Int), .int .i64 (s.rk : Int)]
theorem evs_append (l r : List Sd) : evs (l ++ r) = evs l ++ evs r := by simp [evs]
theorem evs_one (l : List Sd) : ∀ u ∈ evs l, u.oneCell' = true := by
  intro u hu
  simp [evs] at hu
  obtain ⟨a, _, rfl | rfl | rfl⟩ := hu <;> rfl
theorem evs_get : ∀ (l : List Sd) (i : Nat) (a : Sd), l[i]? = some a → (evs l)[i * 3]? = some (.int .i64 (a.tail : Int)) ∧ (evs l)[i * 3 + 1]? = some (.int .i64 (a.head : Int)) ∧ (evs l)[i * 3 + 2]? = some (.int .i64 (a.rk : Int))
  | [], i, a, h => by simp at h
  | s :: l, 0, a, h => by
    simp at h
    subst h
    simp [evs]
  | s :: l, i + 1, a, h => by
    obtain ⟨h0, h1, h2⟩ := evs_get l i a (by simpa using h)
    have e : evs (s :: l) = [.int .i64 (s.tail : Int), .int .i64 (s.head : Int), .int .i64 (s.rk : Int)] ++ evs l := rfl
    have key : ∀ c, (evs (s :: l))[(i + 1) * 3 + c]? = (evs l)[i * 3 + c]? := fun c => by
      rw [e, List.getElem?_append_right (by simp; omega)]
      congr 1
      simp
      omega
    exact ⟨(key 0).trans h0, (key 1).trans h1, (key 2).trans h2⟩
theorem infoEnd : (Tryz.prog.info? 59).map (fun i => (i.zero, i.size, i.bytes)) = some (some (.agg #[.int .i64 0, .int .i64 0, .int .i64 0]), 3, 24) := by kernel_rfl
/-- all links as arcs, in memory. -/
def HasEs (w : World) (lv : Value) (h : Hr) : Prop := ∃ B, ∃ (mo : Option Addr) (mc : Nat), lv = .slice mo (stds h).length mc ∧ w.ownsRow B 59 3 lv (stds h).length (evs (stds h))
theorem HasEs.keep {w w' : World} {lv : Value} {h : Hr} (g : HasEs w lv h) (hb : Below w.heap.size w w') : HasEs w' lv h := by
  obtain ⟨B, mo, mc, rfl, ho⟩ := g
  exact ⟨B, mo, mc, rfl, own_keep ho fun k _ _ hh => (hb.block k (some_lt hh)).trans hh⟩
theorem HasEs.far {w w' : World} {lv : Value} {h : Hr} (g : HasEs w lv h) (hb : ∀ (k : Nat) (cur : Array Value), w.heap[k]? = some (.cells cur 59) → w'.heap[k]? = some (.cells cur 59)) : HasEs w' lv h := by
  obtain ⟨B, mo, mc, rfl, ho⟩ := g
  exact ⟨B, mo, mc, rfl, own_keep ho fun k c _ hh => hb k c hh⟩
theorem HasEs.at {w : World} {mo : Option Addr} {mc : Nat} {h : Hr} (g : HasEs w (.slice mo (stds h).length mc) h) {i : Nat} (hi : i < (stds h).length) : ∃ b, mo = some ⟨b, 0, none⟩ ∧ (w.cell? ⟨b, i * 3, none⟩ = some (.int .i64 ((sd (stds h) i).tail : Int)) ∧ w.cell? ⟨b, i * 3 + 1, none⟩ = some (.int .i64 ((sd (stds h) i).head : Int)) ∧ w.cell? ⟨b, i * 3 + 2, none⟩ = some (.int .i64 ((sd (stds h) i).rk : Int))) ∧ b < w.heap.size := by
  obtain ⟨B, mo', mc', e, ho⟩ := g
  injection e with e1 _ e3
  subst e1 e3
  rcases ho.2 with ⟨e1, h0⟩ | ⟨b, cap, cur, e1, _, hh, _⟩
  · omega
  · injection e1 with e1 _ _
    subst e1
    obtain ⟨g0, g1, g2⟩ := evs_get _ _ _ (sd_get hi)
    exact ⟨b, rfl, ⟨(ho.cellAt (i * 3) (by omega)).trans g0, (ho.cellAt (i * 3 + 1) (by omega)).trans g1, (ho.cellAt (i * 3 + 2) (by omega)).trans g2⟩, some_lt hh⟩

set_option maxRecDepth 100000 in
set_option maxHeartbeats 4000000 in
theorem arcsR_calls (v : HV) (h : Hr) (w : World) (hH : HasH w v h) (hu : FOk h.upF h.up.length) (hd : FOk h.dnF h.dn.length) (hl1 : h.upF.length ≤ 65537) (hl2 : h.dnF.length ≤ 65537) (hL : h.up.length + h.dn.length ≤ 1048576) :
    Calls Tryz.prog 24 #[hvl v h] w fun e w' => ∃ mo mc, e = .returned (.slice mo (stds h).length mc) ∧ HasEs w' (.slice mo (stds h).length mc) h ∧ Below w.heap.size w w' := by
  have hlen := stds_len hu hd
  obtain ⟨z, hz⟩ : ∃ z, w.heap.size = z := ⟨_, rfl⟩
  obtain ⟨W0, hW0⟩ : ∃ W0, w.alloc (.cells (cellsH v h) 25) = W0 := ⟨_, rfl⟩
  have hB0 : Below w.heap.size w W0 := by rw [← hW0]; exact (Below.refl _ w).alloc (Nat.le_refl _) _
  have h0 : W0.heap[z]? = some (.cells (cellsH v h) 25) := by
    rw [← hW0, ← hz]; exact heap_newW _ _
  have HQ : Hid (∀ wx, Below W0.heap.size W0 wx → (wx.cell? ⟨z, 0, none⟩ = some (.slice v.no h.node.length v.nc) ∧ wx.cell? ⟨z, 1, none⟩ = some (.slice v.uo h.upF.length v.uc) ∧ wx.cell? ⟨z, 2, none⟩ = some (.slice v.ul h.up.length v.ulc) ∧ wx.cell? ⟨z, 3, none⟩ = some (.slice v.wo h.dnF.length v.wc) ∧ wx.cell? ⟨z, 4, none⟩ = some (.slice v.dl h.dn.length v.dlc)) ∧ HasH wx v h ∧ Below w.heap.size w wx) := fun wx hx => by
    have g := hB0.trans (hx.mono hB0.size)
    exact ⟨five_cells ((hx.block _ (some_lt h0)).trans h0), hH.keep g, g⟩
  have HRK : Hid (Calls Tryz.prog 50 #[hvl v h] W0 fun e w' => ∃ mo mc, e = .returned (.slice mo (stds h).length mc) ∧ w'.ownsRow W0.heap.size 3 1 (.slice mo (stds h).length mc) (stds h).length (ivs ((stds h).map fun s => (s.rk : Int))) ∧ Below W0.heap.size W0 w') := ranksR_calls v h W0 (HQ.out W0 (Below.refl _ _)).2.1 hu hd hl1 hl2 hL
  have HEO : Hid (∀ (wx : World) (mo : Option Addr) (mc i : Nat), HasH wx v h → HasRk wx (.slice mo (stds h).length mc) h → i < (stds h).length → Calls Tryz.prog 52 #[hvl v h, .slice mo (stds h).length mc, .int .i64 (i : Int)] wx fun e w' => e = .returned (.agg #[.int .i64 ((sd (stds h) i).tail : Int), .int .i64 ((sd (stds h) i).head : Int), .int .i64 ((sd (stds h) i).rk : Int)]) ∧ Below wx.heap.size wx w') := fun wx mo mc i hx hr hi => endOf_calls v h mo mc i wx hx hr hu hd hL hi
  have HW0 : Hid (w.alloc (.cells (cellsH v h) 25) = W0) := hW0
  have HLEN : Hid ((stds h).length ≤ 1048576) := by show _ ≤ _; omega
  have HZL : Hid (w.heap.size ≤ W0.heap.size) := hB0.size
  obtain ⟨⟨c0, c1, c2, c3, c4⟩, _⟩ := HQ.out W0 (Below.refl _ _)
  obtain ⟨i0, hi9, hzz⟩ := Option.map_eq_some_iff.1 infoEnd
  simp only [Prod.mk.injEq] at hzz
  have HI : Hid (Tryz.prog.info? 59 = some i0 ∧ i0.zero = some (.agg #[.int .i64 0, .int .i64 0, .int .i64 0]) ∧ i0.size = 3 ∧ i0.bytes = 24) := ⟨hi9, hzz⟩
  clear hW0 h0 hB0 hH hi9 hzz hlen hu hd
  unfold cellsH at HW0
  unfold hvl at HRK HEO ⊢
  go_enter Tryz.func24, Tryz.ntmps24
  go_upto_region 1 with fail
  rw [HW0.out]
  clear HW0 hz
  go_wp2_with fail
  refine HRK.out.mono ?_
  rintro e w1 ⟨mo, mc, rfl, ho, hb⟩
  have HQ1 : Hid (∀ wx, Below w1.heap.size w1 wx → (wx.cell? ⟨z, 0, none⟩ = some (.slice v.no h.node.length v.nc) ∧ wx.cell? ⟨z, 1, none⟩ = some (.slice v.uo h.upF.length v.uc) ∧ wx.cell? ⟨z, 2, none⟩ = some (.slice v.ul h.up.length v.ulc) ∧ wx.cell? ⟨z, 3, none⟩ = some (.slice v.wo h.dnF.length v.wc) ∧ wx.cell? ⟨z, 4, none⟩ = some (.slice v.dl h.dn.length v.dlc)) ∧ HasH wx v h ∧ HasRk wx (.slice mo (stds h).length mc) h ∧ Below w.heap.size w wx) := fun wx hx => by
    obtain ⟨g1, g2, g3⟩ := HQ.out wx (btrH' hb hx)
    have hr : HasRk w1 (.slice mo (stds h).length mc) h := ⟨_, mo, mc, rfl, ho⟩
    exact ⟨g1, g2, hr.keep hx, g3⟩
  have HB1 : Hid (Below w1.heap.size w1 w1) := Below.refl _ _
  clear ho hb c0 c1 c2 c3 c4 HRK
  go_wp2_with fail
  go_loopw [4, 10] (fun mv nv wr => ∃ (k : Nat) (so : Option Addr) (sc : Nat), k ≤ (stds h).length ∧ nv = .int .i64 k ∧ mv = .slice so k sc ∧ Hid (wr.ownsRow w1.heap.size 59 3 (.slice so k sc) k (evs ((stds h).take k))) ∧ Hid (Below w1.heap.size w1 wr)) (fun _ nv _ => (stds h).length - (intOf nv).toNat)
  case atStart => exact ⟨0, none, 0, Nat.zero_le _, rfl, rfl, World.ownsRow_nil _ _ _ _, HB1.out⟩
  case round =>
    obtain ⟨k, so, sc, hk, rfl, rfl, HO, HB⟩ := hrel
    by_cases hlt : k < (stds h).length
    · have HT1 : Hid ((stds h).take (k + 1) = (stds h).take k ++ [sd (stds h) k]) := by show _ = _; rw [List.take_add_one, sd_get hlt]; rfl
      obtain ⟨⟨c0, c1, c2, c3, c4⟩, g2, g3, _⟩ := HQ1.out wr HB.out
      have HC : Hid (type_of% (HEO.out wr mo mc k g2 g3 hlt)) := HEO.out wr mo mc k g2 g3 hlt
      have i1 : (k : Int) < ((stds h).length : Int) := by omega
      have i2 : (0 : Int) ≤ (k : Int) := by omega
      have i3 : k < 1048576 := by have := HLEN.out; omega
      clear g2 g3
      go_wp2_with fail
      refine HC.out.mono ?_
      rintro e w4 ⟨rfl, hb4⟩
      have HK : Hid (w4.ownsRow w1.heap.size 59 3 (.slice so k sc) k (evs ((stds h).take k)) ∧ Below w1.heap.size w1 w4) := ⟨own_upO HO.out hb4, btrH' HB.out hb4⟩
      clear HC hb4 c0 c1 c2 c3 c4 HO HB
      go_wp2_with (at_builtin; refine wpList_append_own _ rfl _ _ 56 rfl w1.heap.size 59 i0 (.agg #[.int .i64 0, .int .i64 0, .int .i64 0]) 3 24 Tryz.underlying56 HI.out.1 HI.out.2.1 HI.out.2.2.1 HI.out.2.2.2 rfl (by decide) _ k (evs ((stds h).take k)) rfl (HK.out.1.alloc _) ⟨w4.heap.size, 0, none⟩ 1 1 (evs [sd (stds h) k]) rfl rfl (new_cells w4 (evs [sd (stds h) k]) 59) (evs_one _) (by unfold maxLen; omega) (by omega) (by have := HK.out.2.size; simp; omega) ?_; intro v5 w5 hown5 hgr5 _; have H5 : Hid (w5.ownsRow w1.heap.size 59 3 v5 (k + 1) (evs ((stds h).take (k + 1))) ∧ Below w1.heap.size w1 w5) := ⟨by rw [HT1.out, evs_append]; exact hown5, below_grown (HK.out.2.alloc HK.out.2.size _) (HK.out.1.alloc _) hgr5 (by have := HK.out.2.size; simp; omega)⟩; clear hown5 hgr5; obtain ⟨po, pc, hv5⟩ := own_slice H5.out.1; subst hv5)
      exact ⟨⟨k + 1, po, pc, by omega, by rw [show (k : Int) + 1 = ((k + 1 : Nat) : Int) by omega], rfl, H5.out.1, H5.out.2⟩, by simp only [intOf]; omega⟩
    · obtain rfl : k = (stds h).length := by omega
      have HK2 : Hid (HasEs wr (.slice so (stds h).length sc) h ∧ Below w.heap.size w wr) := ⟨⟨_, so, sc, rfl, by have g := HO.out; rw [List.take_length] at g; exact g⟩, (HQ1.out wr HB.out).2.2.2⟩
      clear HO HB
      go_wp2_with fail
      go_ret
      exact ⟨so, sc, rfl, HK2.out.1, HK2.out.2⟩
end Go.Proofs.YtodilocmfdeehaaGreatDoor.Hi

namespace Go.Proofs.YtodilocmfdeehaaGreatDoor.Hi
open Go.RowKit Go.Extern Go.Shelf

attribute [local go_sem] Oper.semAt_some

/-- what DocLinks or DocNodes answers. -/
def DL (er : Int × List (Int × Int)) (P : List Nat) (w : World) (e : Ending) (w' : World) : Prop := ∃ (ao : Option Addr) (c : Nat) (lo : Option Addr) (lc : Nat), e = .returned (.tuple #[.slice ao P.length c, .agg #[.int .i64 er.1, .slice lo er.2.length lc]]) ∧ GrI w w' (.slice ao P.length c) P ∧ HasPlaces w' (.slice lo er.2.length lc) er.2
theorem docLinks_res {W : World} {y : Nat} {u y0 y1 : Value} {tmps : Array Value} (h2 : W.heap[y]? = some (.cells #[y0, y1] 36)) (t2 : tmps[4]?.getD undef = u) (t3 : tmps[5]?.getD undef = .pointer (some ⟨y, 0, none⟩)) :
    (results Tryz.f11 tmps).run Tryz.prog W = .ok (.tuple #[u, .agg #[y0, y1]]) W := by
  obtain ⟨d0, d1, _, _⟩ := cell_two h2
  simp [results, Tryz.results11, go_sem, t2, t3, d0, d1]
theorem DL.bad {w w' : World} {er E : Int × List (Int × Int)} {P : List Nat} {lo : Option Addr} {lc : Nat} (hE : er = E) (hP : P = []) (hp : HasPlaces w' (.slice lo E.2.length lc) E.2) (hb : Below w.heap.size w w') : DL er P w (.returned (.tuple #[.slice none 0 0, .agg #[.int .i64 E.1, .slice lo E.2.length lc]])) w' := by
  subst hE hP
  exact ⟨none, 0, lo, lc, rfl, ⟨World.ownsRow_nil _ _ _ _, hb⟩, hp⟩

set_option maxRecDepth 100000 in
set_option maxHeartbeats 8000000 in
theorem docLinks_aux (no uo ul wo dl : Option Addr) (nc uc ulc wc dlc : Nat) (h : Hr) (i : Int) (w : World) (hH : HasH w ⟨no, uo, ul, wo, dl, nc, uc, ulc, wc, dlc⟩ h) (hb1 : h.up.length ≤ 1152921504606846976) (hb2 : h.dn.length ≤ 1152921504606846976) (hb3 : h.node.length ≤ 1152921504606846976) :
    Calls Tryz.prog 11 #[hvl ⟨no, uo, ul, wo, dl, nc, uc, ulc, wc, dlc⟩ h, .int .i64 i] w fun e w' => DL (lkE h i) (lkL h i) w e w' := by
  obtain ⟨z, hz⟩ : ∃ z, w.heap.size = z := ⟨_, rfl⟩
  obtain ⟨W0, hW0⟩ : ∃ W0, (w.alloc (.cells #[.slice no h.node.length nc, .slice uo h.upF.length uc, .slice ul h.up.length ulc, .slice wo h.dnF.length wc, .slice dl h.dn.length dlc] 25)).alloc (.cells #[.int .i64 0, .slice none 0 0] 36) = W0 := ⟨_, rfl⟩
  have hB0 : Below w.heap.size w W0 := by rw [← hW0]; exact ((Below.refl _ w).alloc (Nat.le_refl _) _).alloc (by simp) _
  have h0 : W0.heap[z]? = some (.cells #[.slice no h.node.length nc, .slice uo h.upF.length uc, .slice ul h.up.length ulc, .slice wo h.dnF.length wc, .slice dl h.dn.length dlc] 25) := by
    rw [← hW0, ← hz]; exact (Below.heap_alloc _ _ _ (by simp)).trans (heap_newW _ _)
  have h1 : W0.heap[z + 1]? = some (.cells #[.int .i64 0, .slice none 0 0] 36) := by
    have g := heap_newW (w.alloc (.cells #[.slice no h.node.length nc, .slice uo h.upF.length uc, .slice ul h.up.length ulc, .slice wo h.dnF.length wc, .slice dl h.dn.length dlc] 25)) (.cells #[.int .i64 0, .slice none 0 0] 36)
    rw [World.size_alloc, hW0, hz] at g
    exact g
  have HS0 : Hid (z + 1 < W0.heap.size) := some_lt h1
  have HQ : Hid (∀ wx, Below W0.heap.size W0 wx → wx.heap[z]? = some (.cells #[.slice no h.node.length nc, .slice uo h.upF.length uc, .slice ul h.up.length ulc, .slice wo h.dnF.length wc, .slice dl h.dn.length dlc] 25) ∧ wx.heap[z + 1]? = some (.cells #[.int .i64 0, .slice none 0 0] 36) ∧ HasH wx ⟨no, uo, ul, wo, dl, nc, uc, ulc, wc, dlc⟩ h ∧ Below w.heap.size w wx) := fun wx hx => by
    have g := hB0.trans (hx.mono hB0.size)
    exact ⟨(hx.block _ (some_lt h0)).trans h0, (hx.block _ (some_lt h1)).trans h1, hH.keep g, g⟩
  have HSZ : Hid (∀ (wx : World) (x y : Value), Below w.heap.size w wx → Below w.heap.size w ((wx.setCell ⟨z + 1, 0, none⟩ x).setCell ⟨z + 1, 1, none⟩ y)) := fun wx x y hx => (hx.setCell (p := ⟨z + 1, 0, none⟩) (by show w.heap.size ≤ z + 1; omega) _).setCell (p := ⟨z + 1, 1, none⟩) (by show w.heap.size ≤ z + 1; omega) _
  have HW0 : Hid ((w.alloc (.cells #[.slice no h.node.length nc, .slice uo h.upF.length uc, .slice ul h.up.length ulc, .slice wo h.dnF.length wc, .slice dl h.dn.length dlc] 25)).alloc (.cells #[.int .i64 0, .slice none 0 0] 36) = W0) := hW0
  have HZZ : Hid (w.heap.size = z) := hz
  have HB0 : Hid (Below W0.heap.size W0 W0) := Below.refl _ _
  have HDC : Hid (∀ wx, Below W0.heap.size W0 wx → Calls Tryz.prog 22 #[hvl ⟨no, uo, ul, wo, dl, nc, uc, ulc, wc, dlc⟩ h] wx fun e w' => RA wx (chk h) e w') := fun wx hx => docCheck10_calls _ h wx (HQ.out wx hx).2.2.1 hb1 hb2 hb3
  have HCNT : Hid (∀ wx, Calls Tryz.prog 30 #[.agg #[.slice no h.node.length nc, .slice uo h.upF.length uc, .slice ul h.up.length ulc, .slice wo h.dnF.length wc, .slice dl h.dn.length dlc]] wx fun e w' => e = .returned (.int .i64 ((h.up.length : Int) + (h.dn.length : Int))) ∧ Below wx.heap.size wx w') := fun wx => (count_calls ⟨no, uo, ul, wo, dl, nc, uc, ulc, wc, dlc⟩ h wx hb1 hb2).mono (by
    rintro e w' ⟨rfl, rfl⟩
    exact ⟨by simp, (Below.refl _ _).alloc (Nat.le_refl _) _⟩)
  clear hW0 h0 h1 hB0 hH
  have eHV : hvl ⟨no, uo, ul, wo, dl, nc, uc, ulc, wc, dlc⟩ h = .agg #[.slice no h.node.length nc, .slice uo h.upF.length uc, .slice ul h.up.length ulc, .slice wo h.dnF.length wc, .slice dl h.dn.length dlc] := rfl
  rw [eHV] at HDC ⊢
  clear eHV
  go_enter Tryz.func11, Tryz.ntmps11
  go_upto_region 1 with fail
  rw [HW0.out]
  clear HW0 hz
  obtain ⟨c0, c1, c2, c3, c4⟩ := five_cells (HQ.out W0 HB0.out).1
  go_wp2_with fail
  refine (HDC.out W0 HB0.out).mono ?_
  rintro e w1 ⟨lo, lc, rfl, hp, hb⟩
  obtain ⟨E, hE⟩ : ∃ E, chk h = E := ⟨_, rfl⟩
  have HE : Hid (chk h = E) := hE
  rw [hE] at hp ⊢
  obtain ⟨q, hq⟩ : ∃ q, w1.heap.size = q := ⟨_, rfl⟩
  obtain ⟨W2, hW2⟩ : ∃ W2, w1.alloc (.cells #[.int .i64 E.1, .slice lo E.2.length lc] 36) = W2 := ⟨_, rfl⟩
  have HW2 : Hid (w1.alloc (.cells #[.int .i64 E.1, .slice lo E.2.length lc] 36) = W2) := hW2
  have H2 : Hid (∀ wx, Below W2.heap.size W2 wx → wx.heap[q]? = some (.cells #[.int .i64 E.1, .slice lo E.2.length lc] 36) ∧ HasPlaces wx (.slice lo E.2.length lc) E.2 ∧ Below W0.heap.size W0 wx) := fun wx hx => by
    have g1 : W2.heap[q]? = some (.cells #[.int .i64 E.1, .slice lo E.2.length lc] 36) := by rw [← hW2, ← hq]; exact heap_newW _ _
    have g2 : Below w1.heap.size w1 W2 := by rw [← hW2]; exact (Below.refl _ _).alloc (Nat.le_refl _) _
    have g3 := btrH' g2 hx
    exact ⟨(hx.block _ (some_lt g1)).trans g1, hp.keep g3, btrH' hb g3⟩
  have HQ0 : Hid (W0.heap.size ≤ q) := by rw [← hq]; exact hb.size
  clear hp hb hW2 c0 c1 c2 c3 c4 hE
  go_upto_region 2 with fail
  rw [HW2.out]
  clear HW2 hq
  obtain ⟨q0, q1, _, _⟩ := cell_two (H2.out W2 (Below.refl _ _)).1
  go_wp2_with fail
  refine (Hi.bad_calls E.1 lo E.2.length lc W2).mono ?_
  rintro e w3 ⟨rfl, hb⟩
  rw [bad_iff]
  have HB3 : Hid (Below W2.heap.size W2 w3) := hb
  clear hb q0 q1
  by_cases hc : E = (0, [])
  · subst hc
    have HC : Hid (chk h = (0, [])) := HE.out
    have HF0 : Hid (∀ wx, Below w3.heap.size w3 wx → wx.heap[q]? = some (.cells #[.int .i64 0, .slice lo 0 lc] 36) ∧ wx.heap[z + 1]? = some (.cells #[.int .i64 0, .slice none 0 0] 36) ∧ Below w.heap.size w wx) := fun wx hx => by
      obtain ⟨g1, g2, g3⟩ := H2.out wx (btrH' HB3.out hx)
      obtain ⟨_, a2, _, a4⟩ := HQ.out wx g3
      exact ⟨g1, a2, a4⟩
    have HUP3 : Hid (∀ wx, Below w3.heap.size w3 wx → Below W0.heap.size W0 wx) := fun wx hx => (H2.out wx (btrH' HB3.out hx)).2.2
    have hsm := (chk_ok HC.out).2.1
    by_cases hneg : i < 0
    · have i1 : decide (i < 0) = true := by simpa using hneg
      have HTA : Hid (lkE h i = ((1, []) : Int × List (Int × Int)) ∧ lkL h i = []) := by
        have e := lkE_arg HC.out (Or.inl hneg)
        exact ⟨e, lkL_bad (by rw [e]; decide)⟩
      go_wp2_with fail
      refine (E_calls 1 w3).mono ?_
      rintro e y5 ⟨rfl, hb⟩
      have HB5 : Hid (Below w3.heap.size w3 y5) := hb
      clear hb
      obtain ⟨q0, q1, p0, p1⟩ := cell_two (HF0.out y5 HB5.out).1
      obtain ⟨U, hU⟩ : ∃ U, ((y5.setCell ⟨q, 0, none⟩ (.int .i64 1)).setCell ⟨q, 1, none⟩ (.slice none 0 0)) = U := ⟨_, rfl⟩
      have HU : Hid (((y5.setCell ⟨q, 0, none⟩ (.int .i64 1)).setCell ⟨q, 1, none⟩ (.slice none 0 0)) = U) := hU
      have HF : Hid (∀ wx, Below U.heap.size U wx → wx.heap[q]? = some (.cells #[.int .i64 ((1, []) : Int × List (Int × Int)).1, .slice none ((1, []) : Int × List (Int × Int)).2.length 0] 36) ∧ HasPlaces wx (.slice none ((1, []) : Int × List (Int × Int)).2.length 0) ((1, []) : Int × List (Int × Int)).2 ∧ wx.heap[z + 1]? = some (.cells #[.int .i64 0, .slice none 0 0] 36) ∧ Below w.heap.size w wx) := fun wx hx => by
        have hne : z + 1 ≠ q := by have := HS0.out; have := HQ0.out; omega
        obtain ⟨g1, g3, g4⟩ := HF0.out y5 HB5.out
        have e1 : U.heap[q]? = some (.cells #[.int .i64 1, .slice none 0 0] 36) := by rw [← hU]; exact set_err g1 _ _
        have e2 : U.heap[z + 1]? = some (.cells #[.int .i64 0, .slice none 0 0] 36) := by rw [← hU]; exact (Below.heap_setCell _ _ _ _ (by exact hne)).trans ((Below.heap_setCell _ _ _ _ (by exact hne)).trans g3)
        have e3 : Below w.heap.size w U := by
          have hq : w.heap.size ≤ q := by have := HZZ.out; have := HS0.out; have := HQ0.out; omega
          rw [← hU]
          exact (g4.setCell (p := ⟨q, 0, none⟩) hq _).setCell (p := ⟨q, 1, none⟩) hq _
        exact ⟨(hx.block _ (some_lt e1)).trans e1, pl_nil _, (hx.block _ (some_lt e2)).trans e2, btrH' e3 hx⟩
      clear hU
      go_upto_region 4 with fail
      rw [HU.out]
      clear HU q0 q1 p0 p1
      obtain ⟨q0, q1, _, _⟩ := cell_two (HF.out U (Below.refl _ _)).1
      go_wp2_with fail
      refine (Hi.bad_calls ((1, []) : Int × List (Int × Int)).1 none ((1, []) : Int × List (Int × Int)).2.length 0 U).mono ?_
      rintro e y9 ⟨rfl, hb⟩
      rw [bad_iff]
      have HB9 : Hid (Below U.heap.size U y9) := hb
      clear hb q0 q1
      go_wp2_with fail
      have HSS : Hid (∀ wx : World, wx.heap[q]? = some (.cells #[.int .i64 ((1, []) : Int × List (Int × Int)).1, .slice none ((1, []) : Int × List (Int × Int)).2.length 0] 36) → (fun w' : World => w'.cell? ⟨q, 0, none⟩ = some (.int .i64 ((1, []) : Int × List (Int × Int)).1) ∧ w'.cell? ⟨q, 1, none⟩ = some (.slice none ((1, []) : Int × List (Int × Int)).2.length 0) ∧ Hid (w'.heap[q]? = some (.cells #[.int .i64 ((1, []) : Int × List (Int × Int)).1, .slice none ((1, []) : Int × List (Int × Int)).2.length 0] 36))) wx) := fun wx hx => by
        obtain ⟨b0, b1, _, _⟩ := cell_two hx
        exact ⟨b0, b1, hx⟩
      have HNE : Hid (q ≠ z + 1) := by have := HS0.out; have := HQ0.out; show q ≠ z + 1; omega
      refine wp_region_M (S := (fun w' : World => w'.cell? ⟨q, 0, none⟩ = some (.int .i64 ((1, []) : Int × List (Int × Int)).1) ∧ w'.cell? ⟨q, 1, none⟩ = some (.slice none ((1, []) : Int × List (Int × Int)).2.length 0) ∧ Hid (w'.heap[q]? = some (.cells #[.int .i64 ((1, []) : Int × List (Int × Int)).1, .slice none ((1, []) : Int × List (Int × Int)).2.length 0] 36)))) (by kernel_rfl) (HSS.out _ (HF.out _ (btrH' HB9.out (Below.refl _ _).drew)).1) ?_
      refine wpAnyM_take (i := 0) (oi := { dst := Option.some 29, op := Op.load 36 (Operand.tmp 6), type := 36, pos := "ref.go:22", after := #[{ on := 1, ground := Ground.gcOnly Departure.lateStores }], guard := Option.none }) (v := ?va6z0) rfl (by kernel_rfl) (by kernel_rfl) (by kernel_rfl) (fun _ _ _ h => h) (YieldsM.of_if (Or.inl ⟨by rfl, ?ha6z0⟩)) ?ra6z0
      case ha6z0 => ((intro wz hSw; (try dsimp only at hSw); go_simp); try (with_reducible rfl))
      try simp only [Act.put, List.setIfInBounds_toArray, List.set_cons_zero, List.set_cons_succ]
      refine wpAnyM_take (i := 1) (oi := { dst := Option.some 4, op := Op.assign (Operand.const (Value.slice Option.none 0 0)), type := 28, pos := "ref.go:22", after := #[{ on := 0, ground := Ground.textOnly Departure.lateStores }], guard := Option.none }) (v := ?va7z1) rfl (by kernel_rfl) (by kernel_rfl) (by kernel_rfl) (fun _ _ _ h => h) (YieldsM.of_if (Or.inl ⟨by rfl, ?ha7z1⟩)) ?ra7z1
      case ha7z1 => ((intro wz hSw; (try dsimp only at hSw); go_simp); try (with_reducible rfl))
      try simp only [Act.put, List.setIfInBounds_toArray, List.set_cons_zero, List.set_cons_succ]
      refine readyM (i := 2) (o := { dst := Option.none, op := Op.store 36 (Operand.tmp 5) (Operand.tmp 29), type := 0, pos := "ref.go:22", after := #[{ on := 0, ground := Ground.data }, { on := 1, ground := Ground.chain }, { on := 0, ground := Ground.phase }, { on := 1, ground := Ground.phase }], guard := Option.none }) rfl (by kernel_rfl) ?_
      intro u3 hg3 hS3 K hK
      obtain ⟨g1, g2, g4, g5⟩ := HF.out u3 (btrH' HB9.out (btrH' (Below.refl _ _).drew hg3))
      obtain ⟨d0, d1, f0, f1⟩ := cell_two g4
      have HT4 : Hid (((u3.setCell ⟨z + 1, 0, none⟩ (.int .i64 ((1, []) : Int × List (Int × Int)).1)).setCell ⟨z + 1, 1, none⟩ (.slice none ((1, []) : Int × List (Int × Int)).2.length 0)).heap[z + 1]? = some (.cells #[.int .i64 ((1, []) : Int × List (Int × Int)).1, .slice none ((1, []) : Int × List (Int × Int)).2.length 0] 36) ∧ ((u3.setCell ⟨z + 1, 0, none⟩ (.int .i64 ((1, []) : Int × List (Int × Int)).1)).setCell ⟨z + 1, 1, none⟩ (.slice none ((1, []) : Int × List (Int × Int)).2.length 0)).heap[q]? = some (.cells #[.int .i64 ((1, []) : Int × List (Int × Int)).1, .slice none ((1, []) : Int × List (Int × Int)).2.length 0] 36) ∧ HasPlaces ((u3.setCell ⟨z + 1, 0, none⟩ (.int .i64 ((1, []) : Int × List (Int × Int)).1)).setCell ⟨z + 1, 1, none⟩ (.slice none ((1, []) : Int × List (Int × Int)).2.length 0)) (.slice none ((1, []) : Int × List (Int × Int)).2.length 0) ((1, []) : Int × List (Int × Int)).2 ∧ Below w.heap.size w ((u3.setCell ⟨z + 1, 0, none⟩ (.int .i64 ((1, []) : Int × List (Int × Int)).1)).setCell ⟨z + 1, 1, none⟩ (.slice none ((1, []) : Int × List (Int × Int)).2.length 0))) := ⟨set_err g4 _ _, (Below.heap_setCell _ _ _ _ (by exact HNE.out)).trans ((Below.heap_setCell _ _ _ _ (by exact HNE.out)).trans g1), pl_sets (F := ((1, []) : Int × List (Int × Int))) g4 g2 _ _, HSZ.out _ _ _ g5⟩
      clear hS3 g1 g2 g4 g5 hg3
      go_simp
      refine hK.out _ _ (HSS.out _ HT4.out.2.1) ?_
      clear hK K d0 d1 f0 f1
      try simp only [Act.put, List.setIfInBounds_toArray, List.set_cons_zero, List.set_cons_succ]
      generalize ((u3.setCell ⟨z + 1, 0, none⟩ (.int .i64 ((1, []) : Int × List (Int × Int)).1)).setCell ⟨z + 1, 1, none⟩ (.slice none ((1, []) : Int × List (Int × Int)).2.length 0)) = U4 at HT4 ⊢
      refine wpAnyM_done (by kernel_rfl) ?_ _
      intro u9 hg9 hS9
      have H9 : Hid (u9.heap[z + 1]? = some (.cells #[.int .i64 ((1, []) : Int × List (Int × Int)).1, .slice none ((1, []) : Int × List (Int × Int)).2.length 0] 36) ∧ HasPlaces u9 (.slice none ((1, []) : Int × List (Int × Int)).2.length 0) ((1, []) : Int × List (Int × Int)).2 ∧ Below w.heap.size w u9) := ⟨(Below.block hg9 _ (some_lt HT4.out.1)).trans HT4.out.1, HT4.out.2.2.1.keep hg9, HT4.out.2.2.2.trans (hg9.mono HT4.out.2.2.2.size)⟩
      clear hS9 hg9 HT4
      go_wp2
      exact bodyPost_ret (docLinks_res H9.out.1 rfl rfl) rfl (DL.bad HTA.out.1 HTA.out.2 H9.out.2.1 H9.out.2.2)
    · have i1 : decide (i < 0) = false := by simpa using hneg
      obtain ⟨k, hk0⟩ : ∃ k : Nat, i = (k : Int) := ⟨i.toNat, by omega⟩
      subst hk0
      obtain ⟨c0, c1, c2, c3, c4⟩ := five_cells (HQ.out w3 (HUP3.out w3 (Below.refl _ _))).1
      go_wp2_with fail
      refine (HCNT.out w3).mono ?_
      rintro e y4 ⟨rfl, hb⟩
      have HB4 : Hid (Below w3.heap.size w3 y4) := hb
      clear hb c0 c1 c2 c3 c4
      by_cases hge : (h.up.length : Int) + (h.dn.length : Int) ≤ (k : Int)
      · have i2 : decide ((h.up.length : Int) + (h.dn.length : Int) ≤ (k : Int)) = true := by simpa using hge
        have HTA : Hid (lkE h (k : Int) = ((1, []) : Int × List (Int × Int)) ∧ lkL h (k : Int) = []) := by
          have e := lkE_arg (i := (k : Int)) HC.out (Or.inr (by omega))
          exact ⟨e, lkL_bad (by rw [e]; decide)⟩
        go_wp2_with fail
        refine (E_calls 1 y4).mono ?_
        rintro e y5 ⟨rfl, hb⟩
        have HB5 : Hid (Below w3.heap.size w3 y5) := btrH' HB4.out hb
        clear hb
        obtain ⟨q0, q1, p0, p1⟩ := cell_two (HF0.out y5 HB5.out).1
        obtain ⟨U, hU⟩ : ∃ U, ((y5.setCell ⟨q, 0, none⟩ (.int .i64 1)).setCell ⟨q, 1, none⟩ (.slice none 0 0)) = U := ⟨_, rfl⟩
        have HU : Hid (((y5.setCell ⟨q, 0, none⟩ (.int .i64 1)).setCell ⟨q, 1, none⟩ (.slice none 0 0)) = U) := hU
        have HF : Hid (∀ wx, Below U.heap.size U wx → wx.heap[q]? = some (.cells #[.int .i64 ((1, []) : Int × List (Int × Int)).1, .slice none ((1, []) : Int × List (Int × Int)).2.length 0] 36) ∧ HasPlaces wx (.slice none ((1, []) : Int × List (Int × Int)).2.length 0) ((1, []) : Int × List (Int × Int)).2 ∧ wx.heap[z + 1]? = some (.cells #[.int .i64 0, .slice none 0 0] 36) ∧ Below w.heap.size w wx) := fun wx hx => by
          have hne : z + 1 ≠ q := by have := HS0.out; have := HQ0.out; omega
          obtain ⟨g1, g3, g4⟩ := HF0.out y5 HB5.out
          have e1 : U.heap[q]? = some (.cells #[.int .i64 1, .slice none 0 0] 36) := by rw [← hU]; exact set_err g1 _ _
          have e2 : U.heap[z + 1]? = some (.cells #[.int .i64 0, .slice none 0 0] 36) := by rw [← hU]; exact (Below.heap_setCell _ _ _ _ (by exact hne)).trans ((Below.heap_setCell _ _ _ _ (by exact hne)).trans g3)
          have e3 : Below w.heap.size w U := by
            have hq : w.heap.size ≤ q := by have := HZZ.out; have := HS0.out; have := HQ0.out; omega
            rw [← hU]
            exact (g4.setCell (p := ⟨q, 0, none⟩) hq _).setCell (p := ⟨q, 1, none⟩) hq _
          exact ⟨(hx.block _ (some_lt e1)).trans e1, pl_nil _, (hx.block _ (some_lt e2)).trans e2, btrH' e3 hx⟩
        clear hU
        go_upto_region 4 with fail
        rw [HU.out]
        clear HU q0 q1 p0 p1
        obtain ⟨q0, q1, _, _⟩ := cell_two (HF.out U (Below.refl _ _)).1
        go_wp2_with fail
        refine (Hi.bad_calls ((1, []) : Int × List (Int × Int)).1 none ((1, []) : Int × List (Int × Int)).2.length 0 U).mono ?_
        rintro e y9 ⟨rfl, hb⟩
        rw [bad_iff]
        have HB9 : Hid (Below U.heap.size U y9) := hb
        clear hb q0 q1
        go_wp2_with fail
        have HSS : Hid (∀ wx : World, wx.heap[q]? = some (.cells #[.int .i64 ((1, []) : Int × List (Int × Int)).1, .slice none ((1, []) : Int × List (Int × Int)).2.length 0] 36) → (fun w' : World => w'.cell? ⟨q, 0, none⟩ = some (.int .i64 ((1, []) : Int × List (Int × Int)).1) ∧ w'.cell? ⟨q, 1, none⟩ = some (.slice none ((1, []) : Int × List (Int × Int)).2.length 0) ∧ Hid (w'.heap[q]? = some (.cells #[.int .i64 ((1, []) : Int × List (Int × Int)).1, .slice none ((1, []) : Int × List (Int × Int)).2.length 0] 36))) wx) := fun wx hx => by
          obtain ⟨b0, b1, _, _⟩ := cell_two hx
          exact ⟨b0, b1, hx⟩
        have HNE : Hid (q ≠ z + 1) := by have := HS0.out; have := HQ0.out; show q ≠ z + 1; omega
        refine wp_region_M (S := (fun w' : World => w'.cell? ⟨q, 0, none⟩ = some (.int .i64 ((1, []) : Int × List (Int × Int)).1) ∧ w'.cell? ⟨q, 1, none⟩ = some (.slice none ((1, []) : Int × List (Int × Int)).2.length 0) ∧ Hid (w'.heap[q]? = some (.cells #[.int .i64 ((1, []) : Int × List (Int × Int)).1, .slice none ((1, []) : Int × List (Int × Int)).2.length 0] 36)))) (by kernel_rfl) (HSS.out _ (HF.out _ (btrH' HB9.out (Below.refl _ _).drew)).1) ?_
        refine wpAnyM_take (i := 0) (oi := { dst := Option.some 29, op := Op.load 36 (Operand.tmp 6), type := 36, pos := "ref.go:22", after := #[{ on := 1, ground := Ground.gcOnly Departure.lateStores }], guard := Option.none }) (v := ?va8z0) rfl (by kernel_rfl) (by kernel_rfl) (by kernel_rfl) (fun _ _ _ h => h) (YieldsM.of_if (Or.inl ⟨by rfl, ?ha8z0⟩)) ?ra8z0
        case ha8z0 => ((intro wz hSw; (try dsimp only at hSw); go_simp); try (with_reducible rfl))
        try simp only [Act.put, List.setIfInBounds_toArray, List.set_cons_zero, List.set_cons_succ]
        refine wpAnyM_take (i := 1) (oi := { dst := Option.some 4, op := Op.assign (Operand.const (Value.slice Option.none 0 0)), type := 28, pos := "ref.go:22", after := #[{ on := 0, ground := Ground.textOnly Departure.lateStores }], guard := Option.none }) (v := ?va9z1) rfl (by kernel_rfl) (by kernel_rfl) (by kernel_rfl) (fun _ _ _ h => h) (YieldsM.of_if (Or.inl ⟨by rfl, ?ha9z1⟩)) ?ra9z1
        case ha9z1 => ((intro wz hSw; (try dsimp only at hSw); go_simp); try (with_reducible rfl))
        try simp only [Act.put, List.setIfInBounds_toArray, List.set_cons_zero, List.set_cons_succ]
        refine readyM (i := 2) (o := { dst := Option.none, op := Op.store 36 (Operand.tmp 5) (Operand.tmp 29), type := 0, pos := "ref.go:22", after := #[{ on := 0, ground := Ground.data }, { on := 1, ground := Ground.chain }, { on := 0, ground := Ground.phase }, { on := 1, ground := Ground.phase }], guard := Option.none }) rfl (by kernel_rfl) ?_
        intro u3 hg3 hS3 K hK
        obtain ⟨g1, g2, g4, g5⟩ := HF.out u3 (btrH' HB9.out (btrH' (Below.refl _ _).drew hg3))
        obtain ⟨d0, d1, f0, f1⟩ := cell_two g4
        have HT4 : Hid (((u3.setCell ⟨z + 1, 0, none⟩ (.int .i64 ((1, []) : Int × List (Int × Int)).1)).setCell ⟨z + 1, 1, none⟩ (.slice none ((1, []) : Int × List (Int × Int)).2.length 0)).heap[z + 1]? = some (.cells #[.int .i64 ((1, []) : Int × List (Int × Int)).1, .slice none ((1, []) : Int × List (Int × Int)).2.length 0] 36) ∧ ((u3.setCell ⟨z + 1, 0, none⟩ (.int .i64 ((1, []) : Int × List (Int × Int)).1)).setCell ⟨z + 1, 1, none⟩ (.slice none ((1, []) : Int × List (Int × Int)).2.length 0)).heap[q]? = some (.cells #[.int .i64 ((1, []) : Int × List (Int × Int)).1, .slice none ((1, []) : Int × List (Int × Int)).2.length 0] 36) ∧ HasPlaces ((u3.setCell ⟨z + 1, 0, none⟩ (.int .i64 ((1, []) : Int × List (Int × Int)).1)).setCell ⟨z + 1, 1, none⟩ (.slice none ((1, []) : Int × List (Int × Int)).2.length 0)) (.slice none ((1, []) : Int × List (Int × Int)).2.length 0) ((1, []) : Int × List (Int × Int)).2 ∧ Below w.heap.size w ((u3.setCell ⟨z + 1, 0, none⟩ (.int .i64 ((1, []) : Int × List (Int × Int)).1)).setCell ⟨z + 1, 1, none⟩ (.slice none ((1, []) : Int × List (Int × Int)).2.length 0))) := ⟨set_err g4 _ _, (Below.heap_setCell _ _ _ _ (by exact HNE.out)).trans ((Below.heap_setCell _ _ _ _ (by exact HNE.out)).trans g1), pl_sets (F := ((1, []) : Int × List (Int × Int))) g4 g2 _ _, HSZ.out _ _ _ g5⟩
        clear hS3 g1 g2 g4 g5 hg3
        go_simp
        refine hK.out _ _ (HSS.out _ HT4.out.2.1) ?_
        clear hK K d0 d1 f0 f1
        try simp only [Act.put, List.setIfInBounds_toArray, List.set_cons_zero, List.set_cons_succ]
        generalize ((u3.setCell ⟨z + 1, 0, none⟩ (.int .i64 ((1, []) : Int × List (Int × Int)).1)).setCell ⟨z + 1, 1, none⟩ (.slice none ((1, []) : Int × List (Int × Int)).2.length 0)) = U4 at HT4 ⊢
        refine wpAnyM_done (by kernel_rfl) ?_ _
        intro u9 hg9 hS9
        have H9 : Hid (u9.heap[z + 1]? = some (.cells #[.int .i64 ((1, []) : Int × List (Int × Int)).1, .slice none ((1, []) : Int × List (Int × Int)).2.length 0] 36) ∧ HasPlaces u9 (.slice none ((1, []) : Int × List (Int × Int)).2.length 0) ((1, []) : Int × List (Int × Int)).2 ∧ Below w.heap.size w u9) := ⟨(Below.block hg9 _ (some_lt HT4.out.1)).trans HT4.out.1, HT4.out.2.2.1.keep hg9, HT4.out.2.2.2.trans (hg9.mono HT4.out.2.2.2.size)⟩
        clear hS9 hg9 HT4
        go_wp2
        exact bodyPost_ret (docLinks_res H9.out.1 rfl rfl) rfl (DL.bad HTA.out.1 HTA.out.2 H9.out.2.1 H9.out.2.2)
      · have i2 : decide ((h.up.length : Int) + (h.dn.length : Int) ≤ (k : Int)) = false := by simpa using hge
        have hk : k < h.up.length + h.dn.length := by omega
        obtain ⟨q0, q1, _, _⟩ := cell_two (HF0.out y4 HB4.out).1
        go_wp2_with fail
        refine (Hi.bad_calls 0 lo 0 lc y4).mono ?_
        rintro e X0 ⟨rfl, hb⟩
        have HX0 : Hid (Below w3.heap.size w3 X0) := btrH' HB4.out hb
        clear hb q0 q1
        obtain ⟨T, hT⟩ : ∃ T, flatI h k = T := ⟨_, rfl⟩
        have HTT : Hid (flatI h k = T) := hT
        have hks : k < (stds h).length := by rw [stds_len (chk_ok HC.out).2.2.2.2.1 (chk_ok HC.out).2.2.2.2.2.1]; exact hk
        obtain ⟨V, hV⟩ : ∃ V, X0.alloc (.cells #[.int .i64 (k : Int)] 3) = V := ⟨_, rfl⟩
        have HV : Hid (X0.alloc (.cells #[.int .i64 (k : Int)] 3) = V) := hV
        have Y0 : Hid (LayI h T 65537 X0 V (.slice none 0 0) (.slice (some ⟨X0.heap.size, 0, none⟩) [k].length 1) [] [k]) := by
          have b1 : Below X0.heap.size X0 V := by rw [← hV]; exact (Below.refl _ _).alloc (Nat.le_refl _) _
          have n1 : V.heap[X0.heap.size]? = some (.cells #[.int .i64 (k : Int)] 3) := by rw [← hV]; exact heap_newW _ _
          exact ⟨b1, World.ownsRow_nil _ _ _ _, ⟨rfl, Or.inr ⟨X0.heap.size, 1, _, rfl, Nat.le_refl _, n1, Nat.le_refl _, by unfold maxLen; decide, rfl, rfl⟩⟩, (fun a ha => by cases ha), by rw [List.nil_append, List.reverse_singleton, layL_one]; exact hT, Waits.back (L := [k]) HC.out (fun j hj => by simp at hj; subst hj; exact hks), Nat.zero_le _⟩
        have HX : Hid (∀ wx, Below X0.heap.size X0 wx → wx.heap[z]? = some (.cells #[.slice no h.node.length nc, .slice uo h.upF.length uc, .slice ul h.up.length ulc, .slice wo h.dnF.length wc, .slice dl h.dn.length dlc] 25) ∧ wx.heap[z + 1]? = some (.cells #[.int .i64 0, .slice none 0 0] 36) ∧ wx.heap[q]? = some (.cells #[.int .i64 0, .slice lo 0 lc] 36) ∧ HasH wx ⟨no, uo, ul, wo, dl, nc, uc, ulc, wc, dlc⟩ h ∧ Below w.heap.size w wx) := fun wx hx => by
          have b := btrH' HX0.out hx
          obtain ⟨a1, a2, a3, a4⟩ := HQ.out wx (HUP3.out wx b)
          exact ⟨a1, a2, (HF0.out wx b).1, a3, a4⟩
        have HZX : Hid (z + 1 < X0.heap.size ∧ w.heap.size ≤ X0.heap.size ∧ q < X0.heap.size) := ⟨some_lt (HX.out X0 (Below.refl _ _)).2.1, (HX.out X0 (Below.refl _ _)).2.2.2.2.size, some_lt (HX.out X0 (Below.refl _ _)).2.2.1⟩
        have HNE : Hid (q ≠ z + 1) := by have := HS0.out; have := HQ0.out; show q ≠ z + 1; omega
        have HAT : Hid (∀ wx (j : Nat), j < (stds h).length → Below X0.heap.size X0 wx → Calls Tryz.prog 27 #[.agg #[.slice no h.node.length nc, .slice uo h.upF.length uc, .slice ul h.up.length ulc, .slice wo h.dnF.length wc, .slice dl h.dn.length dlc], .int .i64 (j : Int)] wx fun e w' => e = .returned (.agg #[.int .u32 ((lkO h j).lk.hd : Int), .int .u64 ((lkO h j).lk.wt : Int), .int .u32 ((lkO h j).lk.lf : Int), .int .u32 ((lkO h j).lk.rt : Int)]) ∧ Below wx.heap.size wx w') := fun wx j hj hx => by
          have hj2 := hj
          rw [stds_len (chk_ok HC.out).2.2.2.2.1 (chk_ok HC.out).2.2.2.2.2.1] at hj2
          have g := link_calls _ h j wx (HX.out wx hx).2.2.2.1 (by omega) hj2
          rw [(link_ok HC.out hj).lk] at g
          exact g
        have HPL : Hid (∀ (l : Lk) wx, Calls Tryz.prog 26 #[.agg #[.int .u32 (l.hd : Int), .int .u64 (l.wt : Int), .int .u32 (l.lf : Int), .int .u32 (l.rt : Int)]] wx fun e w' => e = .returned (.bool l.plain) ∧ Below wx.heap.size wx w') := fun l wx => tplain_calls l wx
        have HOKL : Hid (∀ j, j < (stds h).length → (lkO h j).lk.ok) := fun j hj => by
          have hj2 := hj
          rw [stds_len (chk_ok HC.out).2.2.2.2.1 (chk_ok HC.out).2.2.2.2.2.1] at hj2
          have hH := (HX.out X0 (Below.refl _ _)).2.2.2.1
          show (sd (stds h) j).lk.ok
          rw [← (link_ok HC.out hj).lk]
          unfold linkAt
          rw [List.getD_eq_getElem?_getD]
          rcases Nat.lt_or_ge j h.up.length with hlt | hge
          · rw [List.getElem?_append_left hlt, List.getElem?_eq_getElem hlt]
            exact (hH.up.at (List.getElem?_eq_getElem hlt)).1
          · rw [List.getElem?_append_right hge, List.getElem?_eq_getElem (by omega)]
            exact (hH.dn.at (List.getElem?_eq_getElem (by omega))).1
        obtain ⟨i0, hi0⟩ := infoI
        have HI0 : Hid (Tryz.prog.info? 3 = some i0 ∧ i0.zero = some (.int .i64 0) ∧ i0.size = 1 ∧ i0.bytes = 8) := hi0
        have HKK : Hid (k < h.up.length + h.dn.length) := hk
        clear hV hi0 hT hks hk hge hneg hsm i1 i2
        go_upto_region 8 with fail
        rw [HV.out]
        go_loopw [7, 8] (fun pv qv wr => ∃ (P W : List Nat) (po qo : Option Addr) (pc qc : Nat), pv = .slice po P.length pc ∧ qv = .slice qo W.length qc ∧ Hid (LayI h T 65537 X0 wr (.slice po P.length pc) (.slice qo W.length qc) P W)) (fun _ qv wr => sumZ h (rdRow wr qv))
        case atStart => exact ⟨[], [k], none, some ⟨X0.heap.size, 0, none⟩, 0, 1, rfl, rfl, Y0.out⟩
        case round =>
          obtain ⟨P, W, po, qo, pc, qc, rfl, rfl, HI⟩ := hrel
          rcases List.eq_nil_or_concat W with rfl | ⟨W1, i, hW⟩
          · have HEQ : Hid (P = T ∧ P.length ≤ 131072) := ⟨by have := HI.out.eq; simpa [layL] using this, HI.out.few⟩
            have HTA : Hid (lkE h (k : Int) = (0, []) ∧ lkL h (k : Int) = P) := by
              obtain ⟨e1, e2⟩ := HEQ.out
              have hl : (flatI h k).length ≤ 131072 := by rw [HTT.out, ← e1]; exact e2
              have e3 := lkE_ok HC.out HKK.out hl
              exact ⟨e3, (lkL_ok e3).trans (HTT.out.trans e1.symm)⟩
            have HGO : Hid (GrI w wr (.slice po P.length pc) P ∧ wr.ownsRow X0.heap.size 3 1 (.slice po P.length pc) P.length (iv (zs P))) := ⟨⟨own_lowU HI.out.own HZX.out.2.1, (HX.out wr HI.out.bel).2.2.2.2⟩, HI.out.own⟩
            have HBL : Hid (Below X0.heap.size X0 wr) := HI.out.bel
            clear HI
            go_wp2_with fail
            have HSS : Hid (∀ wx : World, wx.heap[q]? = some (.cells #[.int .i64 0, .slice lo 0 lc] 36) → (fun w' : World => w'.cell? ⟨q, 0, none⟩ = some (.int .i64 0) ∧ w'.cell? ⟨q, 1, none⟩ = some (.slice lo 0 lc) ∧ Hid (w'.heap[q]? = some (.cells #[.int .i64 0, .slice lo 0 lc] 36))) wx) := fun wx hx => by
              obtain ⟨b0, b1, _, _⟩ := cell_two hx
              exact ⟨b0, b1, hx⟩
            refine wp_region_M (S := (fun w' : World => w'.cell? ⟨q, 0, none⟩ = some (.int .i64 0) ∧ w'.cell? ⟨q, 1, none⟩ = some (.slice lo 0 lc) ∧ Hid (w'.heap[q]? = some (.cells #[.int .i64 0, .slice lo 0 lc] 36)))) (by kernel_rfl) (HSS.out _ (HX.out _ (btrH' HBL.out (Below.refl _ _).drew)).2.2.1) ?_
            refine wpAnyM_take (i := 0) (oi := { dst := Option.some 69, op := Op.move (Operand.tmp 7), type := 28, pos := "ref.go:39", after := #[], guard := Option.none }) (v := ?vl3z0) rfl (by kernel_rfl) (by kernel_rfl) (by kernel_rfl) (fun _ _ _ h => h) (YieldsM.of_if (Or.inl ⟨by rfl, ?hl3z0⟩)) ?rl3z0
            case hl3z0 => ((intro wz hSw; (try dsimp only at hSw); go_simp); try (with_reducible rfl))
            try simp only [Act.put, List.setIfInBounds_toArray, List.set_cons_zero, List.set_cons_succ]
            refine wpAnyM_take (i := 1) (oi := { dst := Option.some 70, op := Op.load 36 (Operand.tmp 6), type := 36, pos := "ref.go:39", after := #[{ on := 2, ground := Ground.gcOnly Departure.lateStores }], guard := Option.none }) (v := ?vl4z1) rfl (by kernel_rfl) (by kernel_rfl) (by kernel_rfl) (fun _ _ _ h => h) (YieldsM.of_if (Or.inl ⟨by rfl, ?hl4z1⟩)) ?rl4z1
            case hl4z1 => ((intro wz hSw; (try dsimp only at hSw); go_simp); try (with_reducible rfl))
            try simp only [Act.put, List.setIfInBounds_toArray, List.set_cons_zero, List.set_cons_succ]
            refine wpAnyM_take (i := 2) (oi := { dst := Option.some 4, op := Op.assign (Operand.tmp 69), type := 28, pos := "ref.go:39", after := #[{ on := 0, ground := Ground.data }, { on := 0, ground := Ground.phase }, { on := 1, ground := Ground.textOnly Departure.lateStores }], guard := Option.none }) (v := ?vl5z2) rfl (by kernel_rfl) (by kernel_rfl) (by kernel_rfl) (fun _ _ _ h => h) (YieldsM.of_if (Or.inl ⟨by rfl, ?hl5z2⟩)) ?rl5z2
            case hl5z2 => ((intro wz hSw; (try dsimp only at hSw); go_simp); try (with_reducible rfl))
            try simp only [Act.put, List.setIfInBounds_toArray, List.set_cons_zero, List.set_cons_succ]
            refine readyM (i := 3) (o := { dst := Option.none, op := Op.store 36 (Operand.tmp 5) (Operand.tmp 70), type := 0, pos := "ref.go:39", after := #[{ on := 1, ground := Ground.data }, { on := 2, ground := Ground.chain }, { on := 0, ground := Ground.phase }, { on := 1, ground := Ground.phase }, { on := 2, ground := Ground.phase }], guard := Option.none }) rfl (by kernel_rfl) ?_
            intro u3 hg3 hS3 K hK
            have hb3 := btrH' HBL.out (btrH' (Below.refl _ _).drew hg3)
            obtain ⟨g0, g4, g1, _, g5⟩ := HX.out u3 hb3
            obtain ⟨d0, d1, f0, f1⟩ := cell_two g4
            have hown : u3.ownsRow X0.heap.size 3 1 (.slice po P.length pc) P.length (iv (zs P)) := iown_keep HGO.out.2 fun k hk => (Below.block (btrH' (Below.refl _ _).drew hg3) k (HGO.out.2.lt k hk).2)
            have HT4 : Hid (((u3.setCell ⟨z + 1, 0, none⟩ (.int .i64 0)).setCell ⟨z + 1, 1, none⟩ (.slice lo 0 lc)).heap[z + 1]? = some (.cells #[.int .i64 0, .slice lo 0 lc] 36) ∧ ((u3.setCell ⟨z + 1, 0, none⟩ (.int .i64 0)).setCell ⟨z + 1, 1, none⟩ (.slice lo 0 lc)).heap[q]? = some (.cells #[.int .i64 0, .slice lo 0 lc] 36) ∧ ((u3.setCell ⟨z + 1, 0, none⟩ (.int .i64 0)).setCell ⟨z + 1, 1, none⟩ (.slice lo 0 lc)).ownsRow w.heap.size 3 1 (.slice po P.length pc) P.length (iv (zs P)) ∧ Below w.heap.size w ((u3.setCell ⟨z + 1, 0, none⟩ (.int .i64 0)).setCell ⟨z + 1, 1, none⟩ (.slice lo 0 lc))) := ⟨set_err g4 _ _, (Below.heap_setCell _ _ _ _ (by exact HNE.out)).trans ((Below.heap_setCell _ _ _ _ (by exact HNE.out)).trans g1), own_lowU (iown_keep hown fun k hk => by
              have hne : k ≠ z + 1 := by have := (hown.lt k hk).1; have := HZX.out.1; omega
              exact (Below.heap_setCell _ _ _ _ (by exact hne)).trans (Below.heap_setCell _ _ _ _ (by exact hne))) HZX.out.2.1, HSZ.out _ _ _ g5⟩
            clear hS3 g0 g1 g4 g5 hg3 hown hb3
            go_simp
            refine hK.out _ _ (HSS.out _ HT4.out.2.1) ?_
            clear hK K d0 d1 f0 f1
            try simp only [Act.put, List.setIfInBounds_toArray, List.set_cons_zero, List.set_cons_succ]
            generalize ((u3.setCell ⟨z + 1, 0, none⟩ (.int .i64 0)).setCell ⟨z + 1, 1, none⟩ (.slice lo 0 lc)) = U4 at HT4 ⊢
            refine wpAnyM_done (by kernel_rfl) ?_ _
            intro u9 hg9 hS9
            have H9 : Hid (u9.heap[z + 1]? = some (.cells #[.int .i64 0, .slice lo 0 lc] 36) ∧ GrI w u9 (.slice po P.length pc) P) := ⟨(Below.block hg9 _ (some_lt HT4.out.1)).trans HT4.out.1, GrI.up ⟨HT4.out.2.2.1, HT4.out.2.2.2⟩ hg9⟩
            clear hS9 hg9 HT4
            go_wp2
            refine bodyPost_ret (docLinks_res H9.out.1 rfl rfl) rfl ?_
            rw [HTA.out.1, HTA.out.2]
            exact ⟨po, pc, lo, lc, rfl, H9.out.2, ⟨lo, lc, rfl, fun j p hj => by simp at hj⟩⟩
          · rw [List.concat_eq_append] at hW
            subst hW
            obtain ⟨gq, cap, hq, _, hgl, hcap, hcl⟩ := iown_at HI.out.wow (by simp)
            injection hq with hq1 hq2 hq3
            subst hq1 hq3
            clear hq2
            have ci := hcl W1.length i (by simp)
            clear hcl
            obtain ⟨_, hwt, hist, hwl⟩ := HI.out.pop
            have hwn : W1.length ≤ 2000000 := by
              have := hwt.len
              omega
            have HIS : Hid (i < (stds h).length) := hist
            have HME : Hid (rdRow wr (.slice (some ⟨gq, 0, none⟩) (W1 ++ [i]).length qc) = W1 ++ [i]) := rd_own HI.out.wow
            obtain ⟨l, hl⟩ : ∃ l, (lkO h i).lk = l := ⟨_, rfl⟩
            obtain ⟨o1, o2, o3, o4⟩ := HOKL.out i hist
            rw [hl] at o1 o2 o3 o4
            have HL : Hid ((lkO h i).lk = l) := hl
            have hA := HAT.out wr i hist HI.out.bel
            rw [hl] at hA
            have HA : Hid (type_of% hA) := hA
            obtain ⟨pl, hpl⟩ : ∃ pl, plO h i = pl := ⟨_, rfl⟩
            have HP : Hid (plO h i = pl ∧ l.plain = pl) := ⟨hpl, by rw [← hl]; exact hpl⟩
            have v1 : IntKind.i64.wrap ((W1.length : Int) + 1 - 1) = (W1.length : Int) := by rw [IntKind.wrap_i64] <;> omega
            have v2 : (W1.length : Int) + 1 - 1 = (W1.length : Int) := by omega
            have hsl : ∀ wx, (Instr.slice 28 (.slice (some ⟨gq, 0, none⟩) (W1.length + 1) qc) none (some (.int .i64 (W1.length : Int))) none).run Tryz.prog wx = .ok (.slice (some ⟨gq, 0, none⟩) W1.length qc) wx := fun wx => slice_uptoI gq (W1.length + 1) qc W1.length (by simpa using hcap) (by omega) wx
            have i1 : (0 : Int) ≤ (W1.length : Int) := by omega
            have i2 : (W1.length : Int) < (W1.length : Int) + 1 := by omega
            obtain ⟨c0, c1, c2, c3, c4⟩ := five_cells (HX.out wr HI.out.bel).1
            clear hist hl hA hpl hwt hwl
            go_wp2_with fail
            refine HA.out.mono ?_
            rintro e y1 ⟨rfl, hb⟩
            have Y1 : Hid (Below wr.heap.size wr y1) := hb
            clear hb c0 c1 c2 c3 c4 ci hsl hgl
            obtain ⟨b, hbz⟩ : ∃ b, y1.heap.size = b := ⟨_, rfl⟩
            obtain ⟨V1, hV1⟩ : ∃ V1, y1.alloc (.cells #[.int .u32 (l.hd : Int), .int .u64 (l.wt : Int), .int .u32 (l.lf : Int), .int .u32 (l.rt : Int)] 65) = V1 := ⟨_, rfl⟩
            have HV1 : Hid (y1.alloc (.cells #[.int .u32 (l.hd : Int), .int .u64 (l.wt : Int), .int .u32 (l.lf : Int), .int .u32 (l.rt : Int)] 65) = V1 ∧ y1.heap.size = b) := ⟨hV1, hbz⟩
            have b1 : Below y1.heap.size y1 V1 := by rw [← hV1]; exact (Below.refl _ _).alloc (Nat.le_refl _) _
            have n1 : V1.heap[b]? = some (.cells #[.int .u32 (l.hd : Int), .int .u64 (l.wt : Int), .int .u32 (l.lf : Int), .int .u32 (l.rt : Int)] 65) := by rw [← hV1, ← hbz]; exact heap_newW _ _
            have HV2 : Hid (∀ wx, Below V1.heap.size V1 wx → (wx.cell? ⟨b, 0, none⟩ = some (.int .u32 (l.hd : Int)) ∧ wx.cell? ⟨b, 1, none⟩ = some (.int .u64 (l.wt : Int)) ∧ wx.cell? ⟨b, 2, none⟩ = some (.int .u32 (l.lf : Int)) ∧ wx.cell? ⟨b, 3, none⟩ = some (.int .u32 (l.rt : Int)) ∧ b < wx.heap.size) ∧ Below wr.heap.size wr wx) := fun wx hx => by
              have g := (hx.block _ (some_lt n1)).trans n1
              exact ⟨⟨by simp [World.cell?, g], by simp [World.cell?, g], by simp [World.cell?, g], by simp [World.cell?, g], some_lt g⟩, btrU Y1.out (btrU b1 hx)⟩
            clear hV1 hbz b1 n1
            go_upto_region 12 with fail
            rw [HV1.out.1]
            rw [HV1.out.2]
            obtain ⟨⟨d0, d1, d2, d3, lb⟩, _⟩ := HV2.out V1 (Below.refl _ _)
            go_wp2_with fail
            refine (HPL.out l V1).mono ?_
            rintro e y2 ⟨rfl, hb⟩
            have Y2 : Hid (Below V1.heap.size V1 y2) := hb
            clear hb d0 d1 d2 d3 lb
            obtain ⟨⟨d0, d1, d2, d3, lb⟩, _⟩ := HV2.out y2 Y2.out
            have HB2 : Hid (Below wr.heap.size wr y2) := (HV2.out y2 Y2.out).2
            rw [HP.out.2]
            have x1 : IntKind.i64.wrap (l.rt : Int) = (l.rt : Int) := by rw [IntKind.wrap_i64] <;> omega
            have x2 : IntKind.i64.wrap (l.lf : Int) = (l.lf : Int) := by rw [IntKind.wrap_i64] <;> omega
            cases pl with
            | false =>
              go_wp2_with (at_builtin; refine wpList_append_lies _ rfl _ _ 28 rfl X0.heap.size 3 i0 (.int .i64 0) 1 8 Tryz.underlying28 HI0.out.1 HI0.out.2.1 HI0.out.2.2.1 HI0.out.2.2.2 rfl (by decide) (.slice (some ⟨gq, 0, none⟩) W1.length qc) W1.length (iv (zs W1)) rfl (iown_keep (HI.out.up HB2.out).pop.1 fun k hk => Below.heap_alloc _ _ _ ((HI.out.up HB2.out).pop.1.lt k hk).2) ⟨y2.heap.size, 0, none⟩ 2 2 (iv (zs [l.rt, l.lf])) rfl rfl (new_cellsU y2 (iv (zs [l.rt, l.lf])) 3) (ivz_one _) (by decide) (by unfold maxLen; omega) (by omega) (by have := (HI.out.up HB2.out).bel.size; simp; omega) _ rfl ?_; intro g5 cap5 w5 hown5 hgr5 hor5 hlt5; have H5 : Hid (LayI h T 65537 X0 w5 (.slice po P.length pc) (.slice (some ⟨g5, 0, none⟩) (W1 ++ [(lkO h i).lk.rt, (lkO h i).lk.lf]).length cap5) P (W1 ++ [(lkO h i).lk.rt, (lkO h i).lk.lf]) ∧ sumZ h (W1 ++ [(lkO h i).lk.rt, (lkO h i).lk.lf]) < sumZ h (W1 ++ [i])) := HI.out.cut HC.out HP.out.1 (btrU HB2.out ((Below.refl _ y2).alloc (Nat.le_refl _) _)) (by rw [HL.out]; exact hown5) hgr5 hor5; clear hown5 hgr5 hor5 hlt5)
              go_roundw
              case rel => exact ⟨P, W1 ++ [(lkO h i).lk.rt, (lkO h i).lk.lf], po, some ⟨g5, 0, none⟩, pc, cap5, rfl, by simp, H5.out.1⟩
              case measure =>
                have q1 := rd_own H5.out.1.wow
                have q2 := HME.out
                have q3 := H5.out.2
                simp only [List.length_append, List.length_cons, List.length_nil] at q1 q2 ⊢
                rw [q1, q2]
                exact q3
            | true =>
              by_cases hful : P.length = 131072
              · have f1 : ((P.length : Int) == 131072) = true := by simp; omega
                have HTT2 : Hid (131072 < T.length) := by
                  have q1 := HI.out.eq
                  have q2 := (lay_plain q1 HP.out.1).1
                  show 131072 < T.length
                  rw [← q2]
                  simp
                  omega
                have HTA : Hid (lkE h (k : Int) = (2, []) ∧ lkL h (k : Int) = []) := by
                  have e := lkE_long HC.out HKK.out (by rw [HTT.out]; exact HTT2.out)
                  exact ⟨e, lkL_bad (by rw [e]; decide)⟩
                have HB3 : Hid (Below X0.heap.size X0 y2) := (HI.out.up HB2.out).bel
                clear HI HL HP HME
                go_wp2_with fail
                refine (E_calls 2 y2).mono ?_
                rintro e y6 ⟨rfl, hb⟩
                obtain ⟨_, g4, _, _, g5⟩ := HX.out y6 (btrH' HB3.out hb)
                obtain ⟨e0, e1, f0, f2⟩ := cell_two g4
                have H9 : Hid (((y6.setCell ⟨z + 1, 0, none⟩ (.int .i64 2)).setCell ⟨z + 1, 1, none⟩ (.slice none 0 0)).heap[z + 1]? = some (.cells #[.int .i64 ((2, []) : Int × List (Int × Int)).1, .slice none ((2, []) : Int × List (Int × Int)).2.length 0] 36) ∧ Below w.heap.size w ((y6.setCell ⟨z + 1, 0, none⟩ (.int .i64 2)).setCell ⟨z + 1, 1, none⟩ (.slice none 0 0))) := ⟨set_err g4 _ _, HSZ.out _ _ _ g5⟩
                clear hb g4 g5
                go_wp2
                exact bodyPost_ret (docLinks_res H9.out.1 rfl rfl) rfl (DL.bad HTA.out.1 HTA.out.2 (pl_nil _) H9.out.2)
              · have f1 : ((P.length : Int) == 131072) = false := by simp; omega
                have HPL2 : Hid (P.length < 131072) := by have := HI.out.few; show P.length < 131072; omega
                have hpf : P.length < 131072 := HPL2.out
                go_wp2_with (at_builtin; refine wpList_append_lies _ rfl _ _ 28 rfl X0.heap.size 3 i0 (.int .i64 0) 1 8 Tryz.underlying28 HI0.out.1 HI0.out.2.1 HI0.out.2.2.1 HI0.out.2.2.2 rfl (by decide) (.slice po P.length pc) P.length (iv (zs P)) rfl (iown_keep (HI.out.up HB2.out).own fun k hk => Below.heap_alloc _ _ _ ((HI.out.up HB2.out).own.lt k hk).2) ⟨y2.heap.size, 0, none⟩ 1 1 (iv (zs [i])) rfl rfl (new_cellsU y2 (iv (zs [i])) 3) (ivz_one _) (by decide) (by unfold maxLen; omega) (by omega) (by have := (HI.out.up HB2.out).bel.size; simp; omega) _ rfl ?_; intro g5 cap5 w5 hown5 hgr5 hor5 hlt5; have H5 : Hid (LayI h T 65537 X0 w5 (.slice (some ⟨g5, 0, none⟩) (P ++ [i]).length cap5) (.slice (some ⟨gq, 0, none⟩) W1.length qc) (P ++ [i]) W1 ∧ sumZ h W1 < sumZ h (W1 ++ [i])) := HI.out.add HP.out.1 HPL2.out (btrU HB2.out ((Below.refl _ y2).alloc (Nat.le_refl _) _)) hown5 hgr5 hor5; clear hown5 hgr5 hor5 hlt5)
                go_roundw
                case rel => exact ⟨P ++ [i], W1, some ⟨g5, 0, none⟩, some ⟨gq, 0, none⟩, cap5, qc, by simp, rfl, H5.out.1⟩
                case measure =>
                  have q1 := rd_own H5.out.1.wow
                  have q2 := HME.out
                  have q3 := H5.out.2
                  simp only [List.length_append, List.length_cons, List.length_nil] at q1 q2 ⊢
                  rw [q1, q2]
                  exact q3
  · have j1 : decide (E = (0, [])) = false := by simpa using hc
    have HTA : Hid (lkE h i = E ∧ lkL h i = []) := by
      have e1 : ¬ chk h = (0, []) := by rw [HE.out]; exact hc
      have e2 := lkE_chk (i := i) e1
      exact ⟨e2.trans HE.out, lkL_bad (by rw [e2]; exact e1)⟩
    clear hc
    have HF : Hid (∀ wx, Below w3.heap.size w3 wx → wx.heap[q]? = some (.cells #[.int .i64 E.1, .slice lo E.2.length lc] 36) ∧ HasPlaces wx (.slice lo E.2.length lc) E.2 ∧ wx.heap[z + 1]? = some (.cells #[.int .i64 0, .slice none 0 0] 36) ∧ Below w.heap.size w wx) := fun wx hx => by
      obtain ⟨g1, g2, g3⟩ := H2.out wx (btrH' HB3.out hx)
      obtain ⟨_, a2, _, a4⟩ := HQ.out wx g3
      exact ⟨g1, g2, a2, a4⟩
    obtain ⟨q0, q1, _, _⟩ := cell_two (HF.out w3 (Below.refl _ _)).1
    go_wp2_with fail
    refine (Hi.bad_calls E.1 lo E.2.length lc w3).mono ?_
    rintro e y9 ⟨rfl, hb⟩
    rw [bad_iff]
    have HB9 : Hid (Below w3.heap.size w3 y9) := hb
    clear hb q0 q1
    go_wp2_with fail
    have HSS : Hid (∀ wx : World, wx.heap[q]? = some (.cells #[.int .i64 E.1, .slice lo E.2.length lc] 36) → (fun w' : World => w'.cell? ⟨q, 0, none⟩ = some (.int .i64 E.1) ∧ w'.cell? ⟨q, 1, none⟩ = some (.slice lo E.2.length lc) ∧ Hid (w'.heap[q]? = some (.cells #[.int .i64 E.1, .slice lo E.2.length lc] 36))) wx) := fun wx hx => by
      obtain ⟨b0, b1, _, _⟩ := cell_two hx
      exact ⟨b0, b1, hx⟩
    have HNE : Hid (q ≠ z + 1) := by have := HS0.out; have := HQ0.out; show q ≠ z + 1; omega
    refine wp_region_M (S := (fun w' : World => w'.cell? ⟨q, 0, none⟩ = some (.int .i64 E.1) ∧ w'.cell? ⟨q, 1, none⟩ = some (.slice lo E.2.length lc) ∧ Hid (w'.heap[q]? = some (.cells #[.int .i64 E.1, .slice lo E.2.length lc] 36)))) (by kernel_rfl) (HSS.out _ (HF.out _ (btrH' HB9.out (Below.refl _ _).drew)).1) ?_
    refine wpAnyM_take (i := 0) (oi := { dst := Option.some 29, op := Op.load 36 (Operand.tmp 6), type := 36, pos := "ref.go:22", after := #[{ on := 1, ground := Ground.gcOnly Departure.lateStores }], guard := Option.none }) (v := ?va1z0) rfl (by kernel_rfl) (by kernel_rfl) (by kernel_rfl) (fun _ _ _ h => h) (YieldsM.of_if (Or.inl ⟨by rfl, ?ha1z0⟩)) ?ra1z0
    case ha1z0 => ((intro wz hSw; (try dsimp only at hSw); go_simp); try (with_reducible rfl))
    try simp only [Act.put, List.setIfInBounds_toArray, List.set_cons_zero, List.set_cons_succ]
    refine wpAnyM_take (i := 1) (oi := { dst := Option.some 4, op := Op.assign (Operand.const (Value.slice Option.none 0 0)), type := 28, pos := "ref.go:22", after := #[{ on := 0, ground := Ground.textOnly Departure.lateStores }], guard := Option.none }) (v := ?va2z1) rfl (by kernel_rfl) (by kernel_rfl) (by kernel_rfl) (fun _ _ _ h => h) (YieldsM.of_if (Or.inl ⟨by rfl, ?ha2z1⟩)) ?ra2z1
    case ha2z1 => ((intro wz hSw; (try dsimp only at hSw); go_simp); try (with_reducible rfl))
    try simp only [Act.put, List.setIfInBounds_toArray, List.set_cons_zero, List.set_cons_succ]
    refine readyM (i := 2) (o := { dst := Option.none, op := Op.store 36 (Operand.tmp 5) (Operand.tmp 29), type := 0, pos := "ref.go:22", after := #[{ on := 0, ground := Ground.data }, { on := 1, ground := Ground.chain }, { on := 0, ground := Ground.phase }, { on := 1, ground := Ground.phase }], guard := Option.none }) rfl (by kernel_rfl) ?_
    intro u3 hg3 hS3 K hK
    obtain ⟨g1, g2, g4, g5⟩ := HF.out u3 (btrH' HB9.out (btrH' (Below.refl _ _).drew hg3))
    obtain ⟨d0, d1, f0, f1⟩ := cell_two g4
    have HT4 : Hid (((u3.setCell ⟨z + 1, 0, none⟩ (.int .i64 E.1)).setCell ⟨z + 1, 1, none⟩ (.slice lo E.2.length lc)).heap[z + 1]? = some (.cells #[.int .i64 E.1, .slice lo E.2.length lc] 36) ∧ ((u3.setCell ⟨z + 1, 0, none⟩ (.int .i64 E.1)).setCell ⟨z + 1, 1, none⟩ (.slice lo E.2.length lc)).heap[q]? = some (.cells #[.int .i64 E.1, .slice lo E.2.length lc] 36) ∧ HasPlaces ((u3.setCell ⟨z + 1, 0, none⟩ (.int .i64 E.1)).setCell ⟨z + 1, 1, none⟩ (.slice lo E.2.length lc)) (.slice lo E.2.length lc) E.2 ∧ Below w.heap.size w ((u3.setCell ⟨z + 1, 0, none⟩ (.int .i64 E.1)).setCell ⟨z + 1, 1, none⟩ (.slice lo E.2.length lc))) := ⟨set_err g4 _ _, (Below.heap_setCell _ _ _ _ (by exact HNE.out)).trans ((Below.heap_setCell _ _ _ _ (by exact HNE.out)).trans g1), pl_sets (F := E) g4 g2 _ _, HSZ.out _ _ _ g5⟩
    clear hS3 g1 g2 g4 g5 hg3
    go_simp
    refine hK.out _ _ (HSS.out _ HT4.out.2.1) ?_
    clear hK K d0 d1 f0 f1
    try simp only [Act.put, List.setIfInBounds_toArray, List.set_cons_zero, List.set_cons_succ]
    generalize ((u3.setCell ⟨z + 1, 0, none⟩ (.int .i64 E.1)).setCell ⟨z + 1, 1, none⟩ (.slice lo E.2.length lc)) = U4 at HT4 ⊢
    refine wpAnyM_done (by kernel_rfl) ?_ _
    intro u9 hg9 hS9
    have H9 : Hid (u9.heap[z + 1]? = some (.cells #[.int .i64 E.1, .slice lo E.2.length lc] 36) ∧ HasPlaces u9 (.slice lo E.2.length lc) E.2 ∧ Below w.heap.size w u9) := ⟨(Below.block hg9 _ (some_lt HT4.out.1)).trans HT4.out.1, HT4.out.2.2.1.keep hg9, HT4.out.2.2.2.trans (hg9.mono HT4.out.2.2.2.size)⟩
    clear hS9 hg9 HT4
    go_wp2
    exact bodyPost_ret (docLinks_res H9.out.1 rfl rfl) rfl (DL.bad HTA.out.1 HTA.out.2 H9.out.2.1 H9.out.2.2)
theorem docLinks_calls (v : HV) (h : Hr) (i : Int) (w : World) (hH : HasH w v h) (hb1 : h.up.length ≤ 1152921504606846976) (hb2 : h.dn.length ≤ 1152921504606846976) (hb3 : h.node.length ≤ 1152921504606846976) :
    Calls Tryz.prog 11 #[hvl v h, .int .i64 i] w (DL (lkE h i) (lkL h i) w) :=
  docLinks_aux v.no v.uo v.ul v.wo v.dl v.nc v.uc v.ulc v.wc v.dlc h i w hH hb1 hb2 hb3
end Go.Proofs.YtodilocmfdeehaaGreatDoor.Hi

namespace Go.Proofs.YtodilocmfdeehaaGreatDoor.Hi
open Go.RowKit Go.Extern Go.Shelf

attribute [local go_sem] Oper.semAt_some

theorem docNodes_res {W : World} {y : Nat} {u y0 y1 : Value} {tmps : Array Value} (h2 : W.heap[y]? = some (.cells #[y0, y1] 36)) (t2 : tmps[4]?.getD undef = u) (t3 : tmps[5]?.getD undef = .pointer (some ⟨y, 0, none⟩)) :
    (results Tryz.f16 tmps).run Tryz.prog W = .ok (.tuple #[u, .agg #[y0, y1]]) W := by
  obtain ⟨d0, d1, _, _⟩ := cell_two h2
  simp [results, Tryz.results16, go_sem, t2, t3, d0, d1]
theorem build_i1 (a : Int) (wx : World) : (Instr.buildSlice 28 1 #[(0, .int .i64 a)]).run Tryz.prog wx = .ok (.slice (some ⟨wx.heap.size, 0, none⟩) 1 1) (wx.alloc (.cells #[.int .i64 a] 3)) := by kernel_rfl
theorem nal_snoc {h : Hr} {a : Nat} {L : List Nat} {k x : Nat} (hx : L[k]? = some x) : ndR h (alR h a (L.take (k + 1))) = ndR h (alR h a (L.take k)) ++ [nth h.node (lkO h x).head] := by
  rw [alR_snoc hx]; simp [ndR]
theorem flat_first {h : Hr} (hc : chk h = (0, [])) {k : Nat} (hk : k < (stds h).length) : ∃ f0, (flatI h k)[0]? = some f0 ∧ (lkO h f0).tail = (lkO h k).tail := by
  obtain ⟨h1, h2⟩ := flat_chain hc _ k hk (Nat.lt_succ_self _)
  have e : flatI h k = flat h ((lkO h k).rk + 1) k := rfl
  rw [e]
  generalize flat h ((lkO h k).rk + 1) k = F at *
  cases F with
  | nil => exact absurd rfl h2
  | cons f r => exact ⟨f, rfl, h1.2.2.1⟩

set_option maxRecDepth 100000 in
set_option maxHeartbeats 8000000 in
theorem docNodes_aux (no uo ul wo dl : Option Addr) (nc uc ulc wc dlc : Nat) (h : Hr) (i : Int) (w : World) (hH : HasH w ⟨no, uo, ul, wo, dl, nc, uc, ulc, wc, dlc⟩ h) (hb1 : h.up.length ≤ 1152921504606846976) (hb2 : h.dn.length ≤ 1152921504606846976) (hb3 : h.node.length ≤ 1152921504606846976) :
    Calls Tryz.prog 16 #[.agg #[.slice no h.node.length nc, .slice uo h.upF.length uc, .slice ul h.up.length ulc, .slice wo h.dnF.length wc, .slice dl h.dn.length dlc], .int .i64 i] w (DL (lkE h i) (lkN h i) w) := by
  obtain ⟨z, hz⟩ : ∃ z, w.heap.size = z := ⟨_, rfl⟩
  obtain ⟨W0, hW0⟩ : ∃ W0, (w.alloc (.cells #[.slice no h.node.length nc, .slice uo h.upF.length uc, .slice ul h.up.length ulc, .slice wo h.dnF.length wc, .slice dl h.dn.length dlc] 25)).alloc (.cells #[.int .i64 0, .slice none 0 0] 36) = W0 := ⟨_, rfl⟩
  have hB0 : Below w.heap.size w W0 := by rw [← hW0]; exact ((Below.refl _ w).alloc (Nat.le_refl _) _).alloc (by simp) _
  have h0 : W0.heap[z]? = some (.cells #[.slice no h.node.length nc, .slice uo h.upF.length uc, .slice ul h.up.length ulc, .slice wo h.dnF.length wc, .slice dl h.dn.length dlc] 25) := by
    rw [← hW0, ← hz]; exact (Below.heap_alloc _ _ _ (by simp)).trans (heap_newW _ _)
  have h1 : W0.heap[z + 1]? = some (.cells #[.int .i64 0, .slice none 0 0] 36) := by
    have g := heap_newW (w.alloc (.cells #[.slice no h.node.length nc, .slice uo h.upF.length uc, .slice ul h.up.length ulc, .slice wo h.dnF.length wc, .slice dl h.dn.length dlc] 25)) (.cells #[.int .i64 0, .slice none 0 0] 36)
    rw [World.size_alloc, hW0, hz] at g
    exact g
  have HS0 : Hid (z + 1 < W0.heap.size) := some_lt h1
  have HQ : Hid (∀ wx, Below W0.heap.size W0 wx → wx.heap[z]? = some (.cells #[.slice no h.node.length nc, .slice uo h.upF.length uc, .slice ul h.up.length ulc, .slice wo h.dnF.length wc, .slice dl h.dn.length dlc] 25) ∧ wx.heap[z + 1]? = some (.cells #[.int .i64 0, .slice none 0 0] 36) ∧ HasH wx ⟨no, uo, ul, wo, dl, nc, uc, ulc, wc, dlc⟩ h ∧ Below w.heap.size w wx) := fun wx hx => by
    have g := hB0.trans (hx.mono hB0.size)
    exact ⟨(hx.block _ (some_lt h0)).trans h0, (hx.block _ (some_lt h1)).trans h1, hH.keep g, g⟩
  have HSZ : Hid (∀ (wx : World) (x y : Value), Below w.heap.size w wx → Below w.heap.size w ((wx.setCell ⟨z + 1, 0, none⟩ x).setCell ⟨z + 1, 1, none⟩ y)) := fun wx x y hx => (hx.setCell (p := ⟨z + 1, 0, none⟩) (by show w.heap.size ≤ z + 1; omega) _).setCell (p := ⟨z + 1, 1, none⟩) (by show w.heap.size ≤ z + 1; omega) _
  have HW0 : Hid ((w.alloc (.cells #[.slice no h.node.length nc, .slice uo h.upF.length uc, .slice ul h.up.length ulc, .slice wo h.dnF.length wc, .slice dl h.dn.length dlc] 25)).alloc (.cells #[.int .i64 0, .slice none 0 0] 36) = W0) := hW0
  have HZZ : Hid (w.heap.size = z) := hz
  obtain ⟨E, hE⟩ : ∃ E, lkE h i = E := ⟨_, rfl⟩
  obtain ⟨F, hF⟩ : ∃ F, lkL h i = F := ⟨_, rfl⟩
  have HDL : Hid (Calls Tryz.prog 11 #[.agg #[.slice no h.node.length nc, .slice uo h.upF.length uc, .slice ul h.up.length ulc, .slice wo h.dnF.length wc, .slice dl h.dn.length dlc], .int .i64 i] W0 (DL E F W0)) := by
    have g := docLinks_calls ⟨no, uo, ul, wo, dl, nc, uc, ulc, wc, dlc⟩ h i W0 (hH.keep hB0) hb1 hb2 hb3
    rw [hE, hF] at g
    exact g
  have HE : Hid (lkE h i = E ∧ lkL h i = F) := ⟨hE, hF⟩
  rw [hE]
  obtain ⟨c0, c1, c2, c3, c4⟩ := five_cells h0
  clear hW0 h0 h1 hB0 hH hb1 hb2 hb3 hE hF
  go_enter Tryz.func16, Tryz.ntmps16
  go_upto_region 1 with fail
  rw [HW0.out]
  clear HW0 hz
  go_wp2_with fail
  refine HDL.out.mono ?_
  rintro e w1 ⟨ao, ac, lo, lc, rfl, hgr, hp⟩
  obtain ⟨q, hq⟩ : ∃ q, w1.heap.size = q := ⟨_, rfl⟩
  obtain ⟨W2, hW2⟩ : ∃ W2, w1.alloc (.cells #[.int .i64 E.1, .slice lo E.2.length lc] 36) = W2 := ⟨_, rfl⟩
  have HW2 : Hid (w1.alloc (.cells #[.int .i64 E.1, .slice lo E.2.length lc] 36) = W2) := hW2
  have H2 : Hid (∀ wx, Below W2.heap.size W2 wx → wx.heap[q]? = some (.cells #[.int .i64 E.1, .slice lo E.2.length lc] 36) ∧ HasPlaces wx (.slice lo E.2.length lc) E.2 ∧ wx.heap[z]? = some (.cells #[.slice no h.node.length nc, .slice uo h.upF.length uc, .slice ul h.up.length ulc, .slice wo h.dnF.length wc, .slice dl h.dn.length dlc] 25) ∧ wx.heap[z + 1]? = some (.cells #[.int .i64 0, .slice none 0 0] 36) ∧ HasH wx ⟨no, uo, ul, wo, dl, nc, uc, ulc, wc, dlc⟩ h ∧ Below w.heap.size w wx ∧ wx.ownsRow W0.heap.size 3 1 (.slice ao F.length ac) F.length (iv (zs F))) := fun wx hx => by
    have g1 : W2.heap[q]? = some (.cells #[.int .i64 E.1, .slice lo E.2.length lc] 36) := by rw [← hW2, ← hq]; exact heap_newW _ _
    have g2 : Below w1.heap.size w1 W2 := by rw [← hW2]; exact (Below.refl _ _).alloc (Nat.le_refl _) _
    have g3 := btrH' g2 hx
    obtain ⟨a1, a2, a3, a4⟩ := HQ.out wx (btrH' hgr.bel g3)
    exact ⟨(hx.block _ (some_lt g1)).trans g1, hp.keep g3, a1, a2, a3, a4, (hgr.up g3).own⟩
  have HQ0 : Hid (W0.heap.size ≤ q) := by rw [← hq]; exact hgr.bel.size
  have HNE : Hid (q ≠ z + 1) := by have := HS0.out; have := HQ0.out; show q ≠ z + 1; omega
  clear hp hgr hW2 c0 c1 c2 c3 c4
  go_upto_region 2 with fail
  rw [HW2.out]
  clear HW2 hq
  obtain ⟨q0, q1, _, _⟩ := cell_two (H2.out W2 (Below.refl _ _)).1
  go_wp2_with fail
  refine (Hi.bad_calls E.1 lo E.2.length lc W2).mono ?_
  rintro e w3 ⟨rfl, hb⟩
  rw [bad_iff]
  have HB3 : Hid (Below W2.heap.size W2 w3) := hb
  clear hb q0 q1
  by_cases hc : E = (0, [])
  · subst hc
    obtain ⟨hc, k, hk0, hk, hle⟩ := lkE_inv HE.out.1
    subst hk0
    have hks : k < (stds h).length := by rw [stds_len (chk_ok hc).2.2.2.2.1 (chk_ok hc).2.2.2.2.2.1]; exact hk
    obtain ⟨f0, hf0, htl0⟩ := flat_first hc hks
    have eF : flatI h k = F := by rw [← lkL_ok HE.out.1]; exact HE.out.2
    rw [eF] at hf0
    have HN0 : Hid (lkN h (k : Int) = ndR h (alR h (lkO h k).tail F)) := by show _ = _; rw [lkN_ok HE.out.1, eF]
    have HFA : Hid (∀ j ∈ F, j < (stds h).length) := by rw [← eF]; exact flatI_all hc hks
    have HFL : Hid (F.length ≤ 131072) := by rw [← eF]; exact hle
    have HC : Hid (chk h = (0, [])) := hc
    have HK : Hid (k < (stds h).length ∧ F[0]? = some f0 ∧ (lkO h f0).tail = (lkO h k).tail) := ⟨hks, hf0, htl0⟩
    obtain ⟨k1, k2, k3, k4, k5, k6, _, _⟩ := chk_ok hc
    have HAR : Hid (∀ wx, HasH wx ⟨no, uo, ul, wo, dl, nc, uc, ulc, wc, dlc⟩ h → Calls Tryz.prog 24 #[.agg #[.slice no h.node.length nc, .slice uo h.upF.length uc, .slice ul h.up.length ulc, .slice wo h.dnF.length wc, .slice dl h.dn.length dlc]] wx fun e w' => ∃ mo mc, e = .returned (.slice mo (stds h).length mc) ∧ HasEs w' (.slice mo (stds h).length mc) h ∧ Below wx.heap.size wx w') := fun wx hH => arcsR_calls ⟨no, uo, ul, wo, dl, nc, uc, ulc, wc, dlc⟩ h wx hH k5 k6 (by omega) (by omega) k2
    have hnl : h.node.length ≤ 65536 := k1
    clear k1 k2 k3 k4 k5 k6 hc hk hle hks hf0 htl0 eF
    rename_i kz1 kz2
    clear kz1 kz2
    obtain ⟨c0, c1, c2, c3, c4⟩ := five_cells (H2.out w3 HB3.out).2.2.1
    go_wp2_with fail
    refine (HAR.out w3 (H2.out w3 HB3.out).2.2.2.2.1).mono ?_
    rintro e X0 ⟨eo, ec, rfl, hes, hb⟩
    have HX : Hid (∀ wx, Below X0.heap.size X0 wx → (wx.heap[q]? = some (.cells #[.int .i64 0, .slice lo 0 lc] 36) ∧ wx.heap[z]? = some (.cells #[.slice no h.node.length nc, .slice uo h.upF.length uc, .slice ul h.up.length ulc, .slice wo h.dnF.length wc, .slice dl h.dn.length dlc] 25) ∧ wx.heap[z + 1]? = some (.cells #[.int .i64 0, .slice none 0 0] 36) ∧ HasH wx ⟨no, uo, ul, wo, dl, nc, uc, ulc, wc, dlc⟩ h ∧ Below w.heap.size w wx ∧ wx.ownsRow W0.heap.size 3 1 (.slice ao F.length ac) F.length (iv (zs F))) ∧ HasEs wx (.slice eo (stds h).length ec) h) := fun wx hx => by
      obtain ⟨g1, _, g3, g4, g5, g6, g7⟩ := H2.out wx (btrH' HB3.out (btrH' hb hx))
      exact ⟨⟨g1, g3, g4, g5, g6, g7⟩, hes.keep hx⟩
    clear hes hb c0 c1 c2 c3 c4
    have HZX : Hid (z + 1 < X0.heap.size ∧ w.heap.size ≤ X0.heap.size ∧ q < X0.heap.size) := ⟨some_lt (HX.out X0 (Below.refl _ _)).1.2.2.1, (HX.out X0 (Below.refl _ _)).1.2.2.2.2.1.size, some_lt (HX.out X0 (Below.refl _ _)).1.1⟩
    obtain ⟨tl, htl⟩ : ∃ tl, (lkO h k).tail = tl := ⟨_, rfl⟩
    have HTL : Hid ((lkO h k).tail = tl) := htl
    have hfs : f0 < (stds h).length := HFA.out f0 (List.mem_of_getElem? HK.out.2.1)
    have htn : tl < h.node.length := by rw [← htl]; exact (head_lt HC.out HK.out.1).2
    obtain ⟨gf, fcap, hga, _, hgl, _, _⟩ := iown_at (HX.out X0 (Below.refl _ _)).1.2.2.2.2.2 (by have := (List.getElem?_eq_some_iff.1 HK.out.2.1).1; omega)
    injection hga with hga1 hga2 hga3
    subst hga1 hga3
    clear hga2
    have HGC : Hid (∀ wx, Below X0.heap.size X0 wx → ∀ j a : Nat, F[j]? = some a → wx.cell? ⟨gf, j, none⟩ = some (.int .i64 (a : Int))) := fun wx hx j a hj => by
      obtain ⟨g2, cap2, e2, _, _, _, hc2⟩ := iown_at (HX.out wx hx).1.2.2.2.2.2 (by have := (List.getElem?_eq_some_iff.1 hj).1; omega)
      injection e2 with e3 _ _
      injection e3 with e3
      injection e3 with e3 _ _
      rw [e3]
      exact hc2 j a hj
    have HGL : Hid (∀ wx, Below X0.heap.size X0 wx → gf < wx.heap.size) := fun wx hx => Nat.lt_of_lt_of_le hgl hx.size
    obtain ⟨eb, heo, _, _⟩ := (HX.out X0 (Below.refl _ _)).2.at hfs
    subst heo
    have HEC : Hid (∀ wx, Below X0.heap.size X0 wx → ∀ j, j < (stds h).length → wx.cell? ⟨eb, j * 3, none⟩ = some (.int .i64 ((lkO h j).tail : Int)) ∧ wx.cell? ⟨eb, j * 3 + 1, none⟩ = some (.int .i64 ((lkO h j).head : Int)) ∧ eb < wx.heap.size) := fun wx hx j hj => by
      obtain ⟨b2, e2, ⟨g0, g1, _⟩, hl⟩ := (HX.out wx hx).2.at hj
      injection e2 with e2
      injection e2 with e2 _ _
      rw [e2]
      exact ⟨g0, g1, hl⟩
    obtain ⟨_, nb, noff, hno, _, _⟩ := ws_get (HX.out X0 (Below.refl _ _)).1.2.2.2.1.node (nth_get htn)
    dsimp only at hno
    subst hno
    have HNC : Hid (∀ wx, Below X0.heap.size X0 wx → ∀ r, r < h.node.length → nth h.node r < 4294967296 ∧ wx.cell? ⟨nb, noff + r, none⟩ = some (.int .u32 (nth h.node r : Int)) ∧ nb < wx.heap.size) := fun wx hx r hr => by
      obtain ⟨g0, b2, o2, e2, hl, g1⟩ := ws_get (HX.out wx hx).1.2.2.2.1.node (nth_get hr)
      injection e2 with e2
      injection e2 with e2 e3 _
      rw [e2, e3]
      exact ⟨g0, g1, hl⟩
    obtain ⟨tn, htn0⟩ : ∃ tn, nth h.node tl = tn := ⟨_, rfl⟩
    have HTN : Hid (nth h.node tl = tn) := htn0
    have tn1 : tn < 4294967296 := by rw [← htn0]; exact (HNC.out X0 (Below.refl _ _) tl htn).1
    have HSS : Hid (∀ wx, Below X0.heap.size X0 wx → (fun w' : World => w'.cell? ⟨z, 0, none⟩ = some (.slice (some ⟨nb, noff, none⟩) h.node.length nc) ∧ w'.cell? ⟨gf, 0, none⟩ = some (.int .i64 (f0 : Int)) ∧ w'.cell? ⟨eb, f0 * 3, none⟩ = some (.int .i64 (tl : Int)) ∧ w'.cell? ⟨nb, noff + tl, none⟩ = some (.int .u32 (tn : Int)) ∧ Hid (Below X0.heap.size X0 w')) wx) := fun wx hx => by
      obtain ⟨a0, _, _, _, _⟩ := five_cells (HX.out wx hx).1.2.1
      have a1 := HGC.out wx hx 0 f0 HK.out.2.1
      have a2 := (HEC.out wx hx f0 hfs).1
      have a3 := (HNC.out wx hx tl htn).2.1
      rw [HK.out.2.2, htl] at a2
      rw [htn0] at a3
      exact ⟨a0, a1, a2, a3, hx⟩
    have i3 : (0 : Int) ≤ (f0 : Int) := by omega
    have i4 : (f0 : Int) < ((stds h).length : Int) := by omega
    have i5 : (0 : Int) ≤ (tl : Int) := by omega
    have i6 : (tl : Int) < (h.node.length : Int) := by omega
    have i7 : IntKind.i64.wrap (tn : Int) = (tn : Int) := by rw [IntKind.wrap_i64] <;> omega
    have hFp : 0 < F.length := by have := (List.getElem?_eq_some_iff.1 HK.out.2.1).1; omega
    have i8 : (0 : Int) < (F.length : Int) := by omega
    have hFL := HFL.out
    clear htl htn0 hgl
    go_upto_region 5 with fail
    refine wp_region_M (S := (fun w' : World => w'.cell? ⟨z, 0, none⟩ = some (.slice (some ⟨nb, noff, none⟩) h.node.length nc) ∧ w'.cell? ⟨gf, 0, none⟩ = some (.int .i64 (f0 : Int)) ∧ w'.cell? ⟨eb, f0 * 3, none⟩ = some (.int .i64 (tl : Int)) ∧ w'.cell? ⟨nb, noff + tl, none⟩ = some (.int .u32 (tn : Int)) ∧ Hid (Below X0.heap.size X0 w'))) (by kernel_rfl) (HSS.out _ (Below.refl _ _).drew) ?_
    refine wpAnyM_take (i := 0) (oi := { dst := Option.some 23, op := Op.fieldAddr 25 (Operand.tmp 2) 0, type := 0, pos := "ref.go:49", after := #[], guard := Option.none }) (v := ?vf3z0) rfl (by kernel_rfl) (by kernel_rfl) (by kernel_rfl) (fun _ _ _ h => h) (YieldsM.of_if (Or.inl ⟨by rfl, ?hf3z0⟩)) ?rf3z0
    case hf3z0 => ((intro wz hSw; (try dsimp only at hSw); go_simp); try (with_reducible rfl))
    try simp only [Act.put, List.setIfInBounds_toArray, List.set_cons_zero, List.set_cons_succ]
    refine wpAnyM_take (i := 1) (oi := { dst := Option.some 24, op := Op.load 22 (Operand.tmp 23), type := 22, pos := "ref.go:49", after := #[{ on := 0, ground := Ground.data }], guard := Option.none }) (v := ?vf4z1) rfl (by kernel_rfl) (by kernel_rfl) (by kernel_rfl) (fun _ _ _ h => h) (YieldsM.of_if (Or.inl ⟨by rfl, ?hf4z1⟩)) ?rf4z1
    case hf4z1 => ((intro wz hSw; (try dsimp only at hSw); go_simp); try (with_reducible rfl))
    try simp only [Act.put, List.setIfInBounds_toArray, List.set_cons_zero, List.set_cons_succ]
    refine wpAnyM_take (i := 2) (oi := { dst := Option.some 25, op := Op.move (Operand.tmp 8), type := 56, pos := "ref.go:49", after := #[], guard := Option.none }) (v := ?vf5z2) rfl (by kernel_rfl) (by kernel_rfl) (by kernel_rfl) (fun _ _ _ h => h) (YieldsM.of_if (Or.inl ⟨by rfl, ?hf5z2⟩)) ?rf5z2
    case hf5z2 => ((intro wz hSw; (try dsimp only at hSw); go_simp); try (with_reducible rfl))
    try simp only [Act.put, List.setIfInBounds_toArray, List.set_cons_zero, List.set_cons_succ]
    refine wpAnyM_take (i := 3) (oi := { dst := Option.some 26, op := Op.move (Operand.tmp 6), type := 28, pos := "ref.go:49", after := #[], guard := Option.none }) (v := ?vf6z3) rfl (by kernel_rfl) (by kernel_rfl) (by kernel_rfl) (fun _ _ _ h => h) (YieldsM.of_if (Or.inl ⟨by rfl, ?hf6z3⟩)) ?rf6z3
    case hf6z3 => ((intro wz hSw; (try dsimp only at hSw); go_simp); try (with_reducible rfl))
    try simp only [Act.put, List.setIfInBounds_toArray, List.set_cons_zero, List.set_cons_succ]
    refine wpAnyM_take (i := 4) (oi := { dst := Option.some 27, op := Op.indexAddr 28 (Operand.tmp 26) (Operand.const (Value.int IntKind.i64 0)), type := 0, pos := "ref.go:49", after := #[{ on := 3, ground := Ground.data }], guard := Option.none }) (v := ?vf7z4) rfl (by kernel_rfl) (by kernel_rfl) (by kernel_rfl) (fun _ _ _ h => h) (YieldsM.of_if (Or.inl ⟨by rfl, ?hf7z4⟩)) ?rf7z4
    case hf7z4 => ((intro wz hSw; (try dsimp only at hSw); go_simp); try (with_reducible rfl))
    try simp only [Act.put, List.setIfInBounds_toArray, List.set_cons_zero, List.set_cons_succ]
    refine wpAnyM_take (i := 5) (oi := { dst := Option.some 28, op := Op.load 3 (Operand.tmp 27), type := 3, pos := "ref.go:49", after := #[{ on := 4, ground := Ground.data }], guard := Option.none }) (v := ?vf8z5) rfl (by kernel_rfl) (by kernel_rfl) (by kernel_rfl) (fun _ _ _ h => h) (YieldsM.of_if (Or.inl ⟨by rfl, ?hf8z5⟩)) ?rf8z5
    case hf8z5 => ((intro wz hSw; (try dsimp only at hSw); go_simp); try (with_reducible rfl))
    try simp only [Act.put, List.setIfInBounds_toArray, List.set_cons_zero, List.set_cons_succ]
    refine wpAnyM_take (i := 6) (oi := { dst := Option.some 29, op := Op.indexAddr 56 (Operand.tmp 25) (Operand.tmp 28), type := 0, pos := "ref.go:49", after := #[{ on := 2, ground := Ground.data }, { on := 5, ground := Ground.data }], guard := Option.none }) (v := ?vf9z6) rfl (by kernel_rfl) (by kernel_rfl) (by kernel_rfl) (fun _ _ _ h => h) (YieldsM.of_if (Or.inl ⟨by rfl, ?hf9z6⟩)) ?rf9z6
    case hf9z6 => ((intro wz hSw; (try dsimp only at hSw); go_simp); try (with_reducible rfl))
    try simp only [Act.put, List.setIfInBounds_toArray, List.set_cons_zero, List.set_cons_succ]
    refine wpAnyM_take (i := 7) (oi := { dst := Option.some 30, op := Op.fieldAddr 59 (Operand.tmp 29) 0, type := 0, pos := "ref.go:49", after := #[{ on := 6, ground := Ground.data }], guard := Option.none }) (v := ?vf10z7) rfl (by kernel_rfl) (by kernel_rfl) (by kernel_rfl) (fun _ _ _ h => h) (YieldsM.of_if (Or.inl ⟨by rfl, ?hf10z7⟩)) ?rf10z7
    case hf10z7 => ((intro wz hSw; (try dsimp only at hSw); go_simp); try (with_reducible rfl))
    try simp only [Act.put, List.setIfInBounds_toArray, List.set_cons_zero, List.set_cons_succ]
    refine wpAnyM_take (i := 8) (oi := { dst := Option.some 31, op := Op.load 3 (Operand.tmp 30), type := 3, pos := "ref.go:49", after := #[{ on := 7, ground := Ground.data }], guard := Option.none }) (v := ?vf11z8) rfl (by kernel_rfl) (by kernel_rfl) (by kernel_rfl) (fun _ _ _ h => h) (YieldsM.of_if (Or.inl ⟨by rfl, ?hf11z8⟩)) ?rf11z8
    case hf11z8 => ((intro wz hSw; (try dsimp only at hSw); go_simp); try (with_reducible rfl))
    try simp only [Act.put, List.setIfInBounds_toArray, List.set_cons_zero, List.set_cons_succ]
    refine wpAnyM_take (i := 9) (oi := { dst := Option.some 32, op := Op.indexAddr 22 (Operand.tmp 24) (Operand.tmp 31), type := 0, pos := "ref.go:49", after := #[{ on := 1, ground := Ground.data }, { on := 8, ground := Ground.data }], guard := Option.none }) (v := ?vf12z9) rfl (by kernel_rfl) (by kernel_rfl) (by kernel_rfl) (fun _ _ _ h => h) (YieldsM.of_if (Or.inl ⟨by rfl, ?hf12z9⟩)) ?rf12z9
    case hf12z9 => ((intro wz hSw; (try dsimp only at hSw); go_simp); try (with_reducible rfl))
    try simp only [Act.put, List.setIfInBounds_toArray, List.set_cons_zero, List.set_cons_succ]
    refine wpAnyM_take (i := 10) (oi := { dst := Option.some 33, op := Op.load 62 (Operand.tmp 32), type := 62, pos := "ref.go:49", after := #[{ on := 9, ground := Ground.data }], guard := Option.none }) (v := ?vf13z10) rfl (by kernel_rfl) (by kernel_rfl) (by kernel_rfl) (fun _ _ _ h => h) (YieldsM.of_if (Or.inl ⟨by rfl, ?hf13z10⟩)) ?rf13z10
    case hf13z10 => ((intro wz hSw; (try dsimp only at hSw); go_simp); try (with_reducible rfl))
    try simp only [Act.put, List.setIfInBounds_toArray, List.set_cons_zero, List.set_cons_succ]
    refine wpAnyM_take (i := 11) (oi := { dst := Option.some 34, op := Op.convert 62 3 (Operand.tmp 33), type := 3, pos := "ref.go:49", after := #[{ on := 10, ground := Ground.data }], guard := Option.none }) (v := ?vf14z11) rfl (by kernel_rfl) (by kernel_rfl) (by kernel_rfl) (fun _ _ _ h => h) (YieldsM.of_if (Or.inl ⟨by rfl, ?hf14z11⟩)) ?rf14z11
    case hf14z11 => ((intro wz hSw; (try dsimp only at hSw); go_simp); try (with_reducible rfl))
    try simp only [Act.put, List.setIfInBounds_toArray, List.set_cons_zero, List.set_cons_succ]
    refine readyM (i := 12) (o := { dst := Option.some 35, op := Op.buildSlice 28 1 #[(0, Operand.tmp 34)], type := 28, pos := "ref.go:49", after := #[{ on := 11, ground := Ground.data }], guard := Option.none }) rfl (by kernel_rfl) ?_
    intro u1 hg1 hS1 K hK
    have hbs := build_i1 (tn : Int)
    have b1 : Below X0.heap.size X0 u1 := hS1.2.2.2.2.out
    have Y0 : Hid (GrI X0 (u1.alloc (.cells #[.int .i64 (tn : Int)] 3)) (.slice (some ⟨u1.heap.size, 0, none⟩) (ndR h (alR h tl (F.take 0))).length 1) (ndR h (alR h tl (F.take 0)))) := by
      have e : ndR h (alR h tl (F.take 0)) = [tn] := by rw [← HTN.out]; rfl
      show GrI _ _ _ _
      rw [e]
      exact ⟨⟨rfl, Or.inr ⟨u1.heap.size, 1, _, rfl, b1.size, heap_newW _ _, Nat.le_refl _, by unfold maxLen; decide, rfl, rfl⟩⟩, b1.alloc b1.size _⟩
    clear hS1 hg1 b1
    go_simp
    refine hK.out _ _ (HSS.out _ Y0.out.bel) ?_
    clear hK K hbs
    obtain ⟨g, hgg⟩ : ∃ g, u1.heap.size = g := ⟨_, rfl⟩
    rw [hgg] at Y0 ⊢
    generalize u1.alloc (.cells #[.int .i64 (tn : Int)] 3) = U2 at Y0 ⊢
    clear hgg
    try simp only [Act.put, List.setIfInBounds_toArray, List.set_cons_zero, List.set_cons_succ]
    refine wpAnyM_take (i := 13) (oi := { dst := Option.some 9, op := Op.assign (Operand.tmp 35), type := 28, pos := "ref.go:49", after := #[{ on := 12, ground := Ground.data }, { on := 0, ground := Ground.phase }, { on := 1, ground := Ground.phase }, { on := 2, ground := Ground.phase }, { on := 3, ground := Ground.phase }, { on := 4, ground := Ground.phase }, { on := 5, ground := Ground.phase }, { on := 6, ground := Ground.phase }, { on := 7, ground := Ground.phase }, { on := 8, ground := Ground.phase }, { on := 9, ground := Ground.phase }, { on := 10, ground := Ground.phase }, { on := 11, ground := Ground.phase }, { on := 12, ground := Ground.phase }], guard := Option.none }) (v := ?vf15z13) rfl (by kernel_rfl) (by kernel_rfl) (by kernel_rfl) (fun _ _ _ h => h) (YieldsM.of_if (Or.inl ⟨by rfl, ?hf15z13⟩)) ?rf15z13
    case hf15z13 => ((intro wz hSw; (try dsimp only at hSw); go_simp); try (with_reducible rfl))
    try simp only [Act.put, List.setIfInBounds_toArray, List.set_cons_zero, List.set_cons_succ]
    refine wpAnyM_done (by kernel_rfl) ?_ _
    intro u2 hg2 hS2
    have Y1 : Hid (GrI X0 u2 (.slice (some ⟨g, 0, none⟩) (ndR h (alR h tl (F.take 0))).length 1) (ndR h (alR h tl (F.take 0)))) := Y0.out.up hg2
    clear hS2 hg2 Y0
    clear i3 i4 i5 i6 i7
    obtain ⟨i0, hi0⟩ := infoI
    have HI0 : Hid (Tryz.prog.info? 3 = some i0 ∧ i0.zero = some (.int .i64 0) ∧ i0.size = 1 ∧ i0.bytes = 8) := hi0
    clear hi0
    go_wp2_with fail
    go_loopw [9, 38] (fun pv jv wr => ∃ (j : Nat) (po : Option Addr) (pc : Nat), j ≤ F.length ∧ jv = .int .i64 (j : Int) ∧ pv = .slice po (j + 1) pc ∧ Hid (GrI X0 wr (.slice po (ndR h (alR h tl (F.take j))).length pc) (ndR h (alR h tl (F.take j))))) (fun _ jv _ => F.length - (intOf jv).toNat)
    case atStart => exact ⟨0, some ⟨g, 0, none⟩, 1, Nat.zero_le _, rfl, rfl, Y1.out⟩
    case round =>
      obtain ⟨j, po, pc, hj, rfl, rfl, HG⟩ := hrel
      have HLN : Hid ((ndR h (alR h tl (F.take j))).length = j + 1) := by show _ = _; rw [ndR_len, alR_len, List.length_take]; omega
      by_cases hlt : j < F.length
      · have d1 : decide ((j : Int) < (F.length : Int)) = true := by simp; omega
        obtain ⟨x, hx⟩ : ∃ x, F[j]? = some x := ⟨F[j], List.getElem?_eq_getElem hlt⟩
        have hxs := HFA.out x (List.mem_of_getElem? hx)
        have q0 := HGC.out wr HG.out.bel j x hx
        have hgl := HGL.out wr HG.out.bel
        obtain ⟨hd, hhd⟩ : ∃ hd, (lkO h x).head = hd := ⟨_, rfl⟩
        have hhn : hd < h.node.length := by rw [← hhd]; exact (head_lt HC.out hxs).1
        obtain ⟨hn, hhn0⟩ : ∃ hn, nth h.node hd = hn := ⟨_, rfl⟩
        have hn1 : hn < 4294967296 := by rw [← hhn0]; exact (HNC.out X0 (Below.refl _ _) hd hhn).1
        have HXX : Hid (F[j]? = some x ∧ nth h.node (lkO h x).head = hn) := ⟨hx, by rw [hhd]; exact hhn0⟩
        have HS9 : Hid (∀ wx, Below X0.heap.size X0 wx → (fun w' : World => w'.cell? ⟨z, 0, none⟩ = some (.slice (some ⟨nb, noff, none⟩) h.node.length nc) ∧ w'.cell? ⟨eb, x * 3 + 1, none⟩ = some (.int .i64 (hd : Int)) ∧ w'.cell? ⟨nb, noff + hd, none⟩ = some (.int .u32 (hn : Int)) ∧ Hid (w'.cell? ⟨z, 0, none⟩ = some (.slice (some ⟨nb, noff, none⟩) h.node.length nc) ∧ w'.cell? ⟨eb, x * 3 + 1, none⟩ = some (.int .i64 (hd : Int)) ∧ w'.cell? ⟨nb, noff + hd, none⟩ = some (.int .u32 (hn : Int)))) wx) := fun wx hx => by
          obtain ⟨a0, _, _, _, _⟩ := five_cells (HX.out wx hx).1.2.1
          have a2 := (HEC.out wx hx x hxs).2.1
          have a3 := (HNC.out wx hx hd hhn).2.1
          rw [hhd] at a2
          rw [hhn0] at a3
          exact ⟨a0, a2, a3, a0, a2, a3⟩
        have i1 : (0 : Int) ≤ (j : Int) := by omega
        have i2 : (j : Int) < (F.length : Int) := by omega
        have i3 : (0 : Int) ≤ (x : Int) := by omega
        have i4 : (x : Int) < ((stds h).length : Int) := by omega
        have i5 : (0 : Int) ≤ (hd : Int) := by omega
        have i6 : (hd : Int) < (h.node.length : Int) := by omega
        have i7 : IntKind.i64.wrap (hn : Int) = (hn : Int) := by rw [IntKind.wrap_i64] <;> omega
        have i9 : IntKind.i64.wrap ((j : Int) + 1) = (j : Int) + 1 := by rw [IntKind.wrap_i64] <;> omega
        clear hx hhd hhn0
        go_upto_region 9 with fail
        refine wp_region_M (S := (fun w' : World => w'.cell? ⟨z, 0, none⟩ = some (.slice (some ⟨nb, noff, none⟩) h.node.length nc) ∧ w'.cell? ⟨eb, x * 3 + 1, none⟩ = some (.int .i64 (hd : Int)) ∧ w'.cell? ⟨nb, noff + hd, none⟩ = some (.int .u32 (hn : Int)) ∧ Hid (w'.cell? ⟨z, 0, none⟩ = some (.slice (some ⟨nb, noff, none⟩) h.node.length nc) ∧ w'.cell? ⟨eb, x * 3 + 1, none⟩ = some (.int .i64 (hd : Int)) ∧ w'.cell? ⟨nb, noff + hd, none⟩ = some (.int .u32 (hn : Int))))) (by kernel_rfl) (HS9.out _ (HG.out.bel.trans ((Below.refl _ _).drew.mono HG.out.bel.size))) ?_
        refine wpAnyM_take (i := 0) (oi := { dst := Option.some 42, op := Op.move (Operand.tmp 9), type := 28, pos := "ref.go:51", after := #[], guard := Option.none }) (v := ?vm17z0) rfl (by kernel_rfl) (by kernel_rfl) (by kernel_rfl) (fun _ _ _ h => h) (YieldsM.of_if (Or.inl ⟨by rfl, ?hm17z0⟩)) ?rm17z0
        case hm17z0 => ((intro wz hSw; (try dsimp only at hSw); go_simp); try (with_reducible rfl))
        try simp only [Act.put, List.setIfInBounds_toArray, List.set_cons_zero, List.set_cons_succ]
        refine wpAnyM_take (i := 1) (oi := { dst := Option.some 43, op := Op.fieldAddr 25 (Operand.tmp 2) 0, type := 0, pos := "ref.go:51", after := #[], guard := Option.none }) (v := ?vm18z1) rfl (by kernel_rfl) (by kernel_rfl) (by kernel_rfl) (fun _ _ _ h => h) (YieldsM.of_if (Or.inl ⟨by rfl, ?hm18z1⟩)) ?rm18z1
        case hm18z1 => ((intro wz hSw; (try dsimp only at hSw); go_simp); try (with_reducible rfl))
        try simp only [Act.put, List.setIfInBounds_toArray, List.set_cons_zero, List.set_cons_succ]
        refine wpAnyM_take (i := 2) (oi := { dst := Option.some 44, op := Op.load 22 (Operand.tmp 43), type := 22, pos := "ref.go:51", after := #[{ on := 1, ground := Ground.data }], guard := Option.none }) (v := ?vm19z2) rfl (by kernel_rfl) (by kernel_rfl) (by kernel_rfl) (fun _ _ _ h => h) (YieldsM.of_if (Or.inl ⟨by rfl, ?hm19z2⟩)) ?rm19z2
        case hm19z2 => ((intro wz hSw; (try dsimp only at hSw); go_simp); try (with_reducible rfl))
        try simp only [Act.put, List.setIfInBounds_toArray, List.set_cons_zero, List.set_cons_succ]
        refine wpAnyM_take (i := 3) (oi := { dst := Option.some 45, op := Op.move (Operand.tmp 8), type := 56, pos := "ref.go:51", after := #[], guard := Option.none }) (v := ?vm20z3) rfl (by kernel_rfl) (by kernel_rfl) (by kernel_rfl) (fun _ _ _ h => h) (YieldsM.of_if (Or.inl ⟨by rfl, ?hm20z3⟩)) ?rm20z3
        case hm20z3 => ((intro wz hSw; (try dsimp only at hSw); go_simp); try (with_reducible rfl))
        try simp only [Act.put, List.setIfInBounds_toArray, List.set_cons_zero, List.set_cons_succ]
        refine wpAnyM_take (i := 4) (oi := { dst := Option.some 46, op := Op.move (Operand.tmp 11), type := 3, pos := "ref.go:51", after := #[], guard := Option.none }) (v := ?vm21z4) rfl (by kernel_rfl) (by kernel_rfl) (by kernel_rfl) (fun _ _ _ h => h) (YieldsM.of_if (Or.inl ⟨by rfl, ?hm21z4⟩)) ?rm21z4
        case hm21z4 => ((intro wz hSw; (try dsimp only at hSw); go_simp); try (with_reducible rfl))
        try simp only [Act.put, List.setIfInBounds_toArray, List.set_cons_zero, List.set_cons_succ]
        refine wpAnyM_take (i := 5) (oi := { dst := Option.some 47, op := Op.indexAddr 56 (Operand.tmp 45) (Operand.tmp 46), type := 0, pos := "ref.go:51", after := #[{ on := 3, ground := Ground.data }, { on := 4, ground := Ground.data }], guard := Option.none }) (v := ?vm22z5) rfl (by kernel_rfl) (by kernel_rfl) (by kernel_rfl) (fun _ _ _ h => h) (YieldsM.of_if (Or.inl ⟨by rfl, ?hm22z5⟩)) ?rm22z5
        case hm22z5 => ((intro wz hSw; (try dsimp only at hSw); go_simp); try (with_reducible rfl))
        try simp only [Act.put, List.setIfInBounds_toArray, List.set_cons_zero, List.set_cons_succ]
        refine wpAnyM_take (i := 6) (oi := { dst := Option.some 48, op := Op.fieldAddr 59 (Operand.tmp 47) 1, type := 0, pos := "ref.go:51", after := #[{ on := 5, ground := Ground.data }], guard := Option.none }) (v := ?vm23z6) rfl (by kernel_rfl) (by kernel_rfl) (by kernel_rfl) (fun _ _ _ h => h) (YieldsM.of_if (Or.inl ⟨by rfl, ?hm23z6⟩)) ?rm23z6
        case hm23z6 => ((intro wz hSw; (try dsimp only at hSw); go_simp); try (with_reducible rfl))
        try simp only [Act.put, List.setIfInBounds_toArray, List.set_cons_zero, List.set_cons_succ]
        refine wpAnyM_take (i := 7) (oi := { dst := Option.some 49, op := Op.load 3 (Operand.tmp 48), type := 3, pos := "ref.go:51", after := #[{ on := 6, ground := Ground.data }], guard := Option.none }) (v := ?vm24z7) rfl (by kernel_rfl) (by kernel_rfl) (by kernel_rfl) (fun _ _ _ h => h) (YieldsM.of_if (Or.inl ⟨by rfl, ?hm24z7⟩)) ?rm24z7
        case hm24z7 => ((intro wz hSw; (try dsimp only at hSw); go_simp); try (with_reducible rfl))
        try simp only [Act.put, List.setIfInBounds_toArray, List.set_cons_zero, List.set_cons_succ]
        refine wpAnyM_take (i := 8) (oi := { dst := Option.some 50, op := Op.indexAddr 22 (Operand.tmp 44) (Operand.tmp 49), type := 0, pos := "ref.go:51", after := #[{ on := 2, ground := Ground.data }, { on := 7, ground := Ground.data }], guard := Option.none }) (v := ?vm25z8) rfl (by kernel_rfl) (by kernel_rfl) (by kernel_rfl) (fun _ _ _ h => h) (YieldsM.of_if (Or.inl ⟨by rfl, ?hm25z8⟩)) ?rm25z8
        case hm25z8 => ((intro wz hSw; (try dsimp only at hSw); go_simp); try (with_reducible rfl))
        try simp only [Act.put, List.setIfInBounds_toArray, List.set_cons_zero, List.set_cons_succ]
        refine wpAnyM_take (i := 9) (oi := { dst := Option.some 51, op := Op.load 62 (Operand.tmp 50), type := 62, pos := "ref.go:51", after := #[{ on := 8, ground := Ground.data }], guard := Option.none }) (v := ?vm26z9) rfl (by kernel_rfl) (by kernel_rfl) (by kernel_rfl) (fun _ _ _ h => h) (YieldsM.of_if (Or.inl ⟨by rfl, ?hm26z9⟩)) ?rm26z9
        case hm26z9 => ((intro wz hSw; (try dsimp only at hSw); go_simp); try (with_reducible rfl))
        try simp only [Act.put, List.setIfInBounds_toArray, List.set_cons_zero, List.set_cons_succ]
        refine wpAnyM_take (i := 10) (oi := { dst := Option.some 52, op := Op.convert 62 3 (Operand.tmp 51), type := 3, pos := "ref.go:51", after := #[{ on := 9, ground := Ground.data }], guard := Option.none }) (v := ?vm27z10) rfl (by kernel_rfl) (by kernel_rfl) (by kernel_rfl) (fun _ _ _ h => h) (YieldsM.of_if (Or.inl ⟨by rfl, ?hm27z10⟩)) ?rm27z10
        case hm27z10 => ((intro wz hSw; (try dsimp only at hSw); go_simp); try (with_reducible rfl))
        try simp only [Act.put, List.setIfInBounds_toArray, List.set_cons_zero, List.set_cons_succ]
        refine readyM (i := 11) (o := { dst := Option.some 53, op := Op.buildSlice 28 1 #[(0, Operand.tmp 52)], type := 28, pos := "ref.go:51", after := #[{ on := 10, ground := Ground.data }], guard := Option.none }) rfl (by kernel_rfl) ?_
        intro u1 hg1 hS1 K hK
        have hbs := build_i1 (hn : Int)
        have b1 : Below wr.heap.size wr u1 := btrH' (Below.refl _ _).drew hg1
        have G1 : Hid (GrI X0 (u1.alloc (.cells #[.int .i64 (hn : Int)] 3)) (.slice po (ndR h (alR h tl (F.take j))).length pc) (ndR h (alR h tl (F.take j))) ∧ (u1.alloc (.cells #[.int .i64 (hn : Int)] 3)).heap[u1.heap.size]? = some (.cells #[.int .i64 (hn : Int)] 3)) := ⟨HG.out.up (btrH' b1 ((Below.refl _ _).alloc (Nat.le_refl _) _)), heap_newW _ _⟩
        clear hS1 hg1 b1
        go_simp
        refine hK.out _ _ (HS9.out _ G1.out.1.bel) ?_
        clear hK K hbs
        obtain ⟨g, hgg⟩ : ∃ g, u1.heap.size = g := ⟨_, rfl⟩
        rw [hgg] at G1 ⊢
        generalize u1.alloc (.cells #[.int .i64 (hn : Int)] 3) = U2 at G1 ⊢
        clear hgg
        try simp only [Act.put, List.setIfInBounds_toArray, List.set_cons_zero, List.set_cons_succ]
        refine readyM (i := 12) (o := { dst := Option.some 54, op := Op.call { callee := Callee.builtin Builtin.append, args := #[Operand.tmp 42, Operand.tmp 53], argTypes := #[28, 28] }, type := 28, pos := "ref.go:51", after := #[{ on := 0, ground := Ground.data }, { on := 11, ground := Ground.data }], guard := Option.none }) rfl (by kernel_rfl) ?_
        intro u3 hg3 hS3 K hK
        rw [if_pos (by rfl)]
        have G3 : Hid (GrI X0 u3 (.slice po (ndR h (alR h tl (F.take j))).length pc) (ndR h (alR h tl (F.take j))) ∧ u3.heap[g]? = some (.cells #[.int .i64 (hn : Int)] 3)) := ⟨G1.out.1.up hg3, (Below.block hg3 _ (some_lt G1.out.2)).trans G1.out.2⟩
        refine wp_append_lies u3 _ _ 28 rfl X0.heap.size 3 i0 (.int .i64 0) 1 8 Tryz.underlying28 HI0.out.1 HI0.out.2.1 HI0.out.2.2.1 HI0.out.2.2.2 rfl (by decide) (.slice po (j + 1) pc) (j + 1) (iv (zs (ndR h (alR h tl (F.take j))))) rfl (by have g9 := G3.out.1.own; rw [HLN.out] at g9; exact g9) ⟨g, 0, none⟩ 1 1 (iv (zs [hn])) rfl rfl (fun a u ha => by
          have ha0 := (List.getElem?_eq_some_iff.1 ha).1
          have ha1 : a = 0 := by simp [iv, zs] at ha0; omega
          subst ha1
          simp [iv, zs] at ha
          subst ha
          simp [World.cell?, Addr.add, G3.out.2]) (ivz_one _) (by decide) (by unfold maxLen; omega) (by omega) G3.out.1.bel.size _ rfl ?_
        intro g5 cap5 w5 hown5 hgr5 hor5 hlt5
        have H5 : Hid (GrI X0 w5 (.slice (some ⟨g5, 0, none⟩) (ndR h (alR h tl (F.take (j + 1)))).length cap5) (ndR h (alR h tl (F.take (j + 1))))) := by
          show GrI _ _ _ _
          rw [nal_snoc HXX.out.1, HXX.out.2]
          exact G3.out.1.add (Below.refl _ _) (by rw [HLN.out]; exact hown5) (by rw [HLN.out]; exact hgr5)
        clear hown5 hgr5 hor5 hlt5 hg3 hS3 G1 G3
        refine hK.out _ _ (HS9.out _ H5.out.bel) ?_
        clear hK K
        try simp only [Act.put, List.setIfInBounds_toArray, List.set_cons_zero, List.set_cons_succ]
        refine wpAnyM_take (i := 13) (oi := { dst := Option.some 9, op := Op.assign (Operand.tmp 54), type := 28, pos := "ref.go:51", after := #[{ on := 12, ground := Ground.data }, { on := 12, ground := Ground.chain }, { on := 0, ground := Ground.phase }, { on := 1, ground := Ground.phase }, { on := 2, ground := Ground.phase }, { on := 3, ground := Ground.phase }, { on := 4, ground := Ground.phase }, { on := 5, ground := Ground.phase }, { on := 6, ground := Ground.phase }, { on := 7, ground := Ground.phase }, { on := 8, ground := Ground.phase }, { on := 9, ground := Ground.phase }, { on := 10, ground := Ground.phase }, { on := 11, ground := Ground.phase }, { on := 12, ground := Ground.phase }], guard := Option.none }) (v := ?vm16z13) rfl (by kernel_rfl) (by kernel_rfl) (by kernel_rfl) (fun _ _ _ h => h) (YieldsM.of_if (Or.inl ⟨by rfl, ?hm16z13⟩)) ?rm16z13
        case hm16z13 => ((intro wz hSw; (try dsimp only at hSw); go_simp); try (with_reducible rfl))
        try simp only [Act.put, List.setIfInBounds_toArray, List.set_cons_zero, List.set_cons_succ]
        refine wpAnyM_done (by kernel_rfl) ?_ _
        intro u6 hg6 hS6
        have H6 : Hid (GrI X0 u6 (.slice (some ⟨g5, 0, none⟩) (ndR h (alR h tl (F.take (j + 1)))).length cap5) (ndR h (alR h tl (F.take (j + 1))))) := H5.out.up hg6
        clear hS6 hg6 H5
        go_wp2
        go_roundw
        case rel => exact ⟨j + 1, some ⟨g5, 0, none⟩, cap5, by omega, rfl, rfl, H6.out⟩
        case measure => simp [intOf]; omega
      · obtain rfl : j = F.length := by omega
        have HGO : Hid (GrI X0 wr (.slice po (ndR h (alR h tl F)).length pc) (ndR h (alR h tl F)) ∧ (ndR h (alR h tl F)).length = F.length + 1) := ⟨by have g9 := HG.out; rw [List.take_length] at g9; exact g9, by rw [ndR_len, alR_len]⟩
        have HTA : Hid (lkN h (k : Int) = ndR h (alR h tl F)) := by rw [← HTL.out]; exact HN0.out
        clear HG HLN
        go_wp2_with fail
        have HSS2 : Hid (∀ wx : World, wx.heap[q]? = some (.cells #[.int .i64 0, .slice lo 0 lc] 36) → (fun w' : World => w'.cell? ⟨q, 0, none⟩ = some (.int .i64 0) ∧ w'.cell? ⟨q, 1, none⟩ = some (.slice lo 0 lc) ∧ Hid (w'.heap[q]? = some (.cells #[.int .i64 0, .slice lo 0 lc] 36))) wx) := fun wx hx => by
          obtain ⟨b0, b1, _, _⟩ := cell_two hx
          exact ⟨b0, b1, hx⟩
        refine wp_region_M (S := (fun w' : World => w'.cell? ⟨q, 0, none⟩ = some (.int .i64 0) ∧ w'.cell? ⟨q, 1, none⟩ = some (.slice lo 0 lc) ∧ Hid (w'.heap[q]? = some (.cells #[.int .i64 0, .slice lo 0 lc] 36)))) (by kernel_rfl) (HSS2.out _ (HX.out _ (btrH' HGO.out.1.bel (Below.refl _ _).drew)).1.1) ?_
        refine wpAnyM_take (i := 0) (oi := { dst := Option.some 56, op := Op.move (Operand.tmp 9), type := 28, pos := "ref.go:53", after := #[], guard := Option.none }) (v := ?ve28z0) rfl (by kernel_rfl) (by kernel_rfl) (by kernel_rfl) (fun _ _ _ h => h) (YieldsM.of_if (Or.inl ⟨by rfl, ?he28z0⟩)) ?re28z0
        case he28z0 => ((intro wz hSw; (try dsimp only at hSw); go_simp); try (with_reducible rfl))
        try simp only [Act.put, List.setIfInBounds_toArray, List.set_cons_zero, List.set_cons_succ]
        refine wpAnyM_take (i := 1) (oi := { dst := Option.some 57, op := Op.load 36 (Operand.tmp 7), type := 36, pos := "ref.go:53", after := #[{ on := 2, ground := Ground.gcOnly Departure.lateStores }], guard := Option.none }) (v := ?ve29z1) rfl (by kernel_rfl) (by kernel_rfl) (by kernel_rfl) (fun _ _ _ h => h) (YieldsM.of_if (Or.inl ⟨by rfl, ?he29z1⟩)) ?re29z1
        case he29z1 => ((intro wz hSw; (try dsimp only at hSw); go_simp); try (with_reducible rfl))
        try simp only [Act.put, List.setIfInBounds_toArray, List.set_cons_zero, List.set_cons_succ]
        refine wpAnyM_take (i := 2) (oi := { dst := Option.some 4, op := Op.assign (Operand.tmp 56), type := 28, pos := "ref.go:53", after := #[{ on := 0, ground := Ground.data }, { on := 0, ground := Ground.phase }, { on := 1, ground := Ground.textOnly Departure.lateStores }], guard := Option.none }) (v := ?ve30z2) rfl (by kernel_rfl) (by kernel_rfl) (by kernel_rfl) (fun _ _ _ h => h) (YieldsM.of_if (Or.inl ⟨by rfl, ?he30z2⟩)) ?re30z2
        case he30z2 => ((intro wz hSw; (try dsimp only at hSw); go_simp); try (with_reducible rfl))
        try simp only [Act.put, List.setIfInBounds_toArray, List.set_cons_zero, List.set_cons_succ]
        refine readyM (i := 3) (o := { dst := Option.none, op := Op.store 36 (Operand.tmp 5) (Operand.tmp 57), type := 0, pos := "ref.go:53", after := #[{ on := 1, ground := Ground.data }, { on := 2, ground := Ground.chain }, { on := 0, ground := Ground.phase }, { on := 1, ground := Ground.phase }, { on := 2, ground := Ground.phase }], guard := Option.none }) rfl (by kernel_rfl) ?_
        intro u3 hg3 hS3 K hK
        have G3 := HGO.out.1.up (btrH' (Below.refl _ _).drew hg3)
        obtain ⟨g1, _, g4, _, g5, _⟩ := (HX.out u3 G3.bel).1
        obtain ⟨d0, d1, f0, f1⟩ := cell_two g4
        have HT4 : Hid (((u3.setCell ⟨z + 1, 0, none⟩ (.int .i64 0)).setCell ⟨z + 1, 1, none⟩ (.slice lo 0 lc)).heap[z + 1]? = some (.cells #[.int .i64 0, .slice lo 0 lc] 36) ∧ ((u3.setCell ⟨z + 1, 0, none⟩ (.int .i64 0)).setCell ⟨z + 1, 1, none⟩ (.slice lo 0 lc)).heap[q]? = some (.cells #[.int .i64 0, .slice lo 0 lc] 36) ∧ ((u3.setCell ⟨z + 1, 0, none⟩ (.int .i64 0)).setCell ⟨z + 1, 1, none⟩ (.slice lo 0 lc)).ownsRow w.heap.size 3 1 (.slice po (ndR h (alR h tl F)).length pc) (ndR h (alR h tl F)).length (iv (zs (ndR h (alR h tl F)))) ∧ Below w.heap.size w ((u3.setCell ⟨z + 1, 0, none⟩ (.int .i64 0)).setCell ⟨z + 1, 1, none⟩ (.slice lo 0 lc))) := ⟨set_err g4 _ _, (Below.heap_setCell _ _ _ _ (by exact HNE.out)).trans ((Below.heap_setCell _ _ _ _ (by exact HNE.out)).trans g1), own_lowU (iown_keep G3.own fun b hb => by
          have hne : b ≠ z + 1 := by have := (G3.own.lt b hb).1; have := HZX.out.1; omega
          exact (Below.heap_setCell _ _ _ _ (by exact hne)).trans (Below.heap_setCell _ _ _ _ (by exact hne))) HZX.out.2.1, HSZ.out _ _ _ g5⟩
        clear hS3 g1 g4 g5 hg3 G3
        go_simp
        refine hK.out _ _ (HSS2.out _ HT4.out.2.1) ?_
        clear hK K d0 d1 f0 f1
        try simp only [Act.put, List.setIfInBounds_toArray, List.set_cons_zero, List.set_cons_succ]
        generalize ((u3.setCell ⟨z + 1, 0, none⟩ (.int .i64 0)).setCell ⟨z + 1, 1, none⟩ (.slice lo 0 lc)) = U4 at HT4 ⊢
        refine wpAnyM_done (by kernel_rfl) ?_ _
        intro u9 hg9 hS9
        have H9 : Hid (u9.heap[z + 1]? = some (.cells #[.int .i64 0, .slice lo 0 lc] 36) ∧ GrI w u9 (.slice po (ndR h (alR h tl F)).length pc) (ndR h (alR h tl F))) := ⟨(Below.block hg9 _ (some_lt HT4.out.1)).trans HT4.out.1, GrI.up ⟨HT4.out.2.2.1, HT4.out.2.2.2⟩ hg9⟩
        clear hS9 hg9 HT4
        go_wp2
        refine bodyPost_ret (docNodes_res H9.out.1 rfl rfl) rfl ?_
        rw [HTA.out]
        exact ⟨po, pc, lo, lc, by (rw [HGO.out.2]; rfl), H9.out.2, ⟨lo, lc, rfl, fun j p hj => by simp at hj⟩⟩
  · have j1 : decide (E = (0, [])) = false := by simpa using hc
    have HTA : Hid (lkN h i = []) := lkN_bad (by rw [HE.out.1]; exact hc)
    clear hc
    go_wp2_with fail
    have HSS : Hid (∀ wx : World, wx.heap[q]? = some (.cells #[.int .i64 E.1, .slice lo E.2.length lc] 36) → (fun w' : World => w'.cell? ⟨q, 0, none⟩ = some (.int .i64 E.1) ∧ w'.cell? ⟨q, 1, none⟩ = some (.slice lo E.2.length lc) ∧ Hid (w'.heap[q]? = some (.cells #[.int .i64 E.1, .slice lo E.2.length lc] 36))) wx) := fun wx hx => by
      obtain ⟨b0, b1, _, _⟩ := cell_two hx
      exact ⟨b0, b1, hx⟩
    refine wp_region_M (S := (fun w' : World => w'.cell? ⟨q, 0, none⟩ = some (.int .i64 E.1) ∧ w'.cell? ⟨q, 1, none⟩ = some (.slice lo E.2.length lc) ∧ Hid (w'.heap[q]? = some (.cells #[.int .i64 E.1, .slice lo E.2.length lc] 36)))) (by kernel_rfl) (HSS.out _ (H2.out _ (btrH' HB3.out (Below.refl _ _).drew)).1) ?_
    refine wpAnyM_take (i := 0) (oi := { dst := Option.some 20, op := Op.load 36 (Operand.tmp 7), type := 36, pos := "ref.go:46", after := #[{ on := 1, ground := Ground.gcOnly Departure.lateStores }], guard := Option.none }) (v := ?va1z0) rfl (by kernel_rfl) (by kernel_rfl) (by kernel_rfl) (fun _ _ _ h => h) (YieldsM.of_if (Or.inl ⟨by rfl, ?ha1z0⟩)) ?ra1z0
    case ha1z0 => ((intro wz hSw; (try dsimp only at hSw); go_simp); try (with_reducible rfl))
    try simp only [Act.put, List.setIfInBounds_toArray, List.set_cons_zero, List.set_cons_succ]
    refine wpAnyM_take (i := 1) (oi := { dst := Option.some 4, op := Op.assign (Operand.const (Value.slice Option.none 0 0)), type := 28, pos := "ref.go:46", after := #[{ on := 0, ground := Ground.textOnly Departure.lateStores }], guard := Option.none }) (v := ?va2z1) rfl (by kernel_rfl) (by kernel_rfl) (by kernel_rfl) (fun _ _ _ h => h) (YieldsM.of_if (Or.inl ⟨by rfl, ?ha2z1⟩)) ?ra2z1
    case ha2z1 => ((intro wz hSw; (try dsimp only at hSw); go_simp); try (with_reducible rfl))
    try simp only [Act.put, List.setIfInBounds_toArray, List.set_cons_zero, List.set_cons_succ]
    refine readyM (i := 2) (o := { dst := Option.none, op := Op.store 36 (Operand.tmp 5) (Operand.tmp 20), type := 0, pos := "ref.go:46", after := #[{ on := 0, ground := Ground.data }, { on := 1, ground := Ground.chain }, { on := 0, ground := Ground.phase }, { on := 1, ground := Ground.phase }], guard := Option.none }) rfl (by kernel_rfl) ?_
    intro u3 hg3 hS3 K hK
    obtain ⟨g1, g2, _, g4, _, g5, _⟩ := H2.out u3 (btrH' HB3.out (btrH' (Below.refl _ _).drew hg3))
    obtain ⟨d0, d1, f0, f1⟩ := cell_two g4
    have HT4 : Hid (((u3.setCell ⟨z + 1, 0, none⟩ (.int .i64 E.1)).setCell ⟨z + 1, 1, none⟩ (.slice lo E.2.length lc)).heap[z + 1]? = some (.cells #[.int .i64 E.1, .slice lo E.2.length lc] 36) ∧ ((u3.setCell ⟨z + 1, 0, none⟩ (.int .i64 E.1)).setCell ⟨z + 1, 1, none⟩ (.slice lo E.2.length lc)).heap[q]? = some (.cells #[.int .i64 E.1, .slice lo E.2.length lc] 36) ∧ HasPlaces ((u3.setCell ⟨z + 1, 0, none⟩ (.int .i64 E.1)).setCell ⟨z + 1, 1, none⟩ (.slice lo E.2.length lc)) (.slice lo E.2.length lc) E.2 ∧ Below w.heap.size w ((u3.setCell ⟨z + 1, 0, none⟩ (.int .i64 E.1)).setCell ⟨z + 1, 1, none⟩ (.slice lo E.2.length lc))) := ⟨set_err g4 _ _, (Below.heap_setCell _ _ _ _ (by exact HNE.out)).trans ((Below.heap_setCell _ _ _ _ (by exact HNE.out)).trans g1), pl_sets (F := E) g4 g2 _ _, HSZ.out _ _ _ g5⟩
    clear hS3 g1 g2 g4 g5 hg3
    go_simp
    refine hK.out _ _ (HSS.out _ HT4.out.2.1) ?_
    clear hK K d0 d1 f0 f1
    try simp only [Act.put, List.setIfInBounds_toArray, List.set_cons_zero, List.set_cons_succ]
    generalize ((u3.setCell ⟨z + 1, 0, none⟩ (.int .i64 E.1)).setCell ⟨z + 1, 1, none⟩ (.slice lo E.2.length lc)) = U4 at HT4 ⊢
    refine wpAnyM_done (by kernel_rfl) ?_ _
    intro u9 hg9 hS9
    have H9 : Hid (u9.heap[z + 1]? = some (.cells #[.int .i64 E.1, .slice lo E.2.length lc] 36) ∧ HasPlaces u9 (.slice lo E.2.length lc) E.2 ∧ Below w.heap.size w u9) := ⟨(Below.block hg9 _ (some_lt HT4.out.1)).trans HT4.out.1, HT4.out.2.2.1.keep hg9, HT4.out.2.2.2.trans (hg9.mono HT4.out.2.2.2.size)⟩
    clear hS9 hg9 HT4
    go_wp2
    exact bodyPost_ret (docNodes_res H9.out.1 rfl rfl) rfl (DL.bad rfl HTA.out H9.out.2.1 H9.out.2.2)
theorem docNodes_calls (v : HV) (h : Hr) (i : Int) (w : World) (hH : HasH w v h) (hb1 : h.up.length ≤ 1152921504606846976) (hb2 : h.dn.length ≤ 1152921504606846976) (hb3 : h.node.length ≤ 1152921504606846976) :
    Calls Tryz.prog 16 #[hvl v h, .int .i64 i] w (DL (lkE h i) (lkN h i) w) :=
  docNodes_aux v.no v.uo v.ul v.wo v.dl v.nc v.uc v.ulc v.wc v.dlc h i w hH hb1 hb2 hb3
end Go.Proofs.YtodilocmfdeehaaGreatDoor.Hi
