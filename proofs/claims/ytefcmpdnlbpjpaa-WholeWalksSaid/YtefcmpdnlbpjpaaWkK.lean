/- walk.Join, whatever the lists. -/
import Derived.Test.YtefcmpdnlbpjpaaWkL
import Derived.Test.YtefcmpdnlbpjpaaRefBuW
import Derived.BigQuiet
namespace Go.Proofs.Ytefcmpdnlbpjpaa
open Go.RowKit Go.Extern Go.Sort

attribute [local go_sem] Oper.semAt_some

/-- what is answered by Join: a list and a number of an error, 0 for none. -/
def joinL (xs ys : List Int) : List Int := if xs = [] ∨ ys = [] then [] else if xs.getLast? = ys.head? then xs ++ ys.tail else []
def joinN (xs ys : List Int) : Int := if xs = [] ∨ ys = [] then 5 else if xs.getLast? = ys.head? then 0 else 16
def jErr (n : Int) : Value := if n = 0 then .nilIface else .iface 59 (.int .i64 n)
def JA (w : World) (ys : List Int) (n : Int) (e : Ending) (w' : World) : Prop := ∃ so sc, e = .returned (.tuple #[.slice so ys.length sc, jErr n]) ∧ w'.ownsRow w.heap.size 3 1 (.slice so ys.length sc) ys.length (iv ys) ∧ Below w.heap.size w w'
theorem HasInts.tl {w : World} {b off n cap cap' : Nat} {y : Int} {r : List Int} (h : HasInts w (.slice (some ⟨b, off, none⟩) (n + 1) cap) (y :: r)) : HasInts w (.slice (some ⟨b, off + 1, none⟩) r.length cap') r := by
  refine ⟨_, _, rfl, fun j a hj => ?_⟩
  obtain ⟨b', off', e, hl, q⟩ := h.at (k := j + 1) (a := a) (by simpa using hj)
  cases e
  exact ⟨b, off + 1, rfl, hl, by rw [show off + 1 + j = off + (j + 1) by omega]; exact q⟩

set_option maxRecDepth 100000 in
set_option maxHeartbeats 4000000 in
/-- one of them is empty. -/
theorem join_no (lo uo : Option Addr) (lc uc : Nat) (xs ys : List Int) (w : World) (h : xs = [] ∨ ys = []) (hm : xs.length * 8 ≤ 140737488351232) (hn : ys.length * 8 ≤ 140737488351232) :
    Calls Try.prog 12 #[.slice lo xs.length lc, .slice uo ys.length uc] w (JA w [] 5) := by
  by_cases h1 : xs = []
  · subst h1
    go_enter Try.func12, Try.ntmps12
    go_wp2
    go_ret2
    exact ⟨none, 0, rfl, World.ownsRow_nil _ _ _ _, Below.refl _ _⟩
  · obtain rfl : ys = [] := h.resolve_left h1
    have hl : (xs.length : Int) ≠ 0 := by
      have := List.length_pos_iff.2 h1
      omega
    go_enter Try.func12, Try.ntmps12
    go_wp2
    go_ret2
    exact ⟨none, 0, rfl, World.ownsRow_nil _ _ _ _, Below.refl _ _⟩

set_option maxRecDepth 100000 in
set_option maxHeartbeats 4000000 in
/-- they don't meet. -/
theorem join_apart (ab af m ac bb bf n bc : Nat) (l y : Int) (w : World) (hx : w.cell? ⟨ab, af + m, none⟩ = some (.int .i64 l)) (hy : w.cell? ⟨bb, bf, none⟩ = some (.int .i64 y)) (hne : l ≠ y) (hm : m * 8 ≤ 140737488351232) (hn : n * 8 ≤ 140737488351232) :
    Calls Try.prog 12 #[.slice (some ⟨ab, af, none⟩) (m + 1) ac, .slice (some ⟨bb, bf, none⟩) (n + 1) bc] w (JA w [] 16) := by
  have HC : Hid (∀ k, Calls Try.prog 29 #[.slice (some ⟨ab, af, none⟩) (m + 1) ac] (w.drewN k) fun e w' => e = .returned (.int .i64 l) ∧ w' = w.drewN k) := fun k => last_calls ab af m ac l (w.drewN k) hx hm
  have n0 : (0 : Int) < (n : Int) + 1 := by omega
  have m0 : ((m : Int) + 1 == 0) = false := by simp; omega
  have n1 : ((n : Int) + 1 == 0) = false := by simp; omega
  go_enter Try.func12, Try.ntmps12
  go_wp2_with fail
  go_quiet (first | (go_at_call 29; exact Calls.quiet_of_same (HC.out _)))
  go_wp2
  go_ret2
  exact ⟨none, 0, rfl, World.ownsRow_nil _ _ _ _, below_drewN (Below.refl _ w) _⟩

/-- the two lists put side by side, and laid behind one another. -/
theorem concat_at (w : World) (nq ab af ac bb bf bc : Nat) (xs r : List Int) (hx : HasInts w (.slice (some ⟨ab, af, none⟩) xs.length ac) xs) (hy : HasInts w (.slice (some ⟨bb, bf, none⟩) r.length bc) r) (hn : (xs.length + r.length) * 8 ≤ 140737488351232) :
    Calls Try.prog 30 #[.slice (some ⟨w.heap.size, 0, none⟩) 2 2] ((w.drewN nq).alloc (.cells #[.slice (some ⟨ab, af, none⟩) xs.length ac, .slice (some ⟨bb, bf, none⟩) r.length bc] 25)) (LA w (xs ++ r)) := by
  have hb : Below w.heap.size w ((w.drewN nq).alloc (.cells #[.slice (some ⟨ab, af, none⟩) xs.length ac, .slice (some ⟨bb, bf, none⟩) r.length bc] 25)) := (below_drewN (Below.refl _ w) nq).alloc (Nat.le_refl _) _
  have hh : ((w.drewN nq).alloc (.cells #[.slice (some ⟨ab, af, none⟩) xs.length ac, .slice (some ⟨bb, bf, none⟩) r.length bc] 25)).heap[w.heap.size]? = some (.cells #[.slice (some ⟨ab, af, none⟩) xs.length ac, .slice (some ⟨bb, bf, none⟩) r.length bc] 25) := heap_new (w.drewN nq) _
  generalize (w.drewN nq).alloc (.cells #[.slice (some ⟨ab, af, none⟩) xs.length ac, .slice (some ⟨bb, bf, none⟩) r.length bc] 25) = W at hb hh
  refine (concatI_calls w.heap.size ab af bb bf ac bc xs r W (by simp [World.cell?, hh]) (by simp [World.cell?, hh]) (hx.keep hb) (hy.keep hb) hn).mono ?_
  rintro e w' ⟨so, sc, he, ho, hb'⟩
  exact ⟨so, sc, he, iown_base ho hb.size, hb.trans (hb'.mono hb.size)⟩

set_option maxRecDepth 100000 in
set_option maxHeartbeats 4000000 in
/-- they meet. -/
theorem join_meet (ab af m ac bb bf bc : Nat) (l : Int) (xs r : List Int) (w : World) (hm : xs.length = m + 1) (hx : HasInts w (.slice (some ⟨ab, af, none⟩) (m + 1) ac) xs) (hl : xs[m]? = some l) (hy : HasInts w (.slice (some ⟨bb, bf, none⟩) (r.length + 1) bc) (l :: r)) (hc : r.length + 1 ≤ bc) (hn : (xs.length + r.length) * 8 ≤ 140737488351232) :
    Calls Try.prog 12 #[.slice (some ⟨ab, af, none⟩) (m + 1) ac, .slice (some ⟨bb, bf, none⟩) (r.length + 1) bc] w (JA w (xs ++ r) 0) := by
  have hx0 : w.cell? ⟨ab, af + m, none⟩ = some (.int .i64 l) := by
    obtain ⟨b, off, e, _, q⟩ := hx.at hl
    cases e
    exact q
  have hy0 : w.cell? ⟨bb, bf, none⟩ = some (.int .i64 l) := by
    obtain ⟨b, off, e, _, q⟩ := hy.at (k := 0) (a := l) rfl
    cases e
    exact q
  have HC : Hid (∀ k, Calls Try.prog 29 #[.slice (some ⟨ab, af, none⟩) (m + 1) ac] (w.drewN k) fun e w' => e = .returned (.int .i64 l) ∧ w' = w.drewN k) := fun k => last_calls ab af m ac l (w.drewN k) hx0 (by omega)
  have HCC : Hid (∀ nq bb bf bc, HasInts w (.slice (some ⟨bb, bf, none⟩) r.length bc) r → Calls Try.prog 30 #[.slice (some ⟨w.heap.size, 0, none⟩) 2 2] ((w.drewN nq).alloc (.cells #[.slice (some ⟨ab, af, none⟩) (m + 1) ac, .slice (some ⟨bb, bf, none⟩) r.length bc] 25)) (LA w (xs ++ r))) := fun nq bb bf bc h => by
    have h1 := concat_at w nq ab af ac bb bf bc xs r (by rw [hm]; exact hx) h hn
    rw [hm] at h1
    exact h1
  have HY : Hid (HasInts w (.slice (some ⟨bb, bf, none⟩) (r.length + 1) bc) (l :: r)) := hy
  have n0 : (0 : Int) < (r.length : Int) + 1 := by omega
  have m0 : ((m : Int) + 1 == 0) = false := by simp; omega
  have n1 : ((r.length : Int) + 1 == 0) = false := by simp; omega
  have hc1 : (r.length : Int) + 1 ≤ (bc : Int) := by omega
  clear hx hy
  by_cases hb1 : bc = 1
  · obtain rfl : r = [] := List.eq_nil_of_length_eq_zero (by omega)
    subst hb1
    have HR : Hid (∀ bf, HasInts w (.slice (some ⟨bb, bf, none⟩) ([] : List Int).length 0) []) := fun bf => ⟨_, _, rfl, fun j a hj => by simp at hj⟩
    go_enter Try.func12, Try.ntmps12
    go_wp2_with fail
    go_quiet (first | (go_at_call 29; exact Calls.quiet_of_same (HC.out _)))
    go_wp2_with fail
    refine (HCC.out _ _ _ _ (HR.out _)).mono ?_
    rintro e w' ⟨so, sc, rfl, ho, hb⟩
    have HO : Hid (type_of% (And.intro ho hb)) := ⟨ho, hb⟩
    clear ho hb
    go_wp2
    go_ret2
    exact ⟨so, sc, congrArg (fun n : Nat => Ending.returned (.tuple #[.slice so n sc, jErr 0])) (show m + 1 = (xs ++ []).length by simp [hm]), HO.out.1, HO.out.2⟩
  · have HR : Hid (HasInts w (.slice (some ⟨bb, bf + 1, none⟩) r.length (bc - 1)) r) := HY.out.tl
    go_enter Try.func12, Try.ntmps12
    go_wp2_with fail
    go_quiet (first | (go_at_call 29; exact Calls.quiet_of_same (HC.out _)))
    go_wp2_with fail
    refine (HCC.out _ _ _ _ HR.out).mono ?_
    rintro e w' ⟨so, sc, rfl, ho, hb⟩
    have HO : Hid (type_of% (And.intro ho hb)) := ⟨ho, hb⟩
    clear ho hb
    go_wp2
    go_ret2
    exact ⟨so, sc, congrArg (fun n : Nat => Ending.returned (.tuple #[.slice so n sc, jErr 0])) (show m + 1 + r.length = (xs ++ r).length by simp [hm]), HO.out.1, HO.out.2⟩
end Go.Proofs.Ytefcmpdnlbpjpaa
