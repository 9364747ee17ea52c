/- viaductref09.DocJoin, whatever the lists. -/
import Derived.Test.YtdfjmfgbdnpkbaaDoorWkK
import Derived.Test.YtdfjmfgbdnpkbaaDoorWkT
namespace Go.Proofs.YtdfjmfgbdnpkbaaDoor
open Go.RowKit Go.Extern Go.Sort

attribute [local go_sem] Oper.semAt_some

def DJA (w : World) (ys : List Int) (n : Int) (e : Ending) (w' : World) : Prop := ∃ so sc, e = .returned (.tuple #[.slice so ys.length sc, .agg #[.int .i64 n, .slice none 0 0]]) ∧ w'.ownsRow w.heap.size 3 1 (.slice so ys.length sc) ys.length (iv ys) ∧ Below w.heap.size w w'
/-- the result's box. -/
structure RJ (w wx : World) : Prop where
  below : Below w.heap.size w wx
  res : wx.heap[w.heap.size]? = some (.cells #[.int .i64 0, .slice none 0 0] 37)
theorem RJ.keep {w wx wy : World} (h : RJ w wx) (hb : Below wx.heap.size wx wy) : RJ w wy := ⟨btr h.below hb, (hb.block _ (lt_of_get h.res)).trans h.res⟩
theorem RJ.made (w : World) : RJ w (w.alloc (.cells #[.int .i64 0, .slice none 0 0] 37)) := ⟨(Below.refl _ w).alloc (Nat.le_refl _) _, heap_new _ _⟩
theorem lay0_below {w wx : World} (h : Below w.heap.size w wx) (c0 c1 : Value) : Below w.heap.size w ((wx.setCell ⟨w.heap.size, 0, none⟩ c0).setCell ⟨w.heap.size, 1, none⟩ c1) :=
  (h.setCell (p := ⟨w.heap.size, 0, none⟩) (by simp) _).setCell (p := ⟨w.heap.size, 1, none⟩) (by simp) _

set_option maxRecDepth 100000 in
set_option maxHeartbeats 4000000 in
theorem docJoin_no (lo uo : Option Addr) (lc uc : Nat) (xs ys : List Int) (w : World) (h : xs = [] ∨ ys = []) (hm : xs.length * 8 ≤ 140737488351232) (hn : ys.length * 8 ≤ 140737488351232) :
    Calls Tryd.prog 16 #[.slice lo xs.length lc, .slice uo ys.length uc] w (DJA w [] 5) := by
  have HRJ : Hid (RJ w (w.alloc (.cells #[.int .i64 0, .slice none 0 0] 37))) := RJ.made w
  have hbb : ((xs.length : Int) == 0 || (ys.length : Int) == 0) = true := by rcases h with rfl | rfl <;> simp
  clear h
  cases hb : ((xs.length : Int) == 0) with
  | true =>
    go_enter Tryd.func16, Tryd.ntmps16
    go_wp2_with fail
    generalize w.alloc (.cells #[.int .i64 0, .slice none 0 0] 37) = W0 at *
    refine (E_calls 5 W0).mono ?_
    rintro e w1 ⟨rfl, hb1⟩
    have H1 : Hid (RJ w w1) := HRJ.out.keep hb1
    clear hb1
    obtain ⟨d0, d1, x0, x1⟩ := cell_two H1.out.res
    have ds := lt_of_get H1.out.res
    go_wp2
    refine bodyPost_ret (v := .tuple #[.slice none 0 0, .agg #[.int .i64 5, .slice none 0 0]]) (by simp [results, Tryd.results16, go_sem, d0, d1]) rfl ?_
    exact ⟨none, 0, rfl, World.ownsRow_nil _ _ _ _, lay0_below H1.out.below _ _⟩
  | false =>
    rw [hb] at hbb
    simp only [Bool.false_or] at hbb
    go_enter Tryd.func16, Tryd.ntmps16
    go_wp2_with fail
    generalize w.alloc (.cells #[.int .i64 0, .slice none 0 0] 37) = W0 at *
    refine (E_calls 5 W0).mono ?_
    rintro e w1 ⟨rfl, hb1⟩
    have H1 : Hid (RJ w w1) := HRJ.out.keep hb1
    clear hb1
    obtain ⟨d0, d1, x0, x1⟩ := cell_two H1.out.res
    have ds := lt_of_get H1.out.res
    go_wp2
    refine bodyPost_ret (v := .tuple #[.slice none 0 0, .agg #[.int .i64 5, .slice none 0 0]]) (by simp [results, Tryd.results16, go_sem, d0, d1]) rfl ?_
    exact ⟨none, 0, rfl, World.ownsRow_nil _ _ _ _, lay0_below H1.out.below _ _⟩

set_option maxRecDepth 100000 in
set_option maxHeartbeats 4000000 in
theorem docJoin_apart (ab af m ac bb bf n bc : Nat) (l y : Int) (w : World) (hx : w.cell? ⟨ab, af + m, none⟩ = some (.int .i64 l)) (hxl : ab < w.heap.size) (hy : w.cell? ⟨bb, bf, none⟩ = some (.int .i64 y)) (hyl : bb < w.heap.size) (hne : l ≠ y) (hm : m * 8 ≤ 140737488351232) (hn : n * 8 ≤ 140737488351232) :
    Calls Tryd.prog 16 #[.slice (some ⟨ab, af, none⟩) (m + 1) ac, .slice (some ⟨bb, bf, none⟩) (n + 1) bc] w (DJA w [] 16) := by
  have HRJ : Hid (RJ w (w.alloc (.cells #[.int .i64 0, .slice none 0 0] 37))) := RJ.made w
  have q0 : (w.alloc (.cells #[.int .i64 0, .slice none 0 0] 37)).cell? ⟨ab, af + m, none⟩ = some (.int .i64 l) := (HRJ.out.below.cell (p := ⟨ab, af + m, none⟩) hxl).trans hx
  have q1 : (w.alloc (.cells #[.int .i64 0, .slice none 0 0] 37)).cell? ⟨bb, bf, none⟩ = some (.int .i64 y) := (HRJ.out.below.cell (p := ⟨bb, bf, none⟩) hyl).trans hy
  have n0 : (0 : Int) < (n : Int) + 1 := by omega
  have m0 : ((m : Int) + 1 == 0) = false := by simp; omega
  have n1 : ((n : Int) + 1 == 0) = false := by simp; omega
  have hw : IntKind.i64.wrap ((m : Int) + 1 - 1) = (m : Int) := by rw [IntKind.wrap_i64] <;> omega
  have m2 : (0 : Int) ≤ (m : Int) := by omega
  have m1 : (m : Int) < (m : Int) + 1 := by omega
  clear hx hy
  go_enter Tryd.func16, Tryd.ntmps16
  go_wp2_with fail
  generalize w.alloc (.cells #[.int .i64 0, .slice none 0 0] 37) = W0 at *
  go_quiet (fail)
  go_wp2_with fail
  refine (E_calls 16 _).mono ?_
  rintro e w1 ⟨rfl, hb1⟩
  have H1 : Hid (RJ w w1) := ⟨btr (below_drewN HRJ.out.below nq) hb1, (hb1.block _ (lt_of_get HRJ.out.res)).trans HRJ.out.res⟩
  clear hb1
  obtain ⟨d0, d1, x0, x1⟩ := cell_two H1.out.res
  have ds := lt_of_get H1.out.res
  go_wp2
  refine bodyPost_ret (v := .tuple #[.slice none 0 0, .agg #[.int .i64 16, .slice none 0 0]]) (by simp [results, Tryd.results16, go_sem, d0, d1]) rfl ?_
  exact ⟨none, 0, rfl, World.ownsRow_nil _ _ _ _, lay0_below H1.out.below _ _⟩
theorem RJ.keepg {w wx wy : World} {row : Option Nat} (h : RJ w wx) (hg : wx.grownBy wy row) (hr : ∀ k, some k = row → w.heap.size < k) : RJ w wy :=
  ⟨below_g h.below hg fun k e => Nat.le_of_lt (hr k e), (hg.block _ (lt_of_get h.res) fun e => Nat.lt_irrefl _ (hr _ e)).trans h.res⟩

set_option maxRecDepth 100000 in
set_option maxHeartbeats 4000000 in
theorem docJoin_meet (ab af m ac bb bf bc : Nat) (l : Int) (xs r : List Int) (w : World) (hm : xs.length = m + 1) (hx : HasInts w (.slice (some ⟨ab, af, none⟩) (m + 1) ac) xs) (hl : xs[m]? = some l) (hy : HasInts w (.slice (some ⟨bb, bf, none⟩) (r.length + 1) bc) (l :: r)) (hc : r.length + 1 ≤ bc) (hn : (xs.length + r.length) * 8 ≤ 140737488351232) :
    Calls Tryd.prog 16 #[.slice (some ⟨ab, af, none⟩) (m + 1) ac, .slice (some ⟨bb, bf, none⟩) (r.length + 1) bc] w (DJA w (xs ++ r) 0) := by
  have HRJ : Hid (RJ w (w.alloc (.cells #[.int .i64 0, .slice none 0 0] 37))) := RJ.made w
  have q0 : (w.alloc (.cells #[.int .i64 0, .slice none 0 0] 37)).cell? ⟨ab, af + m, none⟩ = some (.int .i64 l) := by
    obtain ⟨b, off, e, hxl, q⟩ := hx.at hl
    cases e
    exact (HRJ.out.below.cell (p := ⟨ab, af + m, none⟩) hxl).trans q
  have q1 : (w.alloc (.cells #[.int .i64 0, .slice none 0 0] 37)).cell? ⟨bb, bf, none⟩ = some (.int .i64 l) := by
    obtain ⟨b, off, e, hxl, q⟩ := hy.at (k := 0) (a := l) rfl
    cases e
    exact (HRJ.out.below.cell (p := ⟨bb, bf, none⟩) hxl).trans q
  have HTI : Hid (∀ nq, Calls Tryd.prog 10 #[.slice (some ⟨ab, af, none⟩) (m + 1) ac] ((w.alloc (.cells #[.int .i64 0, .slice none 0 0] 37)).drewN nq) fun e w' => ∃ mo mc, e = .returned (.slice mo (m + 1) mc) ∧ w'.ownsRow (w.alloc (.cells #[.int .i64 0, .slice none 0 0] 37)).heap.size 3 1 (.slice mo (m + 1) mc) xs.length (iv xs) ∧ Below (w.alloc (.cells #[.int .i64 0, .slice none 0 0] 37)).heap.size (w.alloc (.cells #[.int .i64 0, .slice none 0 0] 37)) w') := fun nq => by
    have h := twinInts_calls (some ⟨ab, af, none⟩) ac xs ((w.alloc (.cells #[.int .i64 0, .slice none 0 0] 37)).drewN nq) (by rw [hm]; exact hx.keep (below_drewN HRJ.out.below nq)) (by omega)
    rw [hm] at h
    refine h.mono ?_
    rintro e w' ⟨mo, mc, he, ho, hb⟩
    exact ⟨mo, mc, he, by rw [hm]; exact ho, (below_drewN (Below.refl _ _) nq).trans hb⟩
  have n0 : (0 : Int) < (r.length : Int) + 1 := by omega
  have m0 : ((m : Int) + 1 == 0) = false := by simp; omega
  have n1 : ((r.length : Int) + 1 == 0) = false := by simp; omega
  have hc1 : (r.length : Int) + 1 ≤ (bc : Int) := by omega
  have hw : IntKind.i64.wrap ((m : Int) + 1 - 1) = (m : Int) := by rw [IntKind.wrap_i64] <;> omega
  have m2 : (0 : Int) ≤ (m : Int) := by omega
  have m1 : (m : Int) < (m : Int) + 1 := by omega
  have HY : Hid (HasInts w (.slice (some ⟨bb, bf, none⟩) (r.length + 1) bc) (l :: r)) := hy
  clear hx hy
  by_cases hb1 : bc = 1
  · obtain rfl : r = [] := List.eq_nil_of_length_eq_zero (by omega)
    subst hb1
    have HR : Hid (HasInts w (.slice (some ⟨bb, bf, none⟩) ([] : List Int).length 0) []) := ⟨_, _, rfl, fun j a hj => by simp at hj⟩
    go_enter Tryd.func16, Tryd.ntmps16
    go_wp2_with fail
    generalize w.alloc (.cells #[.int .i64 0, .slice none 0 0] 37) = W0 at *
    go_quiet (fail)
    go_wp2_with fail
    refine (HTI.out nq).mono ?_
    rintro e w1 ⟨mo, mc, rfl, ho, hb1⟩
    have H1 : Hid (RJ w w1 ∧ w1.ownsRow W0.heap.size 3 1 (.slice mo (m + 1) mc) xs.length (iv xs) ∧ Below W0.heap.size W0 w1) := ⟨⟨btr HRJ.out.below hb1, (hb1.block _ (lt_of_get HRJ.out.res)).trans HRJ.out.res⟩, ho, hb1⟩
    clear ho hb1
    go_wp2_with (at_builtin; refine wpList_append_ints rfl _ _ rfl W0.heap.size (.slice mo (m + 1) mc) xs rfl H1.out.2.1 bb bf 0 [] rfl (HR.out.keep H1.out.1.below) (by omega) H1.out.2.2.size ?_; intro v' w2 hown2 hgr2; obtain ⟨so2, sc2, hv2⟩ := iown_slice hown2; subst hv2; have H2 : Hid (w2.ownsRow W0.heap.size 3 1 (.slice so2 (xs ++ []).length sc2) (xs ++ []).length (iv (xs ++ [])) ∧ RJ w w2) := ⟨hown2, H1.out.1.keepg hgr2 (fun k e => Nat.lt_of_lt_of_le (lt_of_get HRJ.out.res) (H1.out.2.1.lt k e.symm).1)⟩; clear hown2 hgr2; obtain ⟨d0, d1, x0, x1⟩ := cell_two H2.out.2.res; have ds := lt_of_get H2.out.2.res)
    refine bodyPost_ret (v := .tuple #[.slice so2 (xs ++ []).length sc2, .agg #[.int .i64 0, .slice none 0 0]]) (by simp [results, Tryd.results16, go_sem, d0, d1, hm]) rfl ?_
    exact ⟨so2, sc2, rfl, iown_base (iown_keep H2.out.1 fun k hk => (heap_setCell_other _ _ _ _ (Nat.ne_of_gt (Nat.lt_of_lt_of_le (lt_of_get HRJ.out.res) (H2.out.1.lt k hk).1))).trans (heap_setCell_other _ _ _ _ (Nat.ne_of_gt (Nat.lt_of_lt_of_le (lt_of_get HRJ.out.res) (H2.out.1.lt k hk).1)))) HRJ.out.below.size, lay0_below H2.out.2.below _ _⟩
  · have HR : Hid (HasInts w (.slice (some ⟨bb, bf + 1, none⟩) r.length (bc - 1)) r) := HY.out.tl
    go_enter Tryd.func16, Tryd.ntmps16
    go_wp2_with fail
    generalize w.alloc (.cells #[.int .i64 0, .slice none 0 0] 37) = W0 at *
    go_quiet (fail)
    go_wp2_with fail
    refine (HTI.out nq).mono ?_
    rintro e w1 ⟨mo, mc, rfl, ho, hb1⟩
    have H1 : Hid (RJ w w1 ∧ w1.ownsRow W0.heap.size 3 1 (.slice mo (m + 1) mc) xs.length (iv xs) ∧ Below W0.heap.size W0 w1) := ⟨⟨btr HRJ.out.below hb1, (hb1.block _ (lt_of_get HRJ.out.res)).trans HRJ.out.res⟩, ho, hb1⟩
    clear ho hb1
    go_wp2_with (at_builtin; refine wpList_append_ints rfl _ _ rfl W0.heap.size (.slice mo (m + 1) mc) xs rfl H1.out.2.1 bb (bf + 1) (bc - 1) r rfl (HR.out.keep H1.out.1.below) (by omega) H1.out.2.2.size ?_; intro v' w2 hown2 hgr2; obtain ⟨so2, sc2, hv2⟩ := iown_slice hown2; subst hv2; have H2 : Hid (w2.ownsRow W0.heap.size 3 1 (.slice so2 (xs ++ r).length sc2) (xs ++ r).length (iv (xs ++ r)) ∧ RJ w w2) := ⟨hown2, H1.out.1.keepg hgr2 (fun k e => Nat.lt_of_lt_of_le (lt_of_get HRJ.out.res) (H1.out.2.1.lt k e.symm).1)⟩; clear hown2 hgr2; obtain ⟨d0, d1, x0, x1⟩ := cell_two H2.out.2.res; have ds := lt_of_get H2.out.2.res)
    refine bodyPost_ret (v := .tuple #[.slice so2 (xs ++ r).length sc2, .agg #[.int .i64 0, .slice none 0 0]]) (by simp [results, Tryd.results16, go_sem, d0, d1, hm]) rfl ?_
    exact ⟨so2, sc2, rfl, iown_base (iown_keep H2.out.1 fun k hk => (heap_setCell_other _ _ _ _ (Nat.ne_of_gt (Nat.lt_of_lt_of_le (lt_of_get HRJ.out.res) (H2.out.1.lt k hk).1))).trans (heap_setCell_other _ _ _ _ (Nat.ne_of_gt (Nat.lt_of_lt_of_le (lt_of_get HRJ.out.res) (H2.out.1.lt k hk).1)))) HRJ.out.below.size, lay0_below H2.out.2.below _ _⟩
end Go.Proofs.YtdfjmfgbdnpkbaaDoor
