/- viaductref08.node: the error of a node of arrays. -/
import Derived.Test.YtnkfggccahohpabSqD
import Derived.Test.YtnkfggccahohpabSrG
namespace Go.Proofs.Ytnkfggccahohpab
open Go.RowKit Go.Extern

attribute [local go_sem] Oper.semAt_some

/-- a box of two cells is written. -/
def lay2 (W : World) (b : Nat) (c0 c1 : Value) : World := (W.setCell ⟨b, 0, none⟩ c0).setCell ⟨b, 1, none⟩ c1
section
variable {W : World} {b : Nat} {c0 c1 x : Value} {a : Option Addr} {n m : Nat} {T : TypeId}
theorem lay2_far {g : Nat} (hg : g ≠ b) : (lay2 W b c0 c1).heap[g]? = W.heap[g]? := (heap_setCell_other _ _ _ _ hg).trans (heap_setCell_other _ _ _ _ hg)
theorem lay2_size : (lay2 W b c0 c1).heap.size = W.heap.size := by simp [lay2]
theorem lay2_box {y : Value} (h : W.heap[b]? = some (.cells #[x, y] T)) : (lay2 W b c0 c1).heap[b]? = some (.cells #[c0, c1] T) := by
  have h1 : (W.setCell ⟨b, 0, none⟩ c0).heap[b]? = some (.cells #[c0, y] T) := (Go.heap_setCell_same _ _ 0 _ _ _ h).trans rfl
  exact (Go.heap_setCell_same _ _ 1 _ _ _ h1).trans rfl
theorem lay2_below {w : World} (h : Below w.heap.size w W) (hb : w.heap.size ≤ b) : Below w.heap.size w (lay2 W b c0 c1) := (h.setCell (p := ⟨b, 0, none⟩) hb _).setCell (p := ⟨b, 1, none⟩) hb _
theorem lay2_places {v : Value} {l : List (Int × Int)} (h : HasPlaces W v l) (hb : W.heap[b]? = some (.cells #[x, .slice a n m] T)) : HasPlaces (lay2 W b c0 c1) v l := by
  obtain ⟨ao, cap, e, hc⟩ := h
  refine ⟨ao, cap, e, fun j p hj => ?_⟩
  obtain ⟨g, off, ea, hl, q0, q1⟩ := hc j p hj
  have n2 : g ≠ b := fun e => by
    subst e
    simp only [World.cell?, hb] at q1
    generalize off + j * 2 = k at q1
    rcases k with _ | k <;> simp at q1
  have hk := lay2_far (W := W) (c0 := c0) (c1 := c1) n2
  exact ⟨g, off, ea, by rw [lay2_size]; exact hl, (World.cell?_of_block (a := ⟨g, _, none⟩) hk).trans q0, (World.cell?_of_block (a := ⟨g, _, none⟩) hk).trans q1⟩
end
theorem badT {C : Int} (h : C ≠ 0) (l : Nat) : (C != 0 || decide (0 < l)) = true := by simp [h]
theorem below1 (w : World) (o : Obj) : Below w.heap.size w (w.alloc o) := (Below.refl _ w).alloc (Nat.le_refl _) _

section
variable (fo uo wo : Option Addr) (fl fc tl tc wl wc n : Nat) (w : World) (v : Int)

set_option maxRecDepth 100000 in
set_option maxHeartbeats 4000000 in
theorem node8_bad (C : Int) (ps : List (Int × Int)) (hC : C ≠ 0) (hD : ∀ wx, Below w.heap.size w wx → Calls Try.prog 19 #[.agg #[.slice fo fl fc, .slice uo tl tc, .slice wo wl wc]] wx (DocAns wx (C, ps))) :
    Calls Try.prog 31 #[.agg #[.slice fo fl fc, .slice uo tl tc, .slice wo wl wc], .int .i64 v] w (DocAns w (C, ps)) := by
  have HDB : Hid (type_of% (DB.made w (.slice fo fl fc) (.slice uo tl tc) (.slice wo wl wc))) := DB.made w (.slice fo fl fc) (.slice uo tl tc) (.slice wo wl wc)
  have HDC : Hid (type_of% hD) := hD
  have HBT : Hid (∀ l, (C != 0 || decide (0 < l)) = true) := fun l => badT hC l
  clear hD
  go_enter Try.func31, Try.ntmps31
  go_wp2_with fail
  generalize (w.alloc (.cells #[.slice fo fl fc, .slice uo tl tc, .slice wo wl wc] 24)).alloc (.cells #[.int .i64 0, .slice none 0 0] 46) = W0 at *
  refine (HDC.out W0 HDB.out.below).mono ?_
  rintro e w1 ⟨po, pc, rfl, hP, hb⟩
  simp only at hP
  have H1 : Hid (DB w (.slice fo fl fc) (.slice uo tl tc) (.slice wo wl wc) w1 ∧ HasPlaces w1 (.slice po ps.length pc) ps) := ⟨HDB.out.keep hb, hP⟩
  clear hb hP
  go_wp2_with fail
  have H2 : Hid (DB w (.slice fo fl fc) (.slice uo tl tc) (.slice wo wl wc) (w1.alloc (.cells #[.int .i64 C, .slice po ps.length pc] 46)) ∧ HasPlaces (w1.alloc (.cells #[.int .i64 C, .slice po ps.length pc] 46)) (.slice po ps.length pc) ps ∧ (w1.alloc (.cells #[.int .i64 C, .slice po ps.length pc] 46)).heap[w1.heap.size]? = some (.cells #[.int .i64 C, .slice po ps.length pc] 46)) := ⟨H1.out.1.keep (below1 _ _), H1.out.2.keep (below1 _ _), heap_new _ _⟩
  have hbn : w.heap.size + 1 < w1.heap.size := lt_of_get H1.out.1.res
  generalize w1.alloc (.cells #[.int .i64 C, .slice po ps.length pc] 46) = W1 at *
  generalize w1.heap.size = B at *
  refine (bad_calls C po ps.length pc W1).mono ?_
  rw [HBT.out]
  rintro e w2 ⟨rfl, hb⟩
  have H3 : Hid (DB w (.slice fo fl fc) (.slice uo tl tc) (.slice wo wl wc) w2 ∧ HasPlaces w2 (.slice po ps.length pc) ps ∧ w2.heap[B]? = some (.cells #[.int .i64 C, .slice po ps.length pc] 46)) := ⟨H2.out.1.keep hb, H2.out.2.1.keep hb, (hb.block _ (lt_of_get H2.out.2.2)).trans H2.out.2.2⟩
  clear hb
  obtain ⟨e0, e1, _, _⟩ := cell_two H3.out.2.2
  have es := lt_of_get H3.out.2.2
  obtain ⟨d0, d1, x0, x1⟩ := cell_two H3.out.1.res
  have ds := lt_of_get H3.out.1.res
  go_wp2
  refine bodyPost_ret (v := .agg #[.int .i64 C, .slice po ps.length pc]) (by simp [results, Try.results31, go_sem, d0, d1]) rfl ?_
  exact ⟨po, pc, rfl, (show HasPlaces (lay2 w2 (w.heap.size + 1) (.int .i64 C) (.slice po ps.length pc)) (.slice po ps.length pc) ps from lay2_places H3.out.2.1 H3.out.1.res), (show Below w.heap.size w (lay2 w2 (w.heap.size + 1) (.int .i64 C) (.slice po ps.length pc)) from lay2_below H3.out.1.below (by omega))⟩

set_option maxRecDepth 100000 in
set_option maxHeartbeats 4000000 in
theorem node8_good (hn : n ≤ 65536) (hv : 0 ≤ v ∧ v < (n : Int)) (hD : ∀ wx, Below w.heap.size w wx → Calls Try.prog 19 #[.agg #[.slice fo (n + 1) fc, .slice uo tl tc, .slice wo wl wc]] wx (DocAns wx (0, []))) :
    Calls Try.prog 31 #[.agg #[.slice fo (n + 1) fc, .slice uo tl tc, .slice wo wl wc], .int .i64 v] w (DocAns w (0, [])) := by
  have HDB : Hid (type_of% (DB.made w (.slice fo (n + 1) fc) (.slice uo tl tc) (.slice wo wl wc))) := DB.made w (.slice fo (n + 1) fc) (.slice uo tl tc) (.slice wo wl wc)
  have HDC : Hid (type_of% hD) := hD
  have HND : Hid (∀ wx, Calls Try.prog 34 #[.agg #[.slice fo (n + 1) fc, .slice uo tl tc, .slice wo wl wc], .int .i64 v] wx fun e w' => e = .returned (.bool true) ∧ Below wx.heap.size wx w') := fun wx => by
    have h := rNode_calls fo uo wo n fc tl tc wl wc (by omega) v wx
    rw [decide_eq_true hv] at h
    exact h
  clear hD hv
  go_enter Try.func31, Try.ntmps31
  go_wp2_with fail
  generalize (w.alloc (.cells #[.slice fo (n + 1) fc, .slice uo tl tc, .slice wo wl wc] 24)).alloc (.cells #[.int .i64 0, .slice none 0 0] 46) = W0 at *
  refine (HDC.out W0 HDB.out.below).mono ?_
  rintro e w1 ⟨po, pc, rfl, hP, hb⟩
  have H1 : Hid (type_of% (HDB.out.keep hb)) := HDB.out.keep hb
  clear hb hP
  go_wp2_with fail
  have H2 : Hid (DB w (.slice fo (n + 1) fc) (.slice uo tl tc) (.slice wo wl wc) (w1.alloc (.cells #[.int .i64 0, .slice po 0 pc] 46)) ∧ (w1.alloc (.cells #[.int .i64 0, .slice po 0 pc] 46)).heap[w1.heap.size]? = some (.cells #[.int .i64 0, .slice po 0 pc] 46)) := ⟨H1.out.keep (below1 _ _), heap_new _ _⟩
  have hbn : w.heap.size + 1 < w1.heap.size := lt_of_get H1.out.res
  generalize w1.alloc (.cells #[.int .i64 0, .slice po 0 pc] 46) = W1 at *
  generalize w1.heap.size = B at *
  refine (bad_calls 0 po 0 pc W1).mono ?_
  rintro e w2 ⟨rfl, hb⟩
  rw [show ((0 : Int) != 0 || decide (0 < 0)) = false from rfl]
  have H3 : Hid (DB w (.slice fo (n + 1) fc) (.slice uo tl tc) (.slice wo wl wc) w2 ∧ w2.heap[B]? = some (.cells #[.int .i64 0, .slice po 0 pc] 46)) := ⟨H2.out.1.keep hb, (hb.block _ (lt_of_get H2.out.2)).trans H2.out.2⟩
  clear hb
  obtain ⟨c0, c1, c2⟩ := box3 H3.out.1.box
  have cs := lt_of_get H3.out.1.box
  go_wp2_with fail
  refine (HND.out w2).mono ?_
  rintro e w3 ⟨rfl, hb⟩
  have H4 : Hid (DB w (.slice fo (n + 1) fc) (.slice uo tl tc) (.slice wo wl wc) w3 ∧ w3.heap[B]? = some (.cells #[.int .i64 0, .slice po 0 pc] 46)) := ⟨H3.out.1.keep hb, (hb.block _ (lt_of_get H3.out.2)).trans H3.out.2⟩
  clear hb c0 c1 c2 cs
  obtain ⟨e0, e1, _, _⟩ := cell_two H4.out.2
  have es := lt_of_get H4.out.2
  obtain ⟨d0, d1, x0, x1⟩ := cell_two H4.out.1.res
  have ds := lt_of_get H4.out.1.res
  go_wp2
  refine bodyPost_ret (v := .agg #[.int .i64 0, .slice po 0 pc]) (by simp [results, Try.results31, go_sem, d0, d1]) rfl ?_
  exact ⟨po, pc, rfl, ⟨po, pc, rfl, fun j p hj => by simp at hj⟩, (show Below w.heap.size w (lay2 w3 (w.heap.size + 1) (.int .i64 0) (.slice po 0 pc)) from lay2_below H4.out.1.below (by omega))⟩

set_option maxRecDepth 100000 in
set_option maxHeartbeats 4000000 in
theorem node8_no (hn : n ≤ 65536) (hv : ¬ (0 ≤ v ∧ v < (n : Int))) (hD : ∀ wx, Below w.heap.size w wx → Calls Try.prog 19 #[.agg #[.slice fo (n + 1) fc, .slice uo tl tc, .slice wo wl wc]] wx (DocAns wx (0, []))) :
    Calls Try.prog 31 #[.agg #[.slice fo (n + 1) fc, .slice uo tl tc, .slice wo wl wc], .int .i64 v] w (DocAns w (7, [])) := by
  have HDB : Hid (type_of% (DB.made w (.slice fo (n + 1) fc) (.slice uo tl tc) (.slice wo wl wc))) := DB.made w (.slice fo (n + 1) fc) (.slice uo tl tc) (.slice wo wl wc)
  have HDC : Hid (type_of% hD) := hD
  have HND : Hid (∀ wx, Calls Try.prog 34 #[.agg #[.slice fo (n + 1) fc, .slice uo tl tc, .slice wo wl wc], .int .i64 v] wx fun e w' => e = .returned (.bool false) ∧ Below wx.heap.size wx w') := fun wx => by
    have h := rNode_calls fo uo wo n fc tl tc wl wc (by omega) v wx
    rw [decide_eq_false hv] at h
    exact h
  clear hD hv
  go_enter Try.func31, Try.ntmps31
  go_wp2_with fail
  generalize (w.alloc (.cells #[.slice fo (n + 1) fc, .slice uo tl tc, .slice wo wl wc] 24)).alloc (.cells #[.int .i64 0, .slice none 0 0] 46) = W0 at *
  refine (HDC.out W0 HDB.out.below).mono ?_
  rintro e w1 ⟨po, pc, rfl, hP, hb⟩
  have H1 : Hid (type_of% (HDB.out.keep hb)) := HDB.out.keep hb
  clear hb hP
  go_wp2_with fail
  have H2 : Hid (DB w (.slice fo (n + 1) fc) (.slice uo tl tc) (.slice wo wl wc) (w1.alloc (.cells #[.int .i64 0, .slice po 0 pc] 46)) ∧ (w1.alloc (.cells #[.int .i64 0, .slice po 0 pc] 46)).heap[w1.heap.size]? = some (.cells #[.int .i64 0, .slice po 0 pc] 46)) := ⟨H1.out.keep (below1 _ _), heap_new _ _⟩
  have hbn : w.heap.size + 1 < w1.heap.size := lt_of_get H1.out.res
  generalize w1.alloc (.cells #[.int .i64 0, .slice po 0 pc] 46) = W1 at *
  generalize w1.heap.size = B at *
  refine (bad_calls 0 po 0 pc W1).mono ?_
  rintro e w2 ⟨rfl, hb⟩
  rw [show ((0 : Int) != 0 || decide (0 < 0)) = false from rfl]
  have H3 : Hid (DB w (.slice fo (n + 1) fc) (.slice uo tl tc) (.slice wo wl wc) w2 ∧ w2.heap[B]? = some (.cells #[.int .i64 0, .slice po 0 pc] 46)) := ⟨H2.out.1.keep hb, (hb.block _ (lt_of_get H2.out.2)).trans H2.out.2⟩
  clear hb
  obtain ⟨c0, c1, c2⟩ := box3 H3.out.1.box
  have cs := lt_of_get H3.out.1.box
  go_wp2_with fail
  refine (HND.out w2).mono ?_
  rintro e w3 ⟨rfl, hb⟩
  have H4 : Hid (DB w (.slice fo (n + 1) fc) (.slice uo tl tc) (.slice wo wl wc) w3 ∧ w3.heap[B]? = some (.cells #[.int .i64 0, .slice po 0 pc] 46)) := ⟨H3.out.1.keep hb, (hb.block _ (lt_of_get H3.out.2)).trans H3.out.2⟩
  clear hb c0 c1 c2 cs
  go_wp2_with fail
  refine (E_calls 7 w3).mono ?_
  rintro e w4 ⟨rfl, hb⟩
  have H5 : Hid (DB w (.slice fo (n + 1) fc) (.slice uo tl tc) (.slice wo wl wc) w4 ∧ w4.heap[B]? = some (.cells #[.int .i64 0, .slice po 0 pc] 46)) := ⟨H4.out.1.keep hb, (hb.block _ (lt_of_get H4.out.2)).trans H4.out.2⟩
  clear hb
  obtain ⟨e0, e1, z0, z1⟩ := cell_two H5.out.2
  have es := lt_of_get H5.out.2
  obtain ⟨d0, d1, x0, x1⟩ := cell_two H5.out.1.res
  have ds := lt_of_get H5.out.1.res
  have n1 : ¬ B = w.heap.size + 1 := by omega
  have n3 : ¬ w.heap.size + 1 = B := by omega
  have HB6 : Hid (Below w.heap.size w (lay2 (lay2 w4 B (.int .i64 7) (.slice none 0 0)) (w.heap.size + 1) (.int .i64 7) (.slice none 0 0))) := lay2_below (lay2_below H5.out.1.below (by omega)) (by omega)
  go_wp2
  refine bodyPost_ret (v := .agg #[.int .i64 7, .slice none 0 0]) (by simp [results, Try.results31, go_sem, d0, d1]) rfl ?_
  exact ⟨none, 0, rfl, places_nil _, HB6.out⟩
end
end Go.Proofs.Ytnkfggccahohpab
