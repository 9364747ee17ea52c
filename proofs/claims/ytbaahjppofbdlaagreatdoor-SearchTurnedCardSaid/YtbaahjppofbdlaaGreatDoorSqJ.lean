/- what DocRow answers; boxes beside rows of arcs. viaductref05.DocRow, by what DocCheck tells. viaductref05.DocFind, by what DocRow answers. -/
import Derived.Test.YtbaahjppofbdlaaGreatDoorSqN
namespace Go.Proofs.YtbaahjppofbdlaaGreatDoor
open Go.RowKit Go.Extern

section
variable {W : World} {b : Nat} {c0 c1 x : Value} {T : TypeId}
theorem lay2_own {y : Value} {B k : Nat} {v : Value} {xs : List Value} (h : W.ownsRow B 61 3 v k xs) (hb : W.heap[b]? = some (.cells #[x, y] T)) (hT : T ≠ 61) : (lay2 W b c0 c1).ownsRow B 61 3 v k xs := own_far h hb hT (fun _ hg => lay2_far hg) (Nat.le_refl _)
end
theorem badF : ((0 : Int) != 0 || decide (0 < ([] : List (Int × Int)).length)) = false := rfl
/-- what DocRow answers. -/
def RAns (w : World) (l : List (Int × Int × Int)) (E : Int × List (Int × Int)) (e : Ending) (w' : World) : Prop := ∃ lo lc po pc, e = .returned (.tuple #[.slice lo l.length lc, .agg #[.int .i64 E.1, .slice po E.2.length pc]]) ∧ w'.ownsRow w.heap.size 61 3 (.slice lo l.length lc) l.length (flatC l) ∧ HasPlaces w' (.slice po E.2.length pc) E.2 ∧ Below w.heap.size w w'
end Go.Proofs.YtbaahjppofbdlaaGreatDoor

namespace Go.Proofs.YtbaahjppofbdlaaGreatDoor
open Go.RowKit Go.Extern

attribute [local go_sem] Oper.semAt_some

section
variable (fo uo wo : Option Addr) (n fl fc tl tc wl wc : Nat) (w : World) (v : Int)

set_option maxRecDepth 100000 in
set_option maxHeartbeats 4000000 in
theorem docRow_bad (C : Int) (ps : List (Int × Int)) (hC : C ≠ 0) (hD : ∀ wx, Below w.heap.size w wx → Calls Tryz.prog 85 #[.agg #[.slice fo fl fc, .slice uo tl tc, .slice wo wl wc]] wx (DocAns wx (C, ps))) :
    Calls Tryz.prog 68 #[.agg #[.slice fo fl fc, .slice uo tl tc, .slice wo wl wc], .int .i64 v] w (RAns w [] (C, ps)) := by
  have HDB : Hid (type_of% (DB.made w (.slice fo fl fc) (.slice uo tl tc) (.slice wo wl wc))) := DB.made w (.slice fo fl fc) (.slice uo tl tc) (.slice wo wl wc)
  have HDC : Hid (type_of% hD) := hD
  have HBT : Hid (∀ l, (C != 0 || decide (0 < l)) = true) := fun l => badT hC l
  clear hD
  go_enter Tryz.func68, Tryz.ntmps68
  go_wp2_with fail
  generalize (w.alloc (.cells #[.slice fo fl fc, .slice uo tl tc, .slice wo wl wc] 55)).alloc (.cells #[.int .i64 0, .slice none 0 0] 51) = W0 at *
  refine (HDC.out W0 HDB.out.below).mono ?_
  rintro e w1 ⟨po, pc, rfl, hP, hb⟩
  simp only at hP
  have H1 : Hid (DB w (.slice fo fl fc) (.slice uo tl tc) (.slice wo wl wc) w1 ∧ HasPlaces w1 (.slice po ps.length pc) ps) := ⟨HDB.out.keep hb, hP⟩
  clear hb hP
  go_wp2_with fail
  have H2 : Hid (DB w (.slice fo fl fc) (.slice uo tl tc) (.slice wo wl wc) (w1.alloc (.cells #[.int .i64 C, .slice po ps.length pc] 51)) ∧ HasPlaces (w1.alloc (.cells #[.int .i64 C, .slice po ps.length pc] 51)) (.slice po ps.length pc) ps ∧ (w1.alloc (.cells #[.int .i64 C, .slice po ps.length pc] 51)).heap[w1.heap.size]? = some (.cells #[.int .i64 C, .slice po ps.length pc] 51)) := ⟨H1.out.1.keep (below1 _ _), H1.out.2.keep (below1 _ _), heap_new _ _⟩
  have hbn : w.heap.size + 1 < w1.heap.size := lt_of_get H1.out.1.res
  generalize w1.alloc (.cells #[.int .i64 C, .slice po ps.length pc] 51) = W1 at *
  generalize w1.heap.size = B at *
  refine (bad_calls C po ps.length pc W1).mono ?_
  rw [HBT.out]
  rintro e w2 ⟨rfl, hb⟩
  have H3 : Hid (DB w (.slice fo fl fc) (.slice uo tl tc) (.slice wo wl wc) w2 ∧ HasPlaces w2 (.slice po ps.length pc) ps ∧ w2.heap[B]? = some (.cells #[.int .i64 C, .slice po ps.length pc] 51)) := ⟨H2.out.1.keep hb, H2.out.2.1.keep hb, (hb.block _ (lt_of_get H2.out.2.2)).trans H2.out.2.2⟩
  clear hb
  obtain ⟨e0, e1, _, _⟩ := cell_two H3.out.2.2
  have es := lt_of_get H3.out.2.2
  go_wp2_with fail
  refine (bad_calls C po ps.length pc w2).mono ?_
  rw [HBT.out]
  rintro e w3 ⟨rfl, hb⟩
  have H4 : Hid (DB w (.slice fo fl fc) (.slice uo tl tc) (.slice wo wl wc) w3 ∧ HasPlaces w3 (.slice po ps.length pc) ps ∧ w3.heap[B]? = some (.cells #[.int .i64 C, .slice po ps.length pc] 51)) := ⟨H3.out.1.keep hb, H3.out.2.1.keep hb, (hb.block _ (lt_of_get H3.out.2.2)).trans H3.out.2.2⟩
  clear hb e0 e1 es
  obtain ⟨e0, e1, _, _⟩ := cell_two H4.out.2.2
  have es := lt_of_get H4.out.2.2
  obtain ⟨d0, d1, x0, x1⟩ := cell_two H4.out.1.res
  have ds := lt_of_get H4.out.1.res
  have n1 : ¬ B = w.heap.size + 1 := by omega
  have n3 : ¬ w.heap.size + 1 = B := by omega
  go_wp2_with fail
  go_region_held (fun w' => w'.cell? ⟨B, 0, none⟩ = some (.int .i64 C) ∧ w'.cell? ⟨B, 1, none⟩ = some (.slice po ps.length pc)) (go_keep) (first | fail)
  all_goals
    go_wp2
    refine bodyPost_ret (v := .tuple #[.slice none 0 0, .agg #[.int .i64 C, .slice po ps.length pc]]) (by simp [results, Tryz.results68, go_sem, d0, d1]) rfl ?_
    exact ⟨none, 0, po, pc, rfl, World.ownsRow_nil _ _ _ _, (show HasPlaces (lay2 w3 (w.heap.size + 1) (.int .i64 C) (.slice po ps.length pc)) (.slice po ps.length pc) ps from lay2_places H4.out.2.1 H4.out.1.res), (show Below w.heap.size w (lay2 w3 (w.heap.size + 1) (.int .i64 C) (.slice po ps.length pc)) from lay2_below H4.out.1.below (by omega)).drew⟩

set_option maxRecDepth 100000 in
set_option maxHeartbeats 4000000 in
theorem docRow_node (hn : n ≤ 65536) (hv : ¬ (0 ≤ v ∧ v < (n : Int))) (hD : ∀ wx, Below w.heap.size w wx → Calls Tryz.prog 85 #[.agg #[.slice fo (n + 1) fc, .slice uo tl tc, .slice wo wl wc]] wx (DocAns wx (0, []))) :
    Calls Tryz.prog 68 #[.agg #[.slice fo (n + 1) fc, .slice uo tl tc, .slice wo wl wc], .int .i64 v] w (RAns w [] (7, [])) := by
  have HDB : Hid (type_of% (DB.made w (.slice fo (n + 1) fc) (.slice uo tl tc) (.slice wo wl wc))) := DB.made w (.slice fo (n + 1) fc) (.slice uo tl tc) (.slice wo wl wc)
  have HDC : Hid (type_of% hD) := hD
  have HND : Hid (∀ wx, Calls Tryz.prog 33 #[.agg #[.slice fo (n + 1) fc, .slice uo tl tc, .slice wo wl wc], .int .i64 v] wx fun e w' => e = .returned (.bool false) ∧ Below wx.heap.size wx w') := fun wx => by
    have h := rNode_calls fo uo wo n fc tl tc wl wc (by omega) v wx
    rw [decide_eq_false hv] at h
    exact h
  clear hD hv
  go_enter Tryz.func68, Tryz.ntmps68
  go_wp2_with fail
  generalize (w.alloc (.cells #[.slice fo (n + 1) fc, .slice uo tl tc, .slice wo wl wc] 55)).alloc (.cells #[.int .i64 0, .slice none 0 0] 51) = W0 at *
  refine (HDC.out W0 HDB.out.below).mono ?_
  rintro e w1 ⟨po, pc, rfl, hP, hb⟩
  have H1 : Hid (type_of% (HDB.out.keep hb)) := HDB.out.keep hb
  clear hb hP
  go_wp2_with fail
  have H2 : Hid (DB w (.slice fo (n + 1) fc) (.slice uo tl tc) (.slice wo wl wc) (w1.alloc (.cells #[.int .i64 0, .slice po 0 pc] 51)) ∧ (w1.alloc (.cells #[.int .i64 0, .slice po 0 pc] 51)).heap[w1.heap.size]? = some (.cells #[.int .i64 0, .slice po 0 pc] 51)) := ⟨H1.out.keep (below1 _ _), heap_new _ _⟩
  have hbn : w.heap.size + 1 < w1.heap.size := lt_of_get H1.out.res
  generalize w1.alloc (.cells #[.int .i64 0, .slice po 0 pc] 51) = W1 at *
  generalize w1.heap.size = B at *
  refine (bad_calls 0 po 0 pc W1).mono ?_
  rintro e w2 ⟨rfl, hb⟩
  have H3 : Hid (DB w (.slice fo (n + 1) fc) (.slice uo tl tc) (.slice wo wl wc) w2 ∧ w2.heap[B]? = some (.cells #[.int .i64 0, .slice po 0 pc] 51)) := ⟨H2.out.1.keep hb, (hb.block _ (lt_of_get H2.out.2)).trans H2.out.2⟩
  clear hb
  rw [show ((0 : Int) != 0 || decide (0 < 0)) = false from rfl]
  obtain ⟨c0, c1, c2⟩ := box3 H3.out.1.box
  have cs := lt_of_get H3.out.1.box
  go_wp2_with fail
  refine (HND.out w2).mono ?_
  rintro e w3 ⟨rfl, hb⟩
  have H4 : Hid (DB w (.slice fo (n + 1) fc) (.slice uo tl tc) (.slice wo wl wc) w3 ∧ w3.heap[B]? = some (.cells #[.int .i64 0, .slice po 0 pc] 51)) := ⟨H3.out.1.keep hb, (hb.block _ (lt_of_get H3.out.2)).trans H3.out.2⟩
  clear hb c0 c1 c2 cs
  go_wp2_with fail
  refine (E_calls 7 w3).mono ?_
  rintro e w4 ⟨rfl, hb⟩
  have H5 : Hid (DB w (.slice fo (n + 1) fc) (.slice uo tl tc) (.slice wo wl wc) w4 ∧ w4.heap[B]? = some (.cells #[.int .i64 0, .slice po 0 pc] 51)) := ⟨H4.out.1.keep hb, (hb.block _ (lt_of_get H4.out.2)).trans H4.out.2⟩
  clear hb
  obtain ⟨e0, e1, z0, z1⟩ := cell_two H5.out.2
  have es := lt_of_get H5.out.2
  go_wp2_with fail
  have H6 : Hid (DB w (.slice fo (n + 1) fc) (.slice uo tl tc) (.slice wo wl wc) (lay2 w4 B (.int .i64 7) (.slice none 0 0)) ∧ (lay2 w4 B (.int .i64 7) (.slice none 0 0)).heap[B]? = some (.cells #[.int .i64 7, .slice none 0 0] 51)) := ⟨⟨lay2_below H5.out.1.below (by omega), (lay2_far (by omega)).trans H5.out.1.box, (lay2_far (by omega)).trans H5.out.1.res⟩, lay2_box H5.out.2⟩
  rw [show (w4.setCell ⟨B, 0, none⟩ (.int .i64 7)).setCell ⟨B, 1, none⟩ (.slice none 0 0) = lay2 w4 B (.int .i64 7) (.slice none 0 0) from rfl]
  generalize lay2 w4 B (.int .i64 7) (.slice none 0 0) = W5 at *
  clear e0 e1 z0 z1 es
  refine (bad_calls 7 none 0 0 W5).mono ?_
  rintro e w6 ⟨rfl, hb⟩
  rw [show ((7 : Int) != 0 || decide (0 < 0)) = true from rfl]
  have H7 : Hid (DB w (.slice fo (n + 1) fc) (.slice uo tl tc) (.slice wo wl wc) w6 ∧ w6.heap[B]? = some (.cells #[.int .i64 7, .slice none 0 0] 51)) := ⟨H6.out.1.keep hb, (hb.block _ (lt_of_get H6.out.2)).trans H6.out.2⟩
  clear hb
  obtain ⟨e0, e1, _, _⟩ := cell_two H7.out.2
  have es := lt_of_get H7.out.2
  obtain ⟨d0, d1, x0, x1⟩ := cell_two H7.out.1.res
  have ds := lt_of_get H7.out.1.res
  have n1 : ¬ B = w.heap.size + 1 := by omega
  have n3 : ¬ w.heap.size + 1 = B := by omega
  go_wp2_with fail
  go_region_held (fun w' => w'.cell? ⟨B, 0, none⟩ = some (.int .i64 7) ∧ w'.cell? ⟨B, 1, none⟩ = some (.slice none 0 0)) (go_keep) (first | fail)
  all_goals
    go_wp2
    refine bodyPost_ret (v := .tuple #[.slice none 0 0, .agg #[.int .i64 7, .slice none 0 0]]) (by simp [results, Tryz.results68, go_sem, d0, d1]) rfl ?_
    exact ⟨none, 0, none, 0, rfl, World.ownsRow_nil _ _ _ _, places_nil _, (show Below w.heap.size w (lay2 w6 (w.heap.size + 1) (.int .i64 7) (.slice none 0 0)) from lay2_below H7.out.1.below (by omega)).drew⟩

set_option maxRecDepth 100000 in
set_option maxHeartbeats 4000000 in
theorem docRow_good (l : List (Int × Int × Int)) (hn : n ≤ 65536) (hv : 0 ≤ v ∧ v < (n : Int)) (hD : ∀ wx, Below w.heap.size w wx → Calls Tryz.prog 85 #[.agg #[.slice fo (n + 1) fc, .slice uo tl tc, .slice wo wl wc]] wx (DocAns wx (0, [])))
    (hR : ∀ wx, Below w.heap.size w wx → Calls Tryz.prog 86 #[.agg #[.slice fo (n + 1) fc, .slice uo tl tc, .slice wo wl wc], .int .i64 v] wx fun e w' => ∃ lo lc, e = .returned (.slice lo l.length lc) ∧ w'.ownsRow wx.heap.size 61 3 (.slice lo l.length lc) l.length (flatC l) ∧ Below wx.heap.size wx w') :
    Calls Tryz.prog 68 #[.agg #[.slice fo (n + 1) fc, .slice uo tl tc, .slice wo wl wc], .int .i64 v] w (RAns w l (0, [])) := by
  have HDB : Hid (type_of% (DB.made w (.slice fo (n + 1) fc) (.slice uo tl tc) (.slice wo wl wc))) := DB.made w (.slice fo (n + 1) fc) (.slice uo tl tc) (.slice wo wl wc)
  have HDC : Hid (type_of% hD) := hD
  have HRW : Hid (type_of% hR) := hR
  have HND : Hid (∀ wx, Calls Tryz.prog 33 #[.agg #[.slice fo (n + 1) fc, .slice uo tl tc, .slice wo wl wc], .int .i64 v] wx fun e w' => e = .returned (.bool true) ∧ Below wx.heap.size wx w') := fun wx => by
    have h := rNode_calls fo uo wo n fc tl tc wl wc (by omega) v wx
    rw [decide_eq_true hv] at h
    exact h
  clear hD hv hR
  go_enter Tryz.func68, Tryz.ntmps68
  go_wp2_with fail
  generalize (w.alloc (.cells #[.slice fo (n + 1) fc, .slice uo tl tc, .slice wo wl wc] 55)).alloc (.cells #[.int .i64 0, .slice none 0 0] 51) = W0 at *
  refine (HDC.out W0 HDB.out.below).mono ?_
  rintro e w1 ⟨po, pc, rfl, hP, hb⟩
  have H1 : Hid (type_of% (HDB.out.keep hb)) := HDB.out.keep hb
  clear hb hP
  go_wp2_with fail
  have H2 : Hid (DB w (.slice fo (n + 1) fc) (.slice uo tl tc) (.slice wo wl wc) (w1.alloc (.cells #[.int .i64 0, .slice po 0 pc] 51)) ∧ (w1.alloc (.cells #[.int .i64 0, .slice po 0 pc] 51)).heap[w1.heap.size]? = some (.cells #[.int .i64 0, .slice po 0 pc] 51)) := ⟨H1.out.keep (below1 _ _), heap_new _ _⟩
  have hbn : w.heap.size + 1 < w1.heap.size := lt_of_get H1.out.res
  generalize w1.alloc (.cells #[.int .i64 0, .slice po 0 pc] 51) = W1 at *
  generalize w1.heap.size = B at *
  refine (bad_calls 0 po 0 pc W1).mono ?_
  rintro e w2 ⟨rfl, hb⟩
  have H3 : Hid (DB w (.slice fo (n + 1) fc) (.slice uo tl tc) (.slice wo wl wc) w2 ∧ w2.heap[B]? = some (.cells #[.int .i64 0, .slice po 0 pc] 51)) := ⟨H2.out.1.keep hb, (hb.block _ (lt_of_get H2.out.2)).trans H2.out.2⟩
  clear hb
  rw [show ((0 : Int) != 0 || decide (0 < 0)) = false from rfl]
  obtain ⟨c0, c1, c2⟩ := box3 H3.out.1.box
  have cs := lt_of_get H3.out.1.box
  go_wp2_with fail
  refine (HND.out w2).mono ?_
  rintro e w3 ⟨rfl, hb⟩
  have H4 : Hid (DB w (.slice fo (n + 1) fc) (.slice uo tl tc) (.slice wo wl wc) w3 ∧ w3.heap[B]? = some (.cells #[.int .i64 0, .slice po 0 pc] 51)) := ⟨H3.out.1.keep hb, (hb.block _ (lt_of_get H3.out.2)).trans H3.out.2⟩
  clear hb c0 c1 c2 cs
  obtain ⟨e0, e1, _, _⟩ := cell_two H4.out.2
  have es := lt_of_get H4.out.2
  go_wp2_with fail
  refine (bad_calls 0 po 0 pc w3).mono ?_
  rintro e w4 ⟨rfl, hb⟩
  rw [show ((0 : Int) != 0 || decide (0 < 0)) = false from rfl]
  have HK : Hid (∀ wx, Below w4.heap.size w4 wx → ((wx.cell? ⟨w.heap.size, 0, none⟩ = some (.slice fo (n + 1) fc) ∧ wx.cell? ⟨w.heap.size, 1, none⟩ = some (.slice uo tl tc) ∧ wx.cell? ⟨w.heap.size, 2, none⟩ = some (.slice wo wl wc)) ∧ (wx.cell? ⟨B, 0, none⟩ = some (.int .i64 0) ∧ wx.cell? ⟨B, 1, none⟩ = some (.slice po 0 pc)) ∧ (wx.cell? ⟨w.heap.size + 1, 0, none⟩ = some (.int .i64 0) ∧ wx.cell? ⟨w.heap.size + 1, 1, none⟩ = some (.slice none 0 0) ∧ wx.frozen? ⟨w.heap.size + 1, 0, none⟩ = false ∧ wx.frozen? ⟨w.heap.size + 1, 1, none⟩ = false) ∧ w.heap.size < wx.heap.size ∧ B < wx.heap.size ∧ w.heap.size + 1 < wx.heap.size) ∧ DB w (.slice fo (n + 1) fc) (.slice uo tl tc) (.slice wo wl wc) wx) := fun wx hx => by
    have hbb := btr hb hx
    have g := H4.out.1.keep hbb
    have g2 := (hbb.block _ (lt_of_get H4.out.2)).trans H4.out.2
    exact ⟨⟨box3 g.box, ⟨(cell_two g2).1, (cell_two g2).2.1⟩, cell_two g.res, lt_of_get g.box, lt_of_get g2, lt_of_get g.res⟩, g⟩
  clear hb e0 e1 es
  obtain ⟨⟨⟨c0, c1, c2⟩, ⟨e0, e1⟩, ⟨d0, d1, x0, x1⟩, cs, es, ds⟩, _⟩ := HK.out w4 (Below.refl _ _)
  have n1 : ¬ B = w.heap.size + 1 := by omega
  have n3 : ¬ w.heap.size + 1 = B := by omega
  go_wp2_with fail
  go_region_held3 (fun w' => (w'.cell? ⟨w.heap.size, 0, none⟩ = some (.slice fo (n + 1) fc) ∧ w'.cell? ⟨w.heap.size, 1, none⟩ = some (.slice uo tl tc) ∧ w'.cell? ⟨w.heap.size, 2, none⟩ = some (.slice wo wl wc)) ∧ w'.cell? ⟨B, 0, none⟩ = some (.int .i64 0) ∧ w'.cell? ⟨B, 1, none⟩ = some (.slice po 0 pc)) (go_keep) (first
    | (go_at_call 86; refine (HRW.out _ (HK.out w4 (Below.refl _ _)).2.below.drew).mono ?_; rintro e w5 ⟨lo, lc, rfl, ho, hb⟩; have H5 : Hid (Below w4.heap.size w4 w5 ∧ w5.ownsRow w4.heap.size 61 3 (.slice lo l.length lc) l.length (flatC l)) := ⟨(Below.refl _ w4).drew.trans hb, ho⟩; clear hb ho; clear c0 c1 c2 e0 e1 d0 d1 x0 x1 cs es ds; obtain ⟨⟨⟨c0, c1, c2⟩, ⟨e0, e1⟩, ⟨d0, d1, x0, x1⟩, cs, es, ds⟩, _⟩ := HK.out w5 H5.out.1))
  all_goals
    go_wp2
    refine bodyPost_ret (v := .tuple #[.slice lo l.length lc, .agg #[.int .i64 0, .slice po 0 pc]]) (by simp [results, Tryz.results68, go_sem, d0, d1]) rfl ?_
    have hg := (HK.out w5 H5.out.1).2
    exact ⟨lo, lc, po, pc, rfl, (show (lay2 w5 (w.heap.size + 1) (.int .i64 0) (.slice po 0 pc)).ownsRow w.heap.size 61 3 (.slice lo l.length lc) l.length (flatC l) from lay2_own (own_base H5.out.2 (by have := H4.out.1.below.size; have := (HK.out w4 (Below.refl _ _)).2.below.size; omega)) hg.res (by decide)), ⟨po, pc, rfl, fun j p hj => by simp at hj⟩, (show Below w.heap.size w (lay2 w5 (w.heap.size + 1) (.int .i64 0) (.slice po 0 pc)) from lay2_below hg.below (by omega))⟩
end
end Go.Proofs.YtbaahjppofbdlaaGreatDoor

namespace Go.Proofs.YtbaahjppofbdlaaGreatDoor
open Go.RowKit Go.Extern

attribute [local go_sem] Oper.semAt_some

/-- what DocFind answers. -/
def FAns (w : World) (r : Int) (E : Int × List (Int × Int)) (e : Ending) (w' : World) : Prop := ∃ po pc, e = .returned (.tuple #[.int .i64 r, .agg #[.int .i64 E.1, .slice po E.2.length pc]]) ∧ HasPlaces w' (.slice po E.2.length pc) E.2 ∧ Below w.heap.size w w'

section
variable (fo uo wo : Option Addr) (n fl fc tl tc wl wc : Nat) (w : World) (v u : Int)

set_option maxRecDepth 100000 in
set_option maxHeartbeats 4000000 in
theorem docFind_bad (C : Int) (ps : List (Int × Int)) (hC : C ≠ 0) (hD : ∀ wx, Below w.heap.size w wx → Calls Tryz.prog 68 #[.agg #[.slice fo fl fc, .slice uo tl tc, .slice wo wl wc], .int .i64 v] wx (RAns wx [] (C, ps))) :
    Calls Tryz.prog 34 #[.agg #[.slice fo fl fc, .slice uo tl tc, .slice wo wl wc], .int .i64 v, .int .i64 u] w (FAns w 0 (C, ps)) := by
  have HDB : Hid (type_of% (DB.made w (.slice fo fl fc) (.slice uo tl tc) (.slice wo wl wc))) := DB.made w (.slice fo fl fc) (.slice uo tl tc) (.slice wo wl wc)
  have HDC : Hid (type_of% hD) := hD
  have HBT : Hid (∀ l, (C != 0 || decide (0 < l)) = true) := fun l => badT hC l
  clear hD
  go_enter Tryz.func34, Tryz.ntmps34
  go_wp2_with fail
  generalize (w.alloc (.cells #[.slice fo fl fc, .slice uo tl tc, .slice wo wl wc] 55)).alloc (.cells #[.int .i64 0, .slice none 0 0] 51) = W0 at *
  refine (HDC.out W0 HDB.out.below).mono ?_
  rintro e w1 ⟨lo, lc, po, pc, rfl, _, hP, hb⟩
  simp only at hP
  have H1 : Hid (DB w (.slice fo fl fc) (.slice uo tl tc) (.slice wo wl wc) w1 ∧ HasPlaces w1 (.slice po ps.length pc) ps) := ⟨HDB.out.keep hb, hP⟩
  clear hb hP
  go_wp2_with fail
  have H2 : Hid (DB w (.slice fo fl fc) (.slice uo tl tc) (.slice wo wl wc) (w1.alloc (.cells #[.int .i64 C, .slice po ps.length pc] 51)) ∧ HasPlaces (w1.alloc (.cells #[.int .i64 C, .slice po ps.length pc] 51)) (.slice po ps.length pc) ps ∧ (w1.alloc (.cells #[.int .i64 C, .slice po ps.length pc] 51)).heap[w1.heap.size]? = some (.cells #[.int .i64 C, .slice po ps.length pc] 51)) := ⟨H1.out.1.keep (below1 _ _), H1.out.2.keep (below1 _ _), heap_new _ _⟩
  have hbn : w.heap.size + 1 < w1.heap.size := lt_of_get H1.out.1.res
  generalize w1.alloc (.cells #[.int .i64 C, .slice po ps.length pc] 51) = W1 at *
  generalize w1.heap.size = B at *
  refine (bad_calls C po ps.length pc W1).mono ?_
  rw [HBT.out]
  rintro e w2 ⟨rfl, hb⟩
  have H3 : Hid (DB w (.slice fo fl fc) (.slice uo tl tc) (.slice wo wl wc) w2 ∧ HasPlaces w2 (.slice po ps.length pc) ps ∧ w2.heap[B]? = some (.cells #[.int .i64 C, .slice po ps.length pc] 51)) := ⟨H2.out.1.keep hb, H2.out.2.1.keep hb, (hb.block _ (lt_of_get H2.out.2.2)).trans H2.out.2.2⟩
  clear hb
  obtain ⟨e0, e1, _, _⟩ := cell_two H3.out.2.2
  have es := lt_of_get H3.out.2.2
  go_wp2_with fail
  refine (bad_calls C po ps.length pc w2).mono ?_
  rw [HBT.out]
  rintro e w3 ⟨rfl, hb⟩
  have H4 : Hid (DB w (.slice fo fl fc) (.slice uo tl tc) (.slice wo wl wc) w3 ∧ HasPlaces w3 (.slice po ps.length pc) ps ∧ w3.heap[B]? = some (.cells #[.int .i64 C, .slice po ps.length pc] 51)) := ⟨H3.out.1.keep hb, H3.out.2.1.keep hb, (hb.block _ (lt_of_get H3.out.2.2)).trans H3.out.2.2⟩
  clear hb e0 e1 es
  obtain ⟨e0, e1, _, _⟩ := cell_two H4.out.2.2
  have es := lt_of_get H4.out.2.2
  obtain ⟨d0, d1, x0, x1⟩ := cell_two H4.out.1.res
  have ds := lt_of_get H4.out.1.res
  have n1 : ¬ B = w.heap.size + 1 := by omega
  have n3 : ¬ w.heap.size + 1 = B := by omega
  go_wp2_with fail
  go_region_held (fun w' => w'.cell? ⟨B, 0, none⟩ = some (.int .i64 C) ∧ w'.cell? ⟨B, 1, none⟩ = some (.slice po ps.length pc)) (go_keep) (first | fail)
  all_goals
    go_wp2
    refine bodyPost_ret (v := .tuple #[.int .i64 0, .agg #[.int .i64 C, .slice po ps.length pc]]) (by simp [results, Tryz.results34, go_sem, d0, d1]) rfl ?_
    exact ⟨po, pc, rfl, (show HasPlaces (lay2 w3 (w.heap.size + 1) (.int .i64 C) (.slice po ps.length pc)) (.slice po ps.length pc) ps from lay2_places H4.out.2.1 H4.out.1.res), (show Below w.heap.size w (lay2 w3 (w.heap.size + 1) (.int .i64 C) (.slice po ps.length pc)) from lay2_below H4.out.1.below (by omega)).drew⟩

set_option maxRecDepth 100000 in
set_option maxHeartbeats 4000000 in
theorem docFind_node (l : List (Int × Int × Int)) (hn : n ≤ 65536) (hv : ¬ (0 ≤ u ∧ u < (n : Int))) (hD : ∀ wx, Below w.heap.size w wx → Calls Tryz.prog 68 #[.agg #[.slice fo (n + 1) fc, .slice uo tl tc, .slice wo wl wc], .int .i64 v] wx (RAns wx l (0, []))) :
    Calls Tryz.prog 34 #[.agg #[.slice fo (n + 1) fc, .slice uo tl tc, .slice wo wl wc], .int .i64 v, .int .i64 u] w (FAns w 0 (7, [])) := by
  have HDB : Hid (type_of% (DB.made w (.slice fo (n + 1) fc) (.slice uo tl tc) (.slice wo wl wc))) := DB.made w (.slice fo (n + 1) fc) (.slice uo tl tc) (.slice wo wl wc)
  have HDC : Hid (type_of% hD) := hD
  have HND : Hid (∀ wx, Calls Tryz.prog 33 #[.agg #[.slice fo (n + 1) fc, .slice uo tl tc, .slice wo wl wc], .int .i64 u] wx fun e w' => e = .returned (.bool false) ∧ Below wx.heap.size wx w') := fun wx => by
    have h := rNode_calls fo uo wo n fc tl tc wl wc (by omega) u wx
    rw [decide_eq_false hv] at h
    exact h
  clear hD hv
  go_enter Tryz.func34, Tryz.ntmps34
  go_wp2_with fail
  generalize (w.alloc (.cells #[.slice fo (n + 1) fc, .slice uo tl tc, .slice wo wl wc] 55)).alloc (.cells #[.int .i64 0, .slice none 0 0] 51) = W0 at *
  refine (HDC.out W0 HDB.out.below).mono ?_
  rintro e w1 ⟨lo, lc, po, pc, rfl, _, hP, hb⟩
  have H1 : Hid (type_of% (HDB.out.keep hb)) := HDB.out.keep hb
  clear hb hP
  go_wp2_with fail
  have H2 : Hid (DB w (.slice fo (n + 1) fc) (.slice uo tl tc) (.slice wo wl wc) (w1.alloc (.cells #[.int .i64 0, .slice po 0 pc] 51)) ∧ (w1.alloc (.cells #[.int .i64 0, .slice po 0 pc] 51)).heap[w1.heap.size]? = some (.cells #[.int .i64 0, .slice po 0 pc] 51)) := ⟨H1.out.keep (below1 _ _), heap_new _ _⟩
  have hbn : w.heap.size + 1 < w1.heap.size := lt_of_get H1.out.res
  generalize w1.alloc (.cells #[.int .i64 0, .slice po 0 pc] 51) = W1 at *
  generalize w1.heap.size = B at *
  refine (bad_calls 0 po 0 pc W1).mono ?_
  rintro e w2 ⟨rfl, hb⟩
  have H3 : Hid (DB w (.slice fo (n + 1) fc) (.slice uo tl tc) (.slice wo wl wc) w2 ∧ w2.heap[B]? = some (.cells #[.int .i64 0, .slice po 0 pc] 51)) := ⟨H2.out.1.keep hb, (hb.block _ (lt_of_get H2.out.2)).trans H2.out.2⟩
  clear hb
  rw [show ((0 : Int) != 0 || decide (0 < 0)) = false from rfl]
  obtain ⟨c0, c1, c2⟩ := box3 H3.out.1.box
  have cs := lt_of_get H3.out.1.box
  go_wp2_with fail
  refine (HND.out w2).mono ?_
  rintro e w3 ⟨rfl, hb⟩
  have H4 : Hid (DB w (.slice fo (n + 1) fc) (.slice uo tl tc) (.slice wo wl wc) w3 ∧ w3.heap[B]? = some (.cells #[.int .i64 0, .slice po 0 pc] 51)) := ⟨H3.out.1.keep hb, (hb.block _ (lt_of_get H3.out.2)).trans H3.out.2⟩
  clear hb c0 c1 c2 cs
  go_wp2_with fail
  refine (E_calls 7 w3).mono ?_
  rintro e w4 ⟨rfl, hb⟩
  have H5 : Hid (DB w (.slice fo (n + 1) fc) (.slice uo tl tc) (.slice wo wl wc) w4 ∧ w4.heap[B]? = some (.cells #[.int .i64 0, .slice po 0 pc] 51)) := ⟨H4.out.1.keep hb, (hb.block _ (lt_of_get H4.out.2)).trans H4.out.2⟩
  clear hb
  obtain ⟨e0, e1, z0, z1⟩ := cell_two H5.out.2
  have es := lt_of_get H5.out.2
  go_wp2_with fail
  have H6 : Hid (DB w (.slice fo (n + 1) fc) (.slice uo tl tc) (.slice wo wl wc) (lay2 w4 B (.int .i64 7) (.slice none 0 0)) ∧ (lay2 w4 B (.int .i64 7) (.slice none 0 0)).heap[B]? = some (.cells #[.int .i64 7, .slice none 0 0] 51)) := ⟨⟨lay2_below H5.out.1.below (by omega), (lay2_far (by omega)).trans H5.out.1.box, (lay2_far (by omega)).trans H5.out.1.res⟩, lay2_box H5.out.2⟩
  rw [show (w4.setCell ⟨B, 0, none⟩ (.int .i64 7)).setCell ⟨B, 1, none⟩ (.slice none 0 0) = lay2 w4 B (.int .i64 7) (.slice none 0 0) from rfl]
  generalize lay2 w4 B (.int .i64 7) (.slice none 0 0) = W5 at *
  clear e0 e1 z0 z1 es
  refine (bad_calls 7 none 0 0 W5).mono ?_
  rintro e w6 ⟨rfl, hb⟩
  rw [show ((7 : Int) != 0 || decide (0 < 0)) = true from rfl]
  have H7 : Hid (DB w (.slice fo (n + 1) fc) (.slice uo tl tc) (.slice wo wl wc) w6 ∧ w6.heap[B]? = some (.cells #[.int .i64 7, .slice none 0 0] 51)) := ⟨H6.out.1.keep hb, (hb.block _ (lt_of_get H6.out.2)).trans H6.out.2⟩
  clear hb
  obtain ⟨e0, e1, _, _⟩ := cell_two H7.out.2
  have es := lt_of_get H7.out.2
  obtain ⟨d0, d1, x0, x1⟩ := cell_two H7.out.1.res
  have ds := lt_of_get H7.out.1.res
  have n1 : ¬ B = w.heap.size + 1 := by omega
  have n3 : ¬ w.heap.size + 1 = B := by omega
  go_wp2_with fail
  go_region_held (fun w' => w'.cell? ⟨B, 0, none⟩ = some (.int .i64 7) ∧ w'.cell? ⟨B, 1, none⟩ = some (.slice none 0 0)) (go_keep) (first | fail)
  all_goals
    go_wp2
    refine bodyPost_ret (v := .tuple #[.int .i64 0, .agg #[.int .i64 7, .slice none 0 0]]) (by simp [results, Tryz.results34, go_sem, d0, d1]) rfl ?_
    exact ⟨none, 0, rfl, places_nil _, (show Below w.heap.size w (lay2 w6 (w.heap.size + 1) (.int .i64 7) (.slice none 0 0)) from lay2_below H7.out.1.below (by omega)).drew⟩

set_option maxRecDepth 100000 in
set_option maxHeartbeats 4000000 in
theorem docFind_go (l : List (Int × Int × Int)) (hn : n ≤ 65536) (hm : l.length ≤ 262144) (hv : 0 ≤ u ∧ u < (n : Int)) (r : Int) (E : Int × List (Int × Int))
    (hE : (∃ k a, l[k]? = some a ∧ a.2.1 = u ∧ r = a.2.2 ∧ (∀ (j : Nat) b, j < k → l[j]? = some b → b.2.1 ≠ u) ∧ E = (0, [])) ∨ ((∀ (j : Nat) b, l[j]? = some b → b.2.1 ≠ u) ∧ r = 0 ∧ E = (16, [])))
    (hD : ∀ wx, Below w.heap.size w wx → Calls Tryz.prog 68 #[.agg #[.slice fo (n + 1) fc, .slice uo tl tc, .slice wo wl wc], .int .i64 v] wx (RAns wx l (0, []))) :
    Calls Tryz.prog 34 #[.agg #[.slice fo (n + 1) fc, .slice uo tl tc, .slice wo wl wc], .int .i64 v, .int .i64 u] w (FAns w r E) := by
  have HDB : Hid (type_of% (DB.made w (.slice fo (n + 1) fc) (.slice uo tl tc) (.slice wo wl wc))) := DB.made w (.slice fo (n + 1) fc) (.slice uo tl tc) (.slice wo wl wc)
  have HDC : Hid (type_of% hD) := hD
  have HEE : Hid (type_of% hE) := hE
  have HND : Hid (∀ wx, Calls Tryz.prog 33 #[.agg #[.slice fo (n + 1) fc, .slice uo tl tc, .slice wo wl wc], .int .i64 u] wx fun e w' => e = .returned (.bool true) ∧ Below wx.heap.size wx w') := fun wx => by
    have h := rNode_calls fo uo wo n fc tl tc wl wc (by omega) u wx
    rw [decide_eq_true hv] at h
    exact h
  clear hD hv hE
  go_enter Tryz.func34, Tryz.ntmps34
  go_wp2_with fail
  generalize (w.alloc (.cells #[.slice fo (n + 1) fc, .slice uo tl tc, .slice wo wl wc] 55)).alloc (.cells #[.int .i64 0, .slice none 0 0] 51) = W0 at *
  refine (HDC.out W0 HDB.out.below).mono ?_
  rintro e w1 ⟨lo, lc, po, pc, rfl, ho, hP, hb⟩
  have H1 : Hid (DB w (.slice fo (n + 1) fc) (.slice uo tl tc) (.slice wo wl wc) w1 ∧ HasArcs w1 (.slice lo l.length lc) l) := ⟨HDB.out.keep hb, arcs_of_rowC ho⟩
  clear hb hP ho
  go_wp2_with fail
  have H2 : Hid (DB w (.slice fo (n + 1) fc) (.slice uo tl tc) (.slice wo wl wc) (w1.alloc (.cells #[.int .i64 0, .slice po 0 pc] 51)) ∧ HasArcs (w1.alloc (.cells #[.int .i64 0, .slice po 0 pc] 51)) (.slice lo l.length lc) l ∧ (w1.alloc (.cells #[.int .i64 0, .slice po 0 pc] 51)).heap[w1.heap.size]? = some (.cells #[.int .i64 0, .slice po 0 pc] 51)) := ⟨H1.out.1.keep (below1 _ _), H1.out.2.keep (below1 _ _), heap_new _ _⟩
  have hbn : w.heap.size + 1 < w1.heap.size := lt_of_get H1.out.1.res
  generalize w1.alloc (.cells #[.int .i64 0, .slice po 0 pc] 51) = W1 at *
  generalize w1.heap.size = B at *
  refine (bad_calls 0 po 0 pc W1).mono ?_
  rintro e w2 ⟨rfl, hb⟩
  have H3 : Hid (DB w (.slice fo (n + 1) fc) (.slice uo tl tc) (.slice wo wl wc) w2 ∧ HasArcs w2 (.slice lo l.length lc) l ∧ w2.heap[B]? = some (.cells #[.int .i64 0, .slice po 0 pc] 51)) := ⟨H2.out.1.keep hb, H2.out.2.1.keep hb, (hb.block _ (lt_of_get H2.out.2.2)).trans H2.out.2.2⟩
  clear hb
  rw [show ((0 : Int) != 0 || decide (0 < 0)) = false from rfl]
  obtain ⟨c0, c1, c2⟩ := box3 H3.out.1.box
  have cs := lt_of_get H3.out.1.box
  go_wp2_with fail
  refine (HND.out w2).mono ?_
  rintro e w3 ⟨rfl, hb⟩
  have H4 : Hid (DB w (.slice fo (n + 1) fc) (.slice uo tl tc) (.slice wo wl wc) w3 ∧ HasArcs w3 (.slice lo l.length lc) l ∧ w3.heap[B]? = some (.cells #[.int .i64 0, .slice po 0 pc] 51)) := ⟨H3.out.1.keep hb, H3.out.2.1.keep hb, (hb.block _ (lt_of_get H3.out.2.2)).trans H3.out.2.2⟩
  clear hb c0 c1 c2 cs
  obtain ⟨e0, e1, _, _⟩ := cell_two H4.out.2.2
  have es := lt_of_get H4.out.2.2
  go_wp2_with fail
  refine (bad_calls 0 po 0 pc w3).mono ?_
  rintro e w4 ⟨rfl, hb⟩
  rw [show ((0 : Int) != 0 || decide (0 < 0)) = false from rfl]
  have H5 : Hid (DB w (.slice fo (n + 1) fc) (.slice uo tl tc) (.slice wo wl wc) w4 ∧ HasArcs w4 (.slice lo l.length lc) l ∧ w4.heap[B]? = some (.cells #[.int .i64 0, .slice po 0 pc] 51)) := ⟨H4.out.1.keep hb, H4.out.2.1.keep hb, (hb.block _ (lt_of_get H4.out.2.2)).trans H4.out.2.2⟩
  clear hb e0 e1 es
  go_wp2_with fail
  go_loopw [33] (fun nv wr => ∃ k : Nat, k ≤ l.length ∧ nv = .int .i64 k ∧ (∀ (j : Nat) b, j < k → l[j]? = some b → b.2.1 ≠ u) ∧ DB w (.slice fo (n + 1) fc) (.slice uo tl tc) (.slice wo wl wc) wr ∧ HasArcs wr (.slice lo l.length lc) l ∧ wr.heap[B]? = some (.cells #[.int .i64 0, .slice po 0 pc] 51)) (fun nv _ => l.length - (intOf nv).toNat)
  case atStart => exact ⟨0, Nat.zero_le _, rfl, (fun j b hj => by omega), H5.out.1, H5.out.2.1, H5.out.2.2⟩
  case round =>
    obtain ⟨k, hk, rfl, hno, hD, hA, hB⟩ := hrel
    have HNO : Hid (type_of% hno) := hno
    have HR : Hid (DB w (.slice fo (n + 1) fc) (.slice uo tl tc) (.slice wo wl wc) wr ∧ HasArcs wr (.slice lo l.length lc) l ∧ wr.heap[B]? = some (.cells #[.int .i64 0, .slice po 0 pc] 51)) := ⟨hD, hA, hB⟩
    clear hno hD hB
    by_cases hlt : k < l.length
    · obtain ⟨a, ha⟩ : ∃ a, l[k]? = some a := ⟨l[k], List.getElem?_eq_getElem hlt⟩
      obtain ⟨b, off, hlo, hbl, q0, q1, q2⟩ := hA.at ha
      subst hlo
      have HA : Hid (l[k]? = some a) := ha
      have i1 : (k : Int) < (l.length : Int) := by omega
      have i2 : (0 : Int) ≤ (k : Int) := by omega
      have HR2 : Hid (∀ o, DB w (.slice fo (n + 1) fc) (.slice uo tl tc) (.slice wo wl wc) (wr.alloc o) ∧ HasArcs (wr.alloc o) (.slice (some ⟨b, off, none⟩) l.length lc) l ∧ (wr.alloc o).heap[B]? = some (.cells #[.int .i64 0, .slice po 0 pc] 51)) := fun o => ⟨HR.out.1.keep (below1 _ _), HR.out.2.1.keep (below1 _ _), ((below1 wr o).block _ (lt_of_get HR.out.2.2)).trans HR.out.2.2⟩
      obtain ⟨a0, a1, a2⟩ := a
      simp only at q0 q1 q2
      clear ha hA
      by_cases hau : a1 = u
      · have HEQ : Hid (r = a2 ∧ E = (0, [])) := by
          rcases HEE.out with ⟨k', a', h1, h2, h3, h4, h5⟩ | ⟨h1, _, _⟩
          · rcases Nat.lt_trichotomy k k' with h | h | h
            · exact absurd hau (h4 k _ h HA.out)
            · subst h
              have := Option.some.inj (HA.out.symm.trans h1)
              subst this
              exact ⟨h3, h5⟩
            · exact absurd h2 (HNO.out k' _ h h1)
          · exact absurd hau (h1 k _ HA.out)
        obtain ⟨hr, hEq⟩ := HEQ.out
        have HEQ2 : Hid (E = (0, [])) := hEq
        have hr2 := hr.symm
        subst hr2 hau
        clear HEQ hEq hr
        go_wp2_with fail
        generalize hY : wr.alloc (.cells #[.int .i64 a0, .int .i64 a1, .int .i64 a2] 61) = Y at *
        have HY : Hid (DB w (.slice fo (n + 1) fc) (.slice uo tl tc) (.slice wo wl wc) Y ∧ Y.heap[B]? = some (.cells #[.int .i64 0, .slice po 0 pc] 51) ∧ Y.heap[wr.heap.size]? = some (.cells #[.int .i64 a0, .int .i64 a1, .int .i64 a2] 61) ∧ B < wr.heap.size) := by
          have h := HR2.out (.cells #[.int .i64 a0, .int .i64 a1, .int .i64 a2] 61)
          rw [hY] at h
          exact ⟨h.1, h.2.2, by rw [← hY]; exact heap_new _ _, lt_of_get HR.out.2.2⟩
        clear hY HR2 HR q0 q1 q2
        generalize wr.heap.size = A at *
        obtain ⟨e0, e1, _, _⟩ := cell_two HY.out.2.1
        have es := lt_of_get HY.out.2.1
        obtain ⟨b0, b1, b2⟩ := box3 HY.out.2.2.1
        have bs := lt_of_get HY.out.2.2.1
        obtain ⟨d0, d1, x0, x1⟩ := cell_two HY.out.1.res
        have ds := lt_of_get HY.out.1.res
        have hAB := HY.out.2.2.2
        have n1 : ¬ B = w.heap.size + 1 := by omega
        have n3 : ¬ w.heap.size + 1 = B := by omega
        have n5 : ¬ A = w.heap.size + 1 := by omega
        have n6 : ¬ w.heap.size + 1 = A := by omega
        go_region_held (fun w' => w'.cell? ⟨A, 2, none⟩ = some (.int .i64 a2) ∧ w'.cell? ⟨B, 0, none⟩ = some (.int .i64 0) ∧ w'.cell? ⟨B, 1, none⟩ = some (.slice po 0 pc)) (go_keep) (first | fail)
        all_goals
          go_wp2
          refine bodyPost_ret (v := .tuple #[.int .i64 a2, .agg #[.int .i64 0, .slice po 0 pc]]) (by simp [results, Tryz.results34, go_sem, d0, d1]) rfl ?_
          rw [HEQ2.out]
          exact ⟨po, pc, rfl, ⟨po, pc, rfl, fun j p hj => by simp at hj⟩, (show Below w.heap.size w (lay2 Y (w.heap.size + 1) (.int .i64 0) (.slice po 0 pc)) from lay2_below HY.out.1.below (by omega)).drew⟩
      · have HNK : Hid (∀ (j : Nat) b, j < k + 1 → l[j]? = some b → b.2.1 ≠ u) := fun j b' hj hb' => by
          rcases Nat.lt_or_ge j k with h' | h'
          · exact HNO.out j b' h' hb'
          · obtain rfl : j = k := by omega
            obtain rfl := Option.some.inj (HA.out.symm.trans hb')
            exact hau
        go_wp2
        go_roundw
        case rel => exact ⟨k + 1, by omega, by go_num, HNK.out, HR2.out _⟩
        case measure => simp [intOf]; omega
    · obtain ⟨hr, hEq⟩ : r = 0 ∧ E = (16, []) := by
        rcases HEE.out with ⟨k', a', h1, h2, _⟩ | ⟨_, h1, h2⟩
        · exact absurd h2 (HNO.out k' _ (by have := (List.getElem?_eq_some_iff.1 h1).1; omega) h1)
        · exact ⟨h1, h2⟩
      have HEQ2 : Hid (E = (16, [])) := hEq
      subst hr
      clear hEq
      go_wp2_with fail
      refine (E_calls 16 _).mono ?_
      rintro e w6 ⟨rfl, hb⟩
      have H6 : Hid (type_of% (HR.out.1.keep hb)) := HR.out.1.keep hb
      clear hb
      obtain ⟨d0, d1, x0, x1⟩ := cell_two H6.out.res
      have ds := lt_of_get H6.out.res
      go_wp2
      refine bodyPost_ret (v := .tuple #[.int .i64 0, .agg #[.int .i64 16, .slice none 0 0]]) (by simp [results, Tryz.results34, go_sem, d0, d1]) rfl ?_
      rw [HEQ2.out]
      exact ⟨none, 0, rfl, places_nil _, (show Below w.heap.size w (lay2 w6 (w.heap.size + 1) (.int .i64 16) (.slice none 0 0)) from lay2_below H6.out.below (by omega))⟩
end
end Go.Proofs.YtbaahjppofbdlaaGreatDoor
