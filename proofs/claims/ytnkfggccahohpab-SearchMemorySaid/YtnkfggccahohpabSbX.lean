/- viaductref08.DocPath. search.Path where arrays or nodes are wrong. -/
import Derived.Test.YtnkfggccahohpabSqF
import Derived.Test.YtnkfggccahohpabSqJ
import Derived.Test.YtnkfggccahohpabSqE
import Derived.Test.YtnkfggccahohpabSpA
namespace Go.Proofs.Ytnkfggccahohpab
open Go.RowKit Go.Extern

attribute [local go_sem] Oper.semAt_some

/-- what DocPath answers. -/
def QAns (w : World) (r : Int) (E : Int × List (Int × Int)) (e : Ending) (w' : World) : Prop := ∃ po pc, e = .returned (.tuple #[.int .u64 r, .agg #[.int .i64 E.1, .slice po E.2.length pc]]) ∧ HasPlaces w' (.slice po E.2.length pc) E.2 ∧ Below w.heap.size w w'

section
variable (fo uo wo : Option Addr) (n fl fc tl tc wl wc : Nat) (w : World) (v u : Int)

set_option maxRecDepth 100000 in
set_option maxHeartbeats 4000000 in
theorem docPath_bad (C : Int) (ps : List (Int × Int)) (hC : C ≠ 0) (hD : ∀ wx, Below w.heap.size w wx → Calls Try.prog 31 #[.agg #[.slice fo fl fc, .slice uo tl tc, .slice wo wl wc], .int .i64 v] wx (DocAns wx (C, ps))) :
    Calls Try.prog 14 #[.agg #[.slice fo fl fc, .slice uo tl tc, .slice wo wl wc], .int .i64 v, .int .i64 u] w (QAns w 0 (C, ps)) := by
  have HDB : Hid (type_of% (DB.made w (.slice fo fl fc) (.slice uo tl tc) (.slice wo wl wc))) := DB.made w (.slice fo fl fc) (.slice uo tl tc) (.slice wo wl wc)
  have HDC : Hid (type_of% hD) := hD
  have HBT : Hid (∀ l, (C != 0 || decide (0 < l)) = true) := fun l => badT hC l
  clear hD
  go_enter Try.func14, Try.ntmps14
  go_wp2_with fail
  generalize (w.alloc (.cells #[.slice fo fl fc, .slice uo tl tc, .slice wo wl wc] 24)).alloc (.cells #[.int .i64 0, .slice none 0 0] 46) = W0 at *
  refine (HDC.out W0 HDB.out.below).mono ?_
  rintro e w1 ⟨po, pc, rfl, hP, hb⟩
  simp only at hP
  have H1 : Hid (DB w (.slice fo fl fc) (.slice uo tl tc) (.slice wo wl wc) w1 ∧ HasPlaces w1 (.slice po ps.length pc) ps) := ⟨HDB.out.keep hb, hP⟩
  clear hb hP
  go_wp2_with fail
  have H2 : Hid (DB w (.slice fo fl fc) (.slice uo tl tc) (.slice wo wl wc) (w1.alloc (.cells #[.int .i64 C, .slice po ps.length pc] 46)) ∧ HasPlaces (w1.alloc (.cells #[.int .i64 C, .slice po ps.length pc] 46)) (.slice po ps.length pc) ps ∧ (w1.alloc (.cells #[.int .i64 C, .slice po ps.length pc] 46)).heap[w1.heap.size]? = some (.cells #[.int .i64 C, .slice po ps.length pc] 46)) := ⟨H1.out.1.keep (below1 _ _), H1.out.2.keep (below1 _ _), heap_new _ _⟩
  have hbn : w.heap.size + 1 < w1.heap.size := lt_of_get H1.out.1.res
  generalize w1.alloc (.cells #[.int .i64 C, .slice po ps.length pc] 46) = W1 at *
  generalize w1.heap.size = B at *
  refine (bad_calls C po ps.length pc W1).mono ?_
  rw [HBT.out]
  rintro e w2 ⟨rfl, hb⟩
  have H3 : Hid (DB w (.slice fo fl fc) (.slice uo tl tc) (.slice wo wl wc) w2 ∧ HasPlaces w2 (.slice po ps.length pc) ps ∧ w2.heap[B]? = some (.cells #[.int .i64 C, .slice po ps.length pc] 46)) := ⟨H2.out.1.keep hb, H2.out.2.1.keep hb, (hb.block _ (lt_of_get H2.out.2.2)).trans H2.out.2.2⟩
  clear hb
  obtain ⟨e0, e1, _, _⟩ := cell_two H3.out.2.2
  have es := lt_of_get H3.out.2.2
  go_wp2_with fail
  refine (bad_calls C po ps.length pc w2).mono ?_
  rw [HBT.out]
  rintro e w3 ⟨rfl, hb⟩
  have H4 : Hid (DB w (.slice fo fl fc) (.slice uo tl tc) (.slice wo wl wc) w3 ∧ HasPlaces w3 (.slice po ps.length pc) ps ∧ w3.heap[B]? = some (.cells #[.int .i64 C, .slice po ps.length pc] 46)) := ⟨H3.out.1.keep hb, H3.out.2.1.keep hb, (hb.block _ (lt_of_get H3.out.2.2)).trans H3.out.2.2⟩
  clear hb e0 e1 es
  obtain ⟨e0, e1, _, _⟩ := cell_two H4.out.2.2
  have es := lt_of_get H4.out.2.2
  obtain ⟨d0, d1, x0, x1⟩ := cell_two H4.out.1.res
  have ds := lt_of_get H4.out.1.res
  have n1 : ¬ B = w.heap.size + 1 := by omega
  have n3 : ¬ w.heap.size + 1 = B := by omega
  go_wp2_with fail
  go_region_held (fun w' => w'.cell? ⟨B, 0, none⟩ = some (.int .i64 C) ∧ w'.cell? ⟨B, 1, none⟩ = some (.slice po ps.length pc)) (go_keep) (first | fail)
  all_goals
    go_wp2
    refine bodyPost_ret (v := .tuple #[.int .u64 0, .agg #[.int .i64 C, .slice po ps.length pc]]) (by simp [results, Try.results14, go_sem, d0, d1]) rfl ?_
    exact ⟨po, pc, rfl, (show HasPlaces (lay2 w3 (w.heap.size + 1) (.int .i64 C) (.slice po ps.length pc)) (.slice po ps.length pc) ps from lay2_places H4.out.2.1 H4.out.1.res), (show Below w.heap.size w (lay2 w3 (w.heap.size + 1) (.int .i64 C) (.slice po ps.length pc)) from lay2_below H4.out.1.below (by omega)).drew⟩

set_option maxRecDepth 100000 in
set_option maxHeartbeats 4000000 in
theorem docPath_node (hn : n ≤ 65536) (hv : ¬ (0 ≤ u ∧ u < (n : Int))) (hD : ∀ wx, Below w.heap.size w wx → Calls Try.prog 31 #[.agg #[.slice fo (n + 1) fc, .slice uo tl tc, .slice wo wl wc], .int .i64 v] wx (DocAns wx (0, []))) :
    Calls Try.prog 14 #[.agg #[.slice fo (n + 1) fc, .slice uo tl tc, .slice wo wl wc], .int .i64 v, .int .i64 u] w (QAns w 0 (7, [])) := by
  have HDB : Hid (type_of% (DB.made w (.slice fo (n + 1) fc) (.slice uo tl tc) (.slice wo wl wc))) := DB.made w (.slice fo (n + 1) fc) (.slice uo tl tc) (.slice wo wl wc)
  have HDC : Hid (type_of% hD) := hD
  have HND : Hid (∀ wx, Calls Try.prog 34 #[.agg #[.slice fo (n + 1) fc, .slice uo tl tc, .slice wo wl wc], .int .i64 u] wx fun e w' => e = .returned (.bool false) ∧ Below wx.heap.size wx w') := fun wx => by
    have h := rNode_calls fo uo wo n fc tl tc wl wc (by omega) u wx
    rw [decide_eq_false hv] at h
    exact h
  clear hD hv
  go_enter Try.func14, Try.ntmps14
  go_wp2_with fail
  generalize (w.alloc (.cells #[.slice fo (n + 1) fc, .slice uo tl tc, .slice wo wl wc] 24)).alloc (.cells #[.int .i64 0, .slice none 0 0] 46) = W0 at *
  refine (HDC.out W0 HDB.out.below).mono ?_
  rintro e w1 ⟨po, pc, rfl, hP, hb⟩
  have H1 : Hid (type_of% (HDB.out.keep hb)) := HDB.out.keep hb
  clear hb hP
  go_wp2_with fail
  have H2 : Hid (DB w (.slice fo (n + 1) fc) (.slice uo tl tc) (.slice wo wl wc) (w1.alloc (.cells #[.int .i64 0, .slice po 0 pc] 46)) ∧ (w1.alloc (.cells #[.int .i64 0, .slice po 0 pc] 46)).heap[w1.heap.size]? = some (.cells #[.int .i64 0, .slice po 0 pc] 46)) := ⟨H1.out.keep (below1 _ _), heap_new _ _⟩
  have hbn : w.heap.size + 1 < w1.heap.size := lt_of_get H1.out.res
  generalize w1.alloc (.cells #[.int .i64 0, .slice po 0 pc] 46) = W1 at *
  generalize w1.heap.size = B at *
  refine (bad_calls 0 po 0 pc W1).mono ?_
  rintro e w2 ⟨rfl, hb⟩
  have H3 : Hid (DB w (.slice fo (n + 1) fc) (.slice uo tl tc) (.slice wo wl wc) w2 ∧ w2.heap[B]? = some (.cells #[.int .i64 0, .slice po 0 pc] 46)) := ⟨H2.out.1.keep hb, (hb.block _ (lt_of_get H2.out.2)).trans H2.out.2⟩
  clear hb
  rw [show ((0 : Int) != 0 || decide (0 < 0)) = false from rfl]
  obtain ⟨c0, c1, c2⟩ := box3 H3.out.1.box
  have cs := lt_of_get H3.out.1.box
  go_wp2_with fail
  refine (HND.out w2).mono ?_
  rintro e w3 ⟨rfl, hb⟩
  have H4 : Hid (DB w (.slice fo (n + 1) fc) (.slice uo tl tc) (.slice wo wl wc) w3 ∧ w3.heap[B]? = some (.cells #[.int .i64 0, .slice po 0 pc] 46)) := ⟨H3.out.1.keep hb, (hb.block _ (lt_of_get H3.out.2)).trans H3.out.2⟩
  clear hb c0 c1 c2 cs
  go_wp2_with fail
  refine (E_calls 7 w3).mono ?_
  rintro e w4 ⟨rfl, hb⟩
  have H5 : Hid (DB w (.slice fo (n + 1) fc) (.slice uo tl tc) (.slice wo wl wc) w4 ∧ w4.heap[B]? = some (.cells #[.int .i64 0, .slice po 0 pc] 46)) := ⟨H4.out.1.keep hb, (hb.block _ (lt_of_get H4.out.2)).trans H4.out.2⟩
  clear hb
  obtain ⟨e0, e1, z0, z1⟩ := cell_two H5.out.2
  have es := lt_of_get H5.out.2
  go_wp2_with fail
  have H6 : Hid (DB w (.slice fo (n + 1) fc) (.slice uo tl tc) (.slice wo wl wc) (lay2 w4 B (.int .i64 7) (.slice none 0 0)) ∧ (lay2 w4 B (.int .i64 7) (.slice none 0 0)).heap[B]? = some (.cells #[.int .i64 7, .slice none 0 0] 46)) := ⟨⟨lay2_below H5.out.1.below (by omega), (lay2_far (by omega)).trans H5.out.1.box, (lay2_far (by omega)).trans H5.out.1.res⟩, lay2_box H5.out.2⟩
  rw [show (w4.setCell ⟨B, 0, none⟩ (.int .i64 7)).setCell ⟨B, 1, none⟩ (.slice none 0 0) = lay2 w4 B (.int .i64 7) (.slice none 0 0) from rfl]
  generalize lay2 w4 B (.int .i64 7) (.slice none 0 0) = W5 at *
  clear e0 e1 z0 z1 es
  refine (bad_calls 7 none 0 0 W5).mono ?_
  rintro e w6 ⟨rfl, hb⟩
  rw [show ((7 : Int) != 0 || decide (0 < 0)) = true from rfl]
  have H7 : Hid (DB w (.slice fo (n + 1) fc) (.slice uo tl tc) (.slice wo wl wc) w6 ∧ w6.heap[B]? = some (.cells #[.int .i64 7, .slice none 0 0] 46)) := ⟨H6.out.1.keep hb, (hb.block _ (lt_of_get H6.out.2)).trans H6.out.2⟩
  clear hb
  obtain ⟨e0, e1, _, _⟩ := cell_two H7.out.2
  have es := lt_of_get H7.out.2
  obtain ⟨d0, d1, x0, x1⟩ := cell_two H7.out.1.res
  have ds := lt_of_get H7.out.1.res
  have n1 : ¬ B = w.heap.size + 1 := by omega
  have n3 : ¬ w.heap.size + 1 = B := by omega
  go_wp2_with fail
  go_region_held (fun w' => w'.cell? ⟨B, 0, none⟩ = some (.int .i64 7) ∧ w'.cell? ⟨B, 1, none⟩ = some (.slice none 0 0)) (go_keep) (first | fail)
  all_goals
    go_wp2
    refine bodyPost_ret (v := .tuple #[.int .u64 0, .agg #[.int .i64 7, .slice none 0 0]]) (by simp [results, Try.results14, go_sem, d0, d1]) rfl ?_
    exact ⟨none, 0, rfl, places_nil _, (show Below w.heap.size w (lay2 w6 (w.heap.size + 1) (.int .i64 7) (.slice none 0 0)) from lay2_below H7.out.1.below (by omega)).drew⟩

end

set_option maxRecDepth 100000 in
set_option maxHeartbeats 4000000 in
theorem docPath_go (n : Nat) (zs : List (Int × Int × Int)) (fo uo wo : Option Addr) (fc tc wc : Nat) (w : World) (hz : Fine n zs) (h : CsrIn w n zs fo uo wo fc tc wc) (s t : Nat) (hs : s < n) (ht : t < n) (hD : ∀ wx, Below w.heap.size w wx → Calls Try.prog 31 #[.agg #[.slice fo (n + 1) fc, .slice uo zs.length tc, .slice wo zs.length wc], .int .i64 s] wx (DocAns wx (0, []))) :
    Calls Try.prog 14 #[.agg #[.slice fo (n + 1) fc, .slice uo zs.length tc, .slice wo zs.length wc], .int .i64 s, .int .i64 t] w fun e w' => ∃ D d, (IsDist n zs s D ∧ D[t]? = some d) ∧ ((d = 18446744073709551615 ∧ QAns w 0 (16, []) e w') ∨ (d ≠ 18446744073709551615 ∧ QAns w d (0, []) e w')) := by
  have HDB : Hid (type_of% (DB.made w (.slice fo (n + 1) fc) (.slice uo zs.length tc) (.slice wo zs.length wc))) := DB.made w (.slice fo (n + 1) fc) (.slice uo zs.length tc) (.slice wo zs.length wc)
  have HDC : Hid (type_of% hD) := hD
  have HND : Hid (∀ wx, Calls Try.prog 34 #[.agg #[.slice fo (n + 1) fc, .slice uo zs.length tc, .slice wo zs.length wc], .int .i64 t] wx fun e w' => e = .returned (.bool true) ∧ Below wx.heap.size wx w') := fun wx => by
    have h := rNode_calls fo uo wo n fc zs.length tc zs.length wc (by have := hz.few; omega) t wx
    rw [decide_eq_true (by omega)] at h
    exact h
  have HFR : Hid (∀ wx, Below w.heap.size w wx → Calls Try.prog 32 #[.agg #[.slice fo (n + 1) fc, .slice uo zs.length tc, .slice wo zs.length wc], .int .i64 s] wx fun e w' => ∃ db D d, e = .returned (.slice (some ⟨db, 0, none⟩) n n) ∧ (w'.cell? ⟨db, t, none⟩ = some (.int .u64 d) ∧ db < w'.heap.size) ∧ (IsDist n zs s D ∧ D[t]? = some d) ∧ Below wx.heap.size wx w') := fun wx hwx => by
    refine (rFrom_calls n zs fo uo wo fc tc wc wx hz (h.keep hwx) s hs).mono ?_
    rintro e w' ⟨db, D, he, hD', hU, hb⟩
    obtain ⟨d, hd, _⟩ := hD'.2 t ht
    exact ⟨db, D, d, he, ⟨(hU.at hd).1, (hU.at hd).2.1⟩, ⟨hD', hd⟩, hb⟩
  have i1 : (t : Int) < (n : Int) := by omega
  have i2 : (0 : Int) ≤ (t : Int) := by omega
  have hn := hz.few
  clear hD h hz
  go_enter Try.func14, Try.ntmps14
  go_wp2_with fail
  generalize (w.alloc (.cells #[.slice fo (n + 1) fc, .slice uo zs.length tc, .slice wo zs.length wc] 24)).alloc (.cells #[.int .i64 0, .slice none 0 0] 46) = W0 at *
  refine (HDC.out W0 HDB.out.below).mono ?_
  rintro e w1 ⟨po, pc, rfl, hP, hb⟩
  have H1 : Hid (type_of% (HDB.out.keep hb)) := HDB.out.keep hb
  clear hb hP
  go_wp2_with fail
  have H2 : Hid (DB w (.slice fo (n + 1) fc) (.slice uo zs.length tc) (.slice wo zs.length wc) (w1.alloc (.cells #[.int .i64 0, .slice po 0 pc] 46)) ∧ (w1.alloc (.cells #[.int .i64 0, .slice po 0 pc] 46)).heap[w1.heap.size]? = some (.cells #[.int .i64 0, .slice po 0 pc] 46)) := ⟨H1.out.keep (below1 _ _), heap_new _ _⟩
  have hbn : w.heap.size + 1 < w1.heap.size := lt_of_get H1.out.res
  generalize w1.alloc (.cells #[.int .i64 0, .slice po 0 pc] 46) = W1 at *
  generalize w1.heap.size = B at *
  refine (bad_calls 0 po 0 pc W1).mono ?_
  rintro e w2 ⟨rfl, hb⟩
  rw [show ((0 : Int) != 0 || decide (0 < 0)) = false from rfl]
  have H3 : Hid (DB w (.slice fo (n + 1) fc) (.slice uo zs.length tc) (.slice wo zs.length wc) w2 ∧ w2.heap[B]? = some (.cells #[.int .i64 0, .slice po 0 pc] 46)) := ⟨H2.out.1.keep hb, (hb.block _ (lt_of_get H2.out.2)).trans H2.out.2⟩
  clear hb
  obtain ⟨c0, c1, c2⟩ := box3 H3.out.1.box
  have cs := lt_of_get H3.out.1.box
  go_wp2_with fail
  refine (HND.out w2).mono ?_
  rintro e w3 ⟨rfl, hb⟩
  have H4 : Hid (DB w (.slice fo (n + 1) fc) (.slice uo zs.length tc) (.slice wo zs.length wc) w3 ∧ w3.heap[B]? = some (.cells #[.int .i64 0, .slice po 0 pc] 46)) := ⟨H3.out.1.keep hb, (hb.block _ (lt_of_get H3.out.2)).trans H3.out.2⟩
  clear hb c0 c1 c2 cs
  obtain ⟨e0, e1, _, _⟩ := cell_two H4.out.2
  have es := lt_of_get H4.out.2
  go_wp2_with fail
  refine (bad_calls 0 po 0 pc w3).mono ?_
  rintro e w4 ⟨rfl, hb⟩
  rw [show ((0 : Int) != 0 || decide (0 < 0)) = false from rfl]
  have H5 : Hid (DB w (.slice fo (n + 1) fc) (.slice uo zs.length tc) (.slice wo zs.length wc) w4 ∧ w4.heap[B]? = some (.cells #[.int .i64 0, .slice po 0 pc] 46)) := ⟨H4.out.1.keep hb, (hb.block _ (lt_of_get H4.out.2)).trans H4.out.2⟩
  clear hb e0 e1 es
  obtain ⟨c0, c1, c2⟩ := box3 H5.out.1.box
  have cs := lt_of_get H5.out.1.box
  go_wp2_with fail
  refine (HFR.out w4 H5.out.1.below).mono ?_
  rintro e w5 ⟨db, D, d, rfl, ⟨k0, kl⟩, hi, hb⟩
  have HI : Hid (IsDist n zs s D ∧ D[t]? = some d) := hi
  clear hi
  have H6 : Hid (DB w (.slice fo (n + 1) fc) (.slice uo zs.length tc) (.slice wo zs.length wc) w5 ∧ w5.heap[B]? = some (.cells #[.int .i64 0, .slice po 0 pc] 46)) := ⟨H5.out.1.keep hb, (hb.block _ (lt_of_get H5.out.2)).trans H5.out.2⟩
  clear hb c0 c1 c2 cs
  by_cases hf : d = 18446744073709551615
  · have HF : Hid (d = 18446744073709551615) := hf
    have hf' : (d == 18446744073709551615) = true := by rw [hf]; rfl
    clear hf
    go_wp2_with fail
    refine (E_calls 16 w5).mono ?_
    rintro e w6 ⟨rfl, hb⟩
    have H7 : Hid (DB w (.slice fo (n + 1) fc) (.slice uo zs.length tc) (.slice wo zs.length wc) w6) := H6.out.1.keep hb
    clear hb k0 kl
    obtain ⟨d0, d1, x0, x1⟩ := cell_two H7.out.res
    have ds := lt_of_get H7.out.res
    go_wp2
    refine bodyPost_ret (v := .tuple #[.int .u64 0, .agg #[.int .i64 16, .slice none 0 0]]) (by simp [results, Try.results14, go_sem, d0, d1]) rfl ?_
    exact ⟨D, d, HI.out, Or.inl ⟨HF.out, none, 0, rfl, places_nil _, (show Below w.heap.size w (lay2 w6 (w.heap.size + 1) (.int .i64 16) (.slice none 0 0)) from lay2_below H7.out.below (by omega))⟩⟩
  · have HF : Hid (d ≠ 18446744073709551615) := hf
    have hf' : (d == 18446744073709551615) = false := beq_false_of_ne hf
    clear hf
    obtain ⟨e0, e1, _, _⟩ := cell_two H6.out.2
    have es := lt_of_get H6.out.2
    obtain ⟨d0, d1, x0, x1⟩ := cell_two H6.out.1.res
    have ds := lt_of_get H6.out.1.res
    have n1 : ¬ B = w.heap.size + 1 := by omega
    have n3 : ¬ w.heap.size + 1 = B := by omega
    go_wp2_with fail
    go_region_held (fun w' => w'.cell? ⟨B, 0, none⟩ = some (.int .i64 0) ∧ w'.cell? ⟨B, 1, none⟩ = some (.slice po 0 pc)) (go_keep) (first | fail)
    all_goals
      go_wp2
      refine bodyPost_ret (v := .tuple #[.int .u64 d, .agg #[.int .i64 0, .slice po 0 pc]]) (by simp [results, Try.results14, go_sem, d0, d1]) rfl ?_
      exact ⟨D, d, HI.out, Or.inr ⟨HF.out, po, pc, rfl, ⟨po, pc, rfl, fun j p hj => by simp at hj⟩, (show Below w.heap.size w (lay2 w5 (w.heap.size + 1) (.int .i64 0) (.slice po 0 pc)) from lay2_below H6.out.1.below (by omega)).drew⟩⟩
end Go.Proofs.Ytnkfggccahohpab

namespace Go.Proofs.Ytnkfggccahohpab
open Go.RowKit Go.Extern

attribute [local go_sem] Oper.semAt_some

set_option maxRecDepth 100000 in
set_option maxHeartbeats 4000000 in
theorem sPath_early (f0 f1 f2 : Value) (s t : Int) (w : World) (E : Int × List (Int × Int)) (hC : ∀ wx, Below w.heap.size w wx → Calls Try.prog 39 #[.agg #[f0, f1, f2]] wx fun e w' => ∃ T x, e = .returned (.iface T x) ∧ IsTold w' E (.iface T x) ∧ Below wx.heap.size wx w') :
    Calls Try.prog 9 #[.agg #[f0, f1, f2], .int .i64 s, .int .i64 t] w fun e w' => ∃ T x, e = .returned (.tuple #[.slice none 0 0, .iface T x]) ∧ IsTold w' E (.iface T x) ∧ Below w.heap.size w w' := by
  obtain ⟨W0, hW0⟩ : ∃ W0, (w.alloc (.cells #[f0, f1, f2] 27)).alloc (.cells #[.int .i64 s, .int .i64 t] 3) = W0 := ⟨_, rfl⟩
  have HW0 : Hid ((w.alloc (.cells #[f0, f1, f2] 27)).alloc (.cells #[.int .i64 s, .int .i64 t] 3) = W0) := hW0
  have hB0 : Below w.heap.size w W0 := by rw [← hW0]; exact ((Below.refl _ w).alloc (Nat.le_refl _) _).alloc (by simp) _
  have HNF : Hid (type_of% (newFinder_early (.agg #[f0, f1, f2]) (.slice (some ⟨w.heap.size + 1, 0, none⟩) 2 2) f0 f1 f2 rfl W0 E (fun wx hx => hC wx (btr hB0 hx)))) := newFinder_early (.agg #[f0, f1, f2]) (.slice (some ⟨w.heap.size + 1, 0, none⟩) 2 2) f0 f1 f2 rfl W0 E (fun wx hx => hC wx (btr hB0 hx))
  have HB0 : Hid (Below w.heap.size w W0) := hB0
  clear hW0 hB0 hC
  go_enter Try.func9, Try.ntmps9
  go_wp2_with fail
  rw [HW0.out]
  refine HNF.out.mono ?_
  rintro e w1 ⟨T, x, rfl, hq, hb⟩
  have H1 : Hid (IsTold w1 E (.iface T x) ∧ Below w.heap.size w w1) := ⟨hq, btr HB0.out hb⟩
  clear hq hb
  go_wp2
  go_ret2
  exact ⟨T, x, rfl, H1.out.1, H1.out.2⟩

set_option maxRecDepth 100000 in
set_option maxHeartbeats 4000000 in
theorem sPath_node (n : Nat) (zs : List (Int × Int × Int)) (fo uo wo : Option Addr) (fc tc wc : Nat) (w : World) (hz : Fine n zs) (h : CsrIn w n zs fo uo wo fc tc wc) (s t : Int) (hst : ¬ ((0 ≤ s ∧ s < (n : Int)) ∧ 0 ≤ t ∧ t < (n : Int))) :
    Calls Try.prog 9 #[.agg #[.slice fo (n + 1) fc, .slice uo zs.length tc, .slice wo zs.length wc], .int .i64 s, .int .i64 t] w fun e w' => e = .returned (.tuple #[.slice none 0 0, .iface 65 (.int .i64 7)]) ∧ Below w.heap.size w w' := by
  obtain ⟨W0, hW0⟩ : ∃ W0, (w.alloc (.cells #[.slice fo (n + 1) fc, .slice uo zs.length tc, .slice wo zs.length wc] 27)).alloc (.cells #[.int .i64 s, .int .i64 t] 3) = W0 := ⟨_, rfl⟩
  have HW0 : Hid ((w.alloc (.cells #[.slice fo (n + 1) fc, .slice uo zs.length tc, .slice wo zs.length wc] 27)).alloc (.cells #[.int .i64 s, .int .i64 t] 3) = W0) := hW0
  have hB0 : Below w.heap.size w W0 := by rw [← hW0]; exact ((Below.refl _ w).alloc (Nat.le_refl _) _).alloc (by simp) _
  have hI : HasInts W0 (.slice (some ⟨w.heap.size + 1, 0, none⟩) 2 2) [s, t] := by
    have := ints_two (w.alloc (.cells #[.slice fo (n + 1) fc, .slice uo zs.length tc, .slice wo zs.length wc] 27)) s t
    rw [hW0] at this
    simpa using this
  have HNF : Hid (Calls Try.prog 22 #[.agg #[.slice fo (n + 1) fc, .slice uo zs.length tc, .slice wo zs.length wc], .slice (some ⟨w.heap.size + 1, 0, none⟩) 2 2] W0 fun e w' => e = .returned (.tuple #[.pointer none, .iface 65 (.int .i64 7)]) ∧ Below W0.heap.size W0 w') := by
    by_cases hs : 0 ≤ s ∧ s < (n : Int)
    · exact newFinder_node n zs fo uo wo fc tc wc W0 hz (h.keep hB0) (some ⟨w.heap.size + 1, 0, none⟩) 2 [s, t] hI (by simp) 1 t rfl (fun ht => hst ⟨hs, ht⟩) (fun j v hj hv => by
        obtain rfl : j = 0 := by omega
        obtain rfl : s = v := by simpa using hv
        exact hs)
    · exact newFinder_node n zs fo uo wo fc tc wc W0 hz (h.keep hB0) (some ⟨w.heap.size + 1, 0, none⟩) 2 [s, t] hI (by simp) 0 s rfl hs (fun j v hj hv => by omega)
  have HB0 : Hid (Below w.heap.size w W0) := hB0
  clear hW0 hB0 hI h hz hst
  go_enter Try.func9, Try.ntmps9
  go_wp2_with fail
  rw [HW0.out]
  refine HNF.out.mono ?_
  rintro e w1 ⟨rfl, hb⟩
  have H1 : Hid (Below w.heap.size w w1) := btr HB0.out hb
  clear hb
  go_wp2
  go_ret2
  exact ⟨rfl, H1.out⟩
end Go.Proofs.Ytnkfggccahohpab
