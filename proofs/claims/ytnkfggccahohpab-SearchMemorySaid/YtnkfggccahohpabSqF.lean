/- viaductref08.DocFrom, by what node tells. -/
import Derived.Test.YtnkfggccahohpabSqN
import Derived.Test.YtnkfggccahohpabSrF
namespace Go.Proofs.Ytnkfggccahohpab
open Go.RowKit Go.Extern

attribute [local go_sem] Oper.semAt_some

section
variable (fo uo wo : Option Addr) (fl fc tl tc wl wc n : Nat) (w : World) (v : Int)

set_option maxRecDepth 100000 in
set_option maxHeartbeats 4000000 in
theorem docFrom_bad (C : Int) (ps : List (Int × Int)) (hC : C ≠ 0) (hD : ∀ wx, Below w.heap.size w wx → Calls Try.prog 31 #[.agg #[.slice fo fl fc, .slice uo tl tc, .slice wo wl wc], .int .i64 v] wx (DocAns wx (C, ps))) :
    Calls Try.prog 12 #[.agg #[.slice fo fl fc, .slice uo tl tc, .slice wo wl wc], .int .i64 v] w fun e w' => ∃ po pc, e = .returned (.tuple #[.slice none 0 0, .agg #[.int .i64 C, .slice po ps.length pc]]) ∧ HasPlaces w' (.slice po ps.length pc) ps ∧ Below w.heap.size w w' := by
  have HDB : Hid (type_of% (DB.made w (.slice fo fl fc) (.slice uo tl tc) (.slice wo wl wc))) := DB.made w (.slice fo fl fc) (.slice uo tl tc) (.slice wo wl wc)
  have HDC : Hid (type_of% hD) := hD
  have HBT : Hid (∀ l, (C != 0 || decide (0 < l)) = true) := fun l => badT hC l
  clear hD
  go_enter Try.func12, Try.ntmps12
  go_wp2_with fail
  generalize (w.alloc (.cells #[.slice fo fl fc, .slice uo tl tc, .slice wo wl wc] 24)).alloc (.cells #[.int .i64 0, .slice none 0 0] 46) = W0 at *
  refine (HDC.out W0 HDB.out.below).mono ?_
  rintro e w1 ⟨po, pc, rfl, hP, hb⟩
  simp only at hP
  have H1 : Hid (DB w (.slice fo fl fc) (.slice uo tl tc) (.slice wo wl wc) w1 ∧ HasPlaces w1 (.slice po ps.length pc) ps) := ⟨HDB.out.keep hb, hP⟩
  clear hb hP
  go_wp2_with fail
  have H2 : Hid (DB w (.slice fo fl fc) (.slice uo tl tc) (.slice wo wl wc) (w1.alloc (.cells #[.int .i64 C, .slice po ps.length pc] 46)) ∧ HasPlaces (w1.alloc (.cells #[.int .i64 C, .slice po ps.length pc] 46)) (.slice po ps.length pc) ps ∧ (w1.alloc (.cells #[.int .i64 C, .slice po ps.length pc] 46)).heap[w1.heap.size]? = some (.cells #[.int .i64 C, .slice po ps.length pc] 46)) := ⟨H1.out.1.keep (below1 _ _), H1.out.2.keep (below1 _ _), heap_new _ _⟩
  have hbn : w.heap.size + 1 < w1.heap.size := lt_of_get H1.out.1.res
  generalize w1.alloc (.cells #[.int .i64 C, .slice po ps.length pc] 46) = W1 at *
  generalize w1.heap.size = B at *
  refine (bad_calls C po ps.length pc W1).mono ?_
  rw [HBT.out]
  rintro e w2 ⟨rfl, hb⟩
  have H3 : Hid (DB w (.slice fo fl fc) (.slice uo tl tc) (.slice wo wl wc) w2 ∧ HasPlaces w2 (.slice po ps.length pc) ps ∧ w2.heap[B]? = some (.cells #[.int .i64 C, .slice po ps.length pc] 46)) := ⟨H2.out.1.keep hb, H2.out.2.1.keep hb, (hb.block _ (lt_of_get H2.out.2.2)).trans H2.out.2.2⟩
  clear hb
  obtain ⟨e0, e1, _, _⟩ := cell_two H3.out.2.2
  have es := lt_of_get H3.out.2.2
  obtain ⟨d0, d1, x0, x1⟩ := cell_two H3.out.1.res
  have ds := lt_of_get H3.out.1.res
  have n1 : ¬ B = w.heap.size + 1 := by omega
  have n3 : ¬ w.heap.size + 1 = B := by omega
  go_wp2_with fail
  go_region_held (fun w' => w'.cell? ⟨B, 0, none⟩ = some (.int .i64 C) ∧ w'.cell? ⟨B, 1, none⟩ = some (.slice po ps.length pc)) (go_keep) (first | fail)
  all_goals
    go_wp2
    refine bodyPost_ret (v := .tuple #[.slice none 0 0, .agg #[.int .i64 C, .slice po ps.length pc]]) (by simp [results, Try.results12, go_sem, d0, d1]) rfl ?_
    exact ⟨po, pc, rfl, (show HasPlaces (lay2 w2 (w.heap.size + 1) (.int .i64 C) (.slice po ps.length pc)) (.slice po ps.length pc) ps from lay2_places H3.out.2.1 H3.out.1.res), (show Below w.heap.size w (lay2 w2 (w.heap.size + 1) (.int .i64 C) (.slice po ps.length pc)) from lay2_below H3.out.1.below (by omega)).drew⟩
end

set_option maxRecDepth 100000 in
set_option maxHeartbeats 4000000 in
theorem docFrom_good (n : Nat) (zs : List (Int × Int × Int)) (fo uo wo : Option Addr) (fc tc wc : Nat) (w : World) (hz : Fine n zs) (h : CsrIn w n zs fo uo wo fc tc wc) (s : Nat) (hs : s < n) (hD : ∀ wx, Below w.heap.size w wx → Calls Try.prog 31 #[.agg #[.slice fo (n + 1) fc, .slice uo zs.length tc, .slice wo zs.length wc], .int .i64 s] wx (DocAns wx (0, []))) :
    Calls Try.prog 12 #[.agg #[.slice fo (n + 1) fc, .slice uo zs.length tc, .slice wo zs.length wc], .int .i64 s] w fun e w' => ∃ db D, e = .returned (.tuple #[.slice (some ⟨db, 0, none⟩) n n, .agg #[.int .i64 0, .slice none 0 0]]) ∧ IsDist n zs s D ∧ U64s w' db D ∧ Below w.heap.size w w' := by
  have HDB : Hid (type_of% (DB.made w (.slice fo (n + 1) fc) (.slice uo zs.length tc) (.slice wo zs.length wc))) := DB.made w (.slice fo (n + 1) fc) (.slice uo zs.length tc) (.slice wo zs.length wc)
  have HDC : Hid (type_of% hD) := hD
  have HFR : Hid (∀ wx, Below w.heap.size w wx → Calls Try.prog 32 #[.agg #[.slice fo (n + 1) fc, .slice uo zs.length tc, .slice wo zs.length wc], .int .i64 s] wx fun e w' => ∃ db D, e = .returned (.slice (some ⟨db, 0, none⟩) n n) ∧ IsDist n zs s D ∧ U64s w' db D ∧ Below wx.heap.size wx w') := fun wx hwx => rFrom_calls n zs fo uo wo fc tc wc wx hz (h.keep hwx) s hs
  clear hD h hz
  go_enter Try.func12, Try.ntmps12
  go_wp2_with fail
  generalize (w.alloc (.cells #[.slice fo (n + 1) fc, .slice uo zs.length tc, .slice wo zs.length wc] 24)).alloc (.cells #[.int .i64 0, .slice none 0 0] 46) = W0 at *
  refine (HDC.out W0 HDB.out.below).mono ?_
  rintro e w1 ⟨po, pc, rfl, hP, hb⟩
  have H1 : Hid (type_of% (HDB.out.keep hb)) := HDB.out.keep hb
  clear hb hP
  go_wp2_with fail
  have H2 : Hid (DB w (.slice fo (n + 1) fc) (.slice uo zs.length tc) (.slice wo zs.length wc) (w1.alloc (.cells #[.int .i64 0, .slice po 0 pc] 46))) := H1.out.keep (below1 _ _)
  generalize w1.alloc (.cells #[.int .i64 0, .slice po 0 pc] 46) = W1 at *
  refine (bad_calls 0 po 0 pc W1).mono ?_
  rintro e w2 ⟨rfl, hb⟩
  rw [show ((0 : Int) != 0 || decide (0 < 0)) = false from rfl]
  have H3 : Hid (type_of% (H2.out.keep hb)) := H2.out.keep hb
  clear hb
  obtain ⟨c0, c1, c2⟩ := box3 H3.out.box
  have cs := lt_of_get H3.out.box
  go_wp2_with fail
  refine (HFR.out w2 H3.out.below).mono ?_
  rintro e w3 ⟨db, D, rfl, hDi, hU, hb⟩
  have H4 : Hid (DB w (.slice fo (n + 1) fc) (.slice uo zs.length tc) (.slice wo zs.length wc) w3 ∧ IsDist n zs s D ∧ U64s w3 db D) := ⟨H3.out.keep hb, hDi, hU⟩
  have hne : db ≠ w.heap.size + 1 := fun e => by
    have h1 := H4.out.1.res
    have h2 : w3.heap[db]? = _ := hU
    rw [e, h1] at h2
    injection h2 with h2
    injection h2 with h3 h4
    exact absurd h4 (by decide)
  have HU : Hid (U64s (lay2 w3 (w.heap.size + 1) (.int .i64 0) (.slice none 0 0)) db D) := (lay2_far hne).trans hU
  clear hb hDi hU c0 c1 c2 cs
  obtain ⟨d0, d1, x0, x1⟩ := cell_two H4.out.1.res
  have ds := lt_of_get H4.out.1.res
  go_wp2
  refine bodyPost_ret (v := .tuple #[.slice (some ⟨db, 0, none⟩) n n, .agg #[.int .i64 0, .slice none 0 0]]) (by simp [results, Try.results12, go_sem, d0, d1]) rfl ?_
  exact ⟨db, D, rfl, H4.out.2.1, HU.out, (show Below w.heap.size w (lay2 w3 (w.heap.size + 1) (.int .i64 0) (.slice none 0 0)) from lay2_below H4.out.1.below (by omega))⟩
end Go.Proofs.Ytnkfggccahohpab
