/- viaductref08.DocBounded. -/
import Derived.Test.YtnkfggccahohpaaDoorSdB
import Derived.Test.YtnkfggccahohpaaDoorSdQ
import Derived.Deep.RegionHeld
namespace Go.Proofs.YtnkfggccahohpaaDoor
open Go.RowKit Go.Extern

attribute [local go_sem] Oper.semAt_some

section
variable (fo uo wo : Option Addr) (fl fc tl tc wl wc n : Nat) (w : World) (v hp se mo : Int)

set_option maxRecDepth 100000 in
set_option maxHeartbeats 4000000 in
theorem docBounded_bad (C : Int) (ps : List (Int × Int)) (hC : C ≠ 0) (hD : ∀ wx, Below w.heap.size w wx → Calls Tryd.prog 27 #[.agg #[.slice fo fl fc, .slice uo tl tc, .slice wo wl wc], .int .i64 v] wx (DocAns wx (C, ps))) :
    Calls Tryd.prog 17 #[.agg #[.slice fo fl fc, .slice uo tl tc, .slice wo wl wc], .int .i64 v, .int .i64 hp, .int .i64 se, .int .u64 mo] w fun e w' => ∃ po pc, e = .returned (.tuple #[.slice none 0 0, .agg #[.int .i64 C, .slice po ps.length pc]]) ∧ HasPlaces w' (.slice po ps.length pc) ps ∧ Below w.heap.size w w' := by
  have HDB : Hid (type_of% (DB.made w (.slice fo fl fc) (.slice uo tl tc) (.slice wo wl wc))) := DB.made w (.slice fo fl fc) (.slice uo tl tc) (.slice wo wl wc)
  have HDC : Hid (type_of% hD) := hD
  have HBT : Hid (∀ l, (C != 0 || decide (0 < l)) = true) := fun l => badT hC l
  clear hD
  go_enter Tryd.func17, Tryd.ntmps17
  go_wp2_with fail
  generalize (w.alloc (.cells #[.slice fo fl fc, .slice uo tl tc, .slice wo wl wc] 24)).alloc (.cells #[.int .i64 0, .slice none 0 0] 36) = W0 at *
  refine (HDC.out W0 HDB.out.below).mono ?_
  rintro e w1 ⟨po, pc, rfl, hP, hb⟩
  simp only at hP
  have H1 : Hid (DB w (.slice fo fl fc) (.slice uo tl tc) (.slice wo wl wc) w1 ∧ HasPlaces w1 (.slice po ps.length pc) ps) := ⟨HDB.out.keep hb, hP⟩
  clear hb hP
  go_wp2_with fail
  have H2 : Hid (DB w (.slice fo fl fc) (.slice uo tl tc) (.slice wo wl wc) (w1.alloc (.cells #[.int .i64 C, .slice po ps.length pc] 36)) ∧ HasPlaces (w1.alloc (.cells #[.int .i64 C, .slice po ps.length pc] 36)) (.slice po ps.length pc) ps ∧ (w1.alloc (.cells #[.int .i64 C, .slice po ps.length pc] 36)).heap[w1.heap.size]? = some (.cells #[.int .i64 C, .slice po ps.length pc] 36)) := ⟨H1.out.1.keep (below1 _ _), H1.out.2.keep (below1 _ _), heap_new _ _⟩
  have hbn : w.heap.size + 1 < w1.heap.size := lt_of_get H1.out.1.res
  generalize w1.alloc (.cells #[.int .i64 C, .slice po ps.length pc] 36) = W1 at *
  generalize w1.heap.size = B at *
  refine (bad_calls C po ps.length pc W1).mono ?_
  rw [HBT.out]
  rintro e w2 ⟨rfl, hb⟩
  have H3 : Hid (DB w (.slice fo fl fc) (.slice uo tl tc) (.slice wo wl wc) w2 ∧ HasPlaces w2 (.slice po ps.length pc) ps ∧ w2.heap[B]? = some (.cells #[.int .i64 C, .slice po ps.length pc] 36)) := ⟨H2.out.1.keep hb, H2.out.2.1.keep hb, (hb.block _ (lt_of_get H2.out.2.2)).trans H2.out.2.2⟩
  clear hb
  obtain ⟨e0, e1, _, _⟩ := cell_two H3.out.2.2
  have es := lt_of_get H3.out.2.2
  obtain ⟨d0, d1, x0, x1⟩ := cell_two H3.out.1.res
  have ds := lt_of_get H3.out.1.res
  have n1 : ¬ B = w.heap.size + 1 := by omega
  have n3 : ¬ w.heap.size + 1 = B := by omega
  go_wp2_with fail
  go_region_held (fun w' => w'.cell? ⟨B, 0, none⟩ = some (.int .i64 C) ∧ w'.cell? ⟨B, 1, none⟩ = some (.slice po ps.length pc)) (go_keep) (first | fail)
  all_goals
    go_wp2
    refine bodyPost_ret (v := .tuple #[.slice none 0 0, .agg #[.int .i64 C, .slice po ps.length pc]]) (by simp [results, Tryd.results17, go_sem, d0, d1]) rfl ?_
    exact ⟨po, pc, rfl, (show HasPlaces (lay2 w2 (w.heap.size + 1) (.int .i64 C) (.slice po ps.length pc)) (.slice po ps.length pc) ps from lay2_places H3.out.2.1 H3.out.1.res), (show Below w.heap.size w (lay2 w2 (w.heap.size + 1) (.int .i64 C) (.slice po ps.length pc)) from lay2_below H3.out.1.below (by omega)).drew⟩
end
end Go.Proofs.YtnkfggccahohpaaDoor
