/- awake: a graph of two nodes, written and read. -/
import Derived.Test.YtghbekpilhnkfaaDoorGuC
import Derived.Test.YtghbekpilhnkfaaDoorSameG
namespace Go.Proofs.YtghbekpilhnkfaaDoor.Gt
open Go Go.Lib Go.RowKit Go.Extern Hi

attribute [local go_sem] Oper.semAt_some

theorem bs_inj {a b : ByteArray} (h : bs a = bs b) : a = b := by
  cases a with
  | mk x => cases b with
    | mk y => exact congrArg ByteArray.mk (Array.toList_inj.1 h)
def lit3 : ByteArray := ⟨#[103, 114, 97, 112, 104, 32, 50, 32, 49, 10, 97, 114, 99, 32, 48, 32, 49, 32, 53, 10, 101, 110, 100, 10]⟩
theorem ok3 : GOk 2 [(0, 1, 5)] := by
  refine ⟨by decide, by decide, fun a ha => ?_⟩
  rw [List.mem_singleton] at ha
  subst ha
  exact ⟨by decide, by decide, by decide, by decide, by decide, by decide⟩
theorem lit_eq : bs lit3 = prL 2 [(0, 1, 5)] := by
  have d0 : itoa 0 = [48] := by rw [itoa_dec (by decide)]; exact decDigits_one (by decide)
  have d1 : itoa 1 = [49] := by rw [itoa_dec (by decide)]; exact decDigits_one (by decide)
  have d2 : itoa 2 = [50] := by rw [itoa_dec (by decide)]; exact decDigits_one (by decide)
  have d5 : itoa 5 = [53] := by rw [itoa_dec (by decide)]; exact decDigits_one (by decide)
  unfold prL prR txt
  simp [rowL, numL, arcNs, gwd, awd, ewd, d0, d1, d2, d5]
  rfl
theorem lit_parse : psE (bs lit3) = (0, []) ∧ psG (bs lit3) = (2, [(0, 1, 5)]) := by
  have h := ps_pr ok3 (by show (prL 2 [(0, 1, 5)]).length ≤ _; rw [← lit_eq]; decide)
  rw [lit_eq]
  exact h
theorem err3 : graphErr 2 [(0, 1, 5)] = (0, []) := graph_iff.2 ⟨2, rfl, ok3⟩
theorem lit_print : prS 2 [(0, 1, 5)] = bs lit3 := by
  unfold prS
  rw [if_pos err3, lit_eq]
theorem arcs_at {w : World} {g : Nat} {a : Arc3} (hb : w.heap[g]? = some (.cells #[.int .i64 a.1, .int .i64 a.2.1, .int .i64 a.2.2] 54)) : HasArcs w (.slice (some ⟨g, 0, none⟩) 1 1) [a] := by
  refine ⟨_, _, rfl, fun j b hj => ?_⟩
  rcases j with _ | j
  · simp at hj
    subst hj
    exact ⟨g, 0, rfl, (Array.getElem?_eq_some_iff.1 hb).1, by simp [World.cell?, hb], by simp [World.cell?, hb], by simp [World.cell?, hb]⟩
  · simp at hj
theorem new_arcs {w : World} {a : Arc3} : HasArcs (w.alloc (.cells #[.int .i64 a.1, .int .i64 a.2.1, .int .i64 a.2.2] 54)) (.slice (some ⟨w.heap.size, 0, none⟩) 1 1) [a] := arcs_at (heap_newG _ _)
theorem no_arcs (w : World) : HasArcs w (.slice none 0 0) [] := ⟨none, 0, rfl, fun j q hj => by simp at hj⟩
theorem told_nil {w : World} {v : Value} (h : IsTold w (0, []) v) : v = .nilIface := by
  rcases told_shape h with ⟨_, e⟩ | ⟨h1, _⟩
  · exact e
  · exact absurd rfl h1

set_option maxRecDepth 100000 in
set_option maxHeartbeats 8000000 in
theorem awake3_calls (w : World) (hT : TabW w) (hH : HasType w) : Calls Tryd.prog 9 #[] w fun e w' => e = .returned (.bool true) ∧ Below w.heap.size w w' := by
  obtain ⟨g, hg⟩ : ∃ g, w.heap.size = g := ⟨_, rfl⟩
  obtain ⟨z, hz⟩ : ∃ z, g + 1 = z := ⟨_, rfl⟩
  obtain ⟨W1, hW1⟩ : ∃ W1, (w.alloc (.cells #[.int .i64 0, .int .i64 1, .int .i64 5] 54)).alloc (.cells #[.int .i64 2, .slice (some ⟨g, 0, none⟩) 1 1] 24) = W1 := ⟨_, rfl⟩
  have HW1 : Hid ((w.alloc (.cells #[.int .i64 0, .int .i64 1, .int .i64 5] 54)).alloc (.cells #[.int .i64 2, .slice (some ⟨g, 0, none⟩) 1 1] 24) = W1) := hW1
  have n1 : W1.heap[z]? = some (.cells #[.int .i64 2, .slice (some ⟨g, 0, none⟩) 1 1] 24) := by
    have q := heap_newG (w.alloc (.cells #[.int .i64 0, .int .i64 1, .int .i64 5] 54)) (.cells #[.int .i64 2, .slice (some ⟨g, 0, none⟩) 1 1] 24)
    rw [World.size_alloc, hW1, hg, hz] at q
    exact q
  have hA1 : HasArcs W1 (.slice (some ⟨g, 0, none⟩) 1 1) [(0, 1, 5)] := by
    have q := new_arcs (w := w) (a := (0, 1, 5))
    rw [hg] at q
    rw [← hW1]
    exact q.keep ((Below.refl _ _).alloc (Nat.le_refl _) _)
  have hb1 : Below w.heap.size w W1 := by rw [← hW1]; exact ((Below.refl _ _).alloc (Nat.le_refl _) _).alloc (by simp) _
  have hzl := (Array.getElem?_eq_some_iff.1 n1).1
  have HK : Hid (∀ wx, Below W1.heap.size W1 wx → wx.cell? ⟨z, 0, none⟩ = some (.int .i64 2) ∧ wx.cell? ⟨z, 1, none⟩ = some (.slice (some ⟨g, 0, none⟩) 1 1) ∧ HasArcs wx (.slice (some ⟨g, 0, none⟩) 1 1) [(0, 1, 5)] ∧ Below w.heap.size w wx ∧ TabW wx ∧ HasType wx) := fun wx hx => by
    have m := (hx.block _ hzl).trans n1
    have hb := hb1.trans (hx.mono hb1.size)
    exact ⟨by simp [World.cell?, m], by simp [World.cell?, m], hA1.keep hx, hb, hT.keep hb hT.lt, hH.keep hb hH.pos⟩
  obtain ⟨c0, c1, hA, _, hT1, _⟩ := HK.out W1 (Below.refl _ _)
  have HPR : Hid (Calls Tryd.prog 10 #[.agg #[.int .i64 2, .slice (some ⟨g, 0, none⟩) 1 1]] W1 (PrA 2 [(0, 1, 5)] W1)) := print_calls 2 (some ⟨g, 0, none⟩) 1 [(0, 1, 5)] W1 hA (by decide) hT1
  clear hW1 n1 hA1 hb1 hzl hA hT1 hT hH
  go_enter Tryd.func9, Tryd.ntmps9
  go_upto_region 2 with fail
  rw [HW1.out]
  go_wp2_with fail
  refine HPR.out.mono ?_
  rintro e y1 ⟨s, v, rfl, hs, htd, hy1⟩
  rw [err3] at htd
  obtain rfl := told_nil htd
  obtain rfl : s = lit3 := bs_inj (hs.trans lit_print)
  have HY1 : Hid (Below W1.heap.size W1 y1) := hy1
  have HPA : Hid (Calls Tryd.prog 15 #[.string lit3] y1 (PsA (bs lit3) y1)) := parse_calls lit3 y1 (by decide)
  clear hs htd hy1 HPR c0 c1
  unfold lit3 at HPA ⊢
  go_wp2_with fail
  refine HPA.out.mono ?_
  rintro e y2 ⟨u, ao, ac, rfl, htd, hy2, hown⟩
  have hpE := lit_parse.1
  have hpG := lit_parse.2
  unfold lit3 at hpE hpG
  rw [hpE] at htd
  rw [hpG] at hown ⊢
  obtain rfl := told_nil htd
  have hA2 : HasArcs y2 (.slice ao 1 ac) [(0, 1, 5)] := arcs_of hown
  obtain ⟨z2, hz2⟩ : ∃ z2, y2.heap.size = z2 := ⟨_, rfl⟩
  obtain ⟨W3, hW3⟩ : ∃ W3, y2.alloc (.cells #[.int .i64 2, .slice ao 1 ac] 24) = W3 := ⟨_, rfl⟩
  have HW3 : Hid (y2.alloc (.cells #[.int .i64 2, .slice ao 1 ac] 24) = W3) := hW3
  have m3 : W3.heap[z2]? = some (.cells #[.int .i64 2, .slice ao 1 ac] 24) := by rw [← hW3, ← hz2]; exact heap_newG _ _
  have hb3 : Below y2.heap.size y2 W3 := by rw [← hW3]; exact (Below.refl _ _).alloc (Nat.le_refl _) _
  have h13 : Below W1.heap.size W1 W3 := btrG (btrG HY1.out hy2) hb3
  obtain ⟨c0, c1, hA1, _, _⟩ := HK.out W3 h13
  have d0 : W3.cell? ⟨z2, 0, none⟩ = some (.int .i64 2) := by simp [World.cell?, m3]
  have d1 : W3.cell? ⟨z2, 1, none⟩ = some (.slice ao 1 ac) := by simp [World.cell?, m3]
  have HSM : Hid (Calls Tryd.prog 17 #[.agg #[.int .i64 2, .slice (some ⟨g, 0, none⟩) 1 1], .agg #[.int .i64 2, .slice ao 1 ac]] W3 fun e w' => e = .returned (.bool true) ∧ Below W3.heap.size W3 w') := same_yes 2 _ _ 1 1 1 ac [(0, 1, 5)] W3 hA1 (hA2.keep hb3) (by decide)
  have H13 : Hid (Below W1.heap.size W1 W3) := h13
  clear htd hy2 hown hA2 hW3 m3 hb3 h13 hA1 HPA hpE hpG HY1
  go_upto_region 4 with fail
  try simp only [List.length_cons, List.length_nil, Nat.zero_add]
  rw [HW3.out]
  try rw [hz2]
  go_wp2_with fail
  refine HSM.out.mono ?_
  rintro e y4 ⟨rfl, hy4⟩
  have H14 : Hid (Below W1.heap.size W1 y4) := btrG H13.out hy4
  clear hy4 c0 c1 d0 d1
  go_wp2_with fail
  refine (check_calls (-1) none 0 [] y4 (no_arcs y4) (by decide)).mono ?_
  rintro e y5 ⟨v5, rfl, ht5, hy5⟩
  have H15 : Hid (Below W1.heap.size W1 y5 ∧ IsTold y5 (9, []) v5) := ⟨btrG H14.out hy5, ht5⟩
  clear ht5 hy5
  go_wp2_with fail
  refine (E_calls 9 y5).mono ?_
  rintro e y6 ⟨rfl, hy6⟩
  have H16 : Hid (Below W1.heap.size W1 y6 ∧ IsTold y6 (9, []) v5) := ⟨btrG H15.out.1 hy6, H15.out.2.keep (Below.keeps hy6)⟩
  clear hy6
  go_wp2_with fail
  refine (seen_told (9, []) v5 none 0 y6 H16.out.2 ⟨none, 0, rfl, fun j p hj => by simp at hj⟩ (by decide) (HK.out y6 H16.out.1).2.2.2.2.2).mono ?_
  rintro e y7 ⟨rfl, hy7⟩
  have H17 : Hid (Below w.heap.size w y7) := (HK.out y7 (btrG H16.out.1 hy7)).2.2.2.1
  clear hy7
  go_wp2
  go_ret
  exact ⟨rfl, H17.out⟩
end Go.Proofs.YtghbekpilhnkfaaDoor.Gt
