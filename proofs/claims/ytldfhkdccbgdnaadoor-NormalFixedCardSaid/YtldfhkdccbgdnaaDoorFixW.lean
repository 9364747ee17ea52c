/- The law NormalFixed, walked: the document's examples; the order of errors; the greatest graphs. -/
import Derived.Test.YtldfhkdccbgdnaaDoorFixC
import Derived.Test.YtldfhkdccbgdnaaDoorAwake
import Derived.Deep.DeepCutAuto
namespace Go.Proofs.YtldfhkdccbgdnaaDoor
open Go.RowKit Go.Extern

attribute [local go_sem] Oper.semAt_some

def two : List (Int × Int × Int) := [(0, 1, 4), (1, 1, 2)]
def odd : List (Int × Int × Int) := [(1, 0, 1), (0, 1, 1)]
def bad1 : List (Int × Int × Int) := [(0, 1, 0)]
theorem two_good : graphErr 2 two = (0, []) := by decide
theorem odd_good : graphErr 2 odd = (0, []) := by decide
theorem bad_err : graphErr 1 bad1 = (7, [(4, 0)]) := by decide
theorem odd_not : normA odd ≠ odd := by
  intro h
  have h2 := ((norm_self odd).1 h).2
  unfold RiseA odd at h2
  have h3 := (List.pairwise_cons.1 h2).1 (0, 1, 1) (by simp)
  unfold lessA at h3
  simp at h3
theorem two_out : outL 2 two = [1, 1] := by decide
theorem two_in : inL 2 two = [0, 2] := by decide
theorem none_good (N : Int) (h : 0 ≤ N) (h2 : N ≤ 65536) : graphErr N [] = (0, []) := good_of N [] (by simp; omega) (by simp)
theorem arcs_none (w : World) : HasArcs w (.slice none 0 0) [] := ⟨none, 0, rfl, fun j a hj => by simp at hj⟩
theorem e_n : bothErr 2 3 two [] = (1, []) := by unfold bothErr; rw [two_good, none_good 3 (by omega) (by omega)]; simp
theorem e_bad : bothErr 2 1 two bad1 = (7, [(4, 0)]) := by unfold bothErr; rw [two_good, bad_err]; simp
theorem e_bad2 : bothErr 1 (-1) bad1 [] = (7, [(4, 0)]) := by unfold bothErr; rw [bad_err]; simp
theorem e_big {Z : List (Int × Int × Int)} (h : Z.length = 262144) (hg : graphErr 2 Z = (0, [])) : bothErr 2 2 Z two = (9, []) := by unfold bothErr; rw [hg, two_good, h]; simp [two]
theorem e_full {Z : List (Int × Int × Int)} (h : Z.length = 262144) (hg : graphErr 2 Z = (0, [])) : bothErr 2 2 Z [] = (0, []) := by unfold bothErr; rw [hg, none_good 2 (by omega) (by omega), h]; simp

set_option maxRecDepth 100000 in
set_option maxHeartbeats 16000000 in
theorem fixed_calls (w : World) (hg : HasType w) : Calls Tryd.prog 6 #[] w fun e w' => e = .returned (.bool true) ∧ Below w.heap.size w w' := by
  have HG : Hid (∀ wx, Below w.heap.size w wx → HasType wx) := fun wx h => hg.keep h hg.pos
  obtain ⟨C, Z, hmk, hZ, hZl, hZg, hZn⟩ := great_graph
  have HZ : Hid ((∀ w : World, HasArcs (w.alloc (.cells C 51)) (.slice (some ⟨w.heap.size, 0, none⟩) 262144 262144) Z) ∧ Z.length = 262144 ∧ graphErr 2 Z = (0, []) ∧ normA Z = []) := ⟨hZ, hZl, hZg, hZn⟩
  clear hg hZ hZl hZg hZn
  have I0 : Hid (Below w.heap.size w w) := Below.refl _ _
  go_enter Tryd.func6, Tryd.ntmps6
  go_wp2_with fail
  refine (awake_calls _).mono ?_
  rintro e w1 ⟨rfl, h⟩
  have I1 : Hid (Below w.heap.size w w1) := I0.out.trans (h.mono I0.out.size)
  clear h
  go_wp2_with fail
  generalize hL : w1.alloc (.cells #[.int .i64 0, .int .i64 1, .int .i64 4, .int .i64 1, .int .i64 1, .int .i64 2] 51) = L1
  obtain ⟨hA, hB⟩ := lit2 w1 (0, 1, 4) (1, 1, 2)
  simp only at hA hB
  rw [hL] at hA hB
  have I2 : Hid (Below w.heap.size w L1 ∧ HasArcs L1 (.slice (some ⟨w1.heap.size, 0, none⟩) 2 2) two) := ⟨I1.out.trans (hB.mono I1.out.size), hA⟩
  have hs : L1.heap.size = w1.heap.size + 1 := by rw [← hL]; simp
  clear hL hA hB
  generalize w1.heap.size = l1 at *
  generalize hL : L1.alloc (.cells #[.int .i64 2, .slice (some ⟨l1, 0, none⟩) 2 2] 24) = W2
  obtain ⟨hGr, hB⟩ := Gr.new (2) I2.out.2
  rw [hL] at hGr hB
  rw [hs] at hGr
  have I3 : Hid (Below w.heap.size w W2 ∧ HasArcs W2 (.slice (some ⟨l1, 0, none⟩) 2 2) two ∧ Gr W2 (l1 + 1) 2 (some ⟨l1, 0, none⟩) 2 2 two) := ⟨I2.out.1.trans (hB.mono I2.out.1.size), I2.out.2.keep hB, hGr⟩
  clear hL hGr hB
  clear hs
  obtain ⟨ctwo0, ctwo1, ctwos⟩ := I3.out.2.2.cells
  refine (rev_good I3.out.2.2.arcs (by unfold maxLen; decide) two_good).mono ?_
  rintro e w3 ⟨tp, tn, tc, rfl, hA, h⟩
  clear ctwo0 ctwo1 ctwos
  have I4 : Hid (Below w.heap.size w w3 ∧ HasArcs w3 (.slice (some ⟨l1, 0, none⟩) 2 2) two ∧ Gr w3 (l1 + 1) 2 (some ⟨l1, 0, none⟩) 2 2 two ∧ HasArcs w3 (.slice tp tn tc) (two.map turn)) := ⟨I3.out.1.trans (h.mono I3.out.1.size), I3.out.2.1.keep h, I3.out.2.2.keep h, hA⟩
  clear h hA
  obtain ⟨ctwo0, ctwo1, ctwos⟩ := I4.out.2.2.1.cells
  go_wp2_with fail
  generalize hL : w3.alloc (.cells #[.int .i64 2, .slice tp tn tc] 24) = W3
  obtain ⟨hGr, hB⟩ := Gr.new (2) I4.out.2.2.2
  rw [hL] at hGr hB
  clear ctwo0 ctwo1 ctwos
  have I5 : Hid (Below w.heap.size w W3 ∧ HasArcs W3 (.slice (some ⟨l1, 0, none⟩) 2 2) two ∧ Gr W3 (l1 + 1) 2 (some ⟨l1, 0, none⟩) 2 2 two ∧ HasArcs W3 (.slice tp tn tc) (two.map turn) ∧ Gr W3 (w3.heap.size) 2 tp tn tc (two.map turn)) := ⟨I4.out.1.trans (hB.mono I4.out.1.size), I4.out.2.1.keep hB, I4.out.2.2.1.keep hB, I4.out.2.2.2.keep hB, hGr⟩
  clear hL hGr hB
  generalize w3.heap.size = tbx at *
  obtain ⟨ctwo0, ctwo1, ctwos⟩ := I5.out.2.2.1.cells
  obtain ⟨ct0, ct1, cts⟩ := I5.out.2.2.2.2.cells
  refine (deg_good I5.out.2.2.1.arcs (by unfold maxLen; decide) two_good).mono ?_
  rintro e w4 ⟨o1, l1', c1, o2, l2', c2, rfl, h1, h2, h⟩
  rw [show (2 : Int).toNat = 2 from rfl, two_out] at h1
  rw [show (2 : Int).toNat = 2 from rfl, two_in] at h2
  clear ctwo0 ctwo1 ctwos ct0 ct1 cts
  have I6 : Hid (Below w.heap.size w w4 ∧ HasArcs w4 (.slice (some ⟨l1, 0, none⟩) 2 2) two ∧ Gr w4 (l1 + 1) 2 (some ⟨l1, 0, none⟩) 2 2 two ∧ HasArcs w4 (.slice tp tn tc) (two.map turn) ∧ Gr w4 tbx 2 tp tn tc (two.map turn) ∧ HasInts w4 (.slice o1 l1' c1) [1, 1] ∧ HasInts w4 (.slice o2 l2' c2) [0, 2]) := ⟨I5.out.1.trans (h.mono I5.out.1.size), I5.out.2.1.keep h, I5.out.2.2.1.keep h, I5.out.2.2.2.1.keep h, I5.out.2.2.2.2.keep h, h1, h2⟩
  clear h h1 h2
  obtain ⟨ctwo0, ctwo1, ctwos⟩ := I6.out.2.2.1.cells
  obtain ⟨ct0, ct1, cts⟩ := I6.out.2.2.2.2.1.cells
  go_wp2_with fail
  generalize hL : w4.alloc (.cells #[.int .i64 1, .int .i64 0, .int .i64 1, .int .i64 0, .int .i64 1, .int .i64 1] 51) = L5
  obtain ⟨hA, hB⟩ := lit2 w4 (1, 0, 1) (0, 1, 1)
  simp only at hA hB
  rw [hL] at hA hB
  clear ctwo0 ctwo1 ctwos ct0 ct1 cts
  have I7 : Hid (Below w.heap.size w L5 ∧ HasArcs L5 (.slice (some ⟨l1, 0, none⟩) 2 2) two ∧ Gr L5 (l1 + 1) 2 (some ⟨l1, 0, none⟩) 2 2 two ∧ HasArcs L5 (.slice tp tn tc) (two.map turn) ∧ Gr L5 tbx 2 tp tn tc (two.map turn) ∧ HasInts L5 (.slice o1 l1' c1) [1, 1] ∧ HasInts L5 (.slice o2 l2' c2) [0, 2] ∧ HasArcs L5 (.slice (some ⟨w4.heap.size, 0, none⟩) 2 2) odd) := ⟨I6.out.1.trans (hB.mono I6.out.1.size), I6.out.2.1.keep hB, I6.out.2.2.1.keep hB, I6.out.2.2.2.1.keep hB, I6.out.2.2.2.2.1.keep hB, I6.out.2.2.2.2.2.1.keep hB, I6.out.2.2.2.2.2.2.keep hB, hA⟩
  clear hL hA hB
  generalize w4.heap.size = l5 at *
  obtain ⟨ctwo0, ctwo1, ctwos⟩ := I7.out.2.2.1.cells
  obtain ⟨ct0, ct1, cts⟩ := I7.out.2.2.2.2.1.cells
  refine (is_not I7.out.2.2.2.2.2.2.2 (by unfold maxLen; decide) odd_good odd_not).mono ?_
  rintro e w5 ⟨rfl, h⟩
  clear ctwo0 ctwo1 ctwos ct0 ct1 cts
  have I8 : Hid (Below w.heap.size w w5 ∧ HasArcs w5 (.slice (some ⟨l1, 0, none⟩) 2 2) two ∧ Gr w5 (l1 + 1) 2 (some ⟨l1, 0, none⟩) 2 2 two ∧ HasArcs w5 (.slice tp tn tc) (two.map turn) ∧ Gr w5 tbx 2 tp tn tc (two.map turn) ∧ HasInts w5 (.slice o1 l1' c1) [1, 1] ∧ HasInts w5 (.slice o2 l2' c2) [0, 2] ∧ HasArcs w5 (.slice (some ⟨l5, 0, none⟩) 2 2) odd) := ⟨I7.out.1.trans (h.mono I7.out.1.size), I7.out.2.1.keep h, I7.out.2.2.1.keep h, I7.out.2.2.2.1.keep h, I7.out.2.2.2.2.1.keep h, I7.out.2.2.2.2.2.1.keep h, I7.out.2.2.2.2.2.2.1.keep h, I7.out.2.2.2.2.2.2.2.keep h⟩
  clear h
  obtain ⟨ctwo0, ctwo1, ctwos⟩ := I8.out.2.2.1.cells
  obtain ⟨ct0, ct1, cts⟩ := I8.out.2.2.2.2.1.cells
  go_wp2_with fail
  generalize hL : w5.alloc (.cells #[.int .i64 1, .int .i64 0, .int .i64 4, .int .i64 1, .int .i64 1, .int .i64 2] 51) = L6
  obtain ⟨hA, hB⟩ := lit2 w5 (1, 0, 4) (1, 1, 2)
  simp only at hA hB
  rw [hL] at hA hB
  clear ctwo0 ctwo1 ctwos ct0 ct1 cts
  have I9 : Hid (Below w.heap.size w L6 ∧ HasArcs L6 (.slice (some ⟨l1, 0, none⟩) 2 2) two ∧ Gr L6 (l1 + 1) 2 (some ⟨l1, 0, none⟩) 2 2 two ∧ HasArcs L6 (.slice tp tn tc) (two.map turn) ∧ Gr L6 tbx 2 tp tn tc (two.map turn) ∧ HasInts L6 (.slice o1 l1' c1) [1, 1] ∧ HasInts L6 (.slice o2 l2' c2) [0, 2] ∧ HasArcs L6 (.slice (some ⟨l5, 0, none⟩) 2 2) odd ∧ HasArcs L6 (.slice (some ⟨w5.heap.size, 0, none⟩) 2 2) (two.map turn)) := ⟨I8.out.1.trans (hB.mono I8.out.1.size), I8.out.2.1.keep hB, I8.out.2.2.1.keep hB, I8.out.2.2.2.1.keep hB, I8.out.2.2.2.2.1.keep hB, I8.out.2.2.2.2.2.1.keep hB, I8.out.2.2.2.2.2.2.1.keep hB, I8.out.2.2.2.2.2.2.2.keep hB, hA⟩
  clear hL hA hB
  generalize w5.heap.size = l6 at *
  obtain ⟨ctwo0, ctwo1, ctwos⟩ := I9.out.2.2.1.cells
  obtain ⟨ct0, ct1, cts⟩ := I9.out.2.2.2.2.1.cells
  refine (same_yes 2 _ _ _ _ _ _ (two.map turn) _ I9.out.2.2.2.2.1.arcs I9.out.2.2.2.2.2.2.2.2 (by unfold maxLen; decide)).mono ?_
  rintro e w6 ⟨rfl, h⟩
  clear ctwo0 ctwo1 ctwos ct0 ct1 cts
  have I10 : Hid (Below w.heap.size w w6 ∧ HasArcs w6 (.slice (some ⟨l1, 0, none⟩) 2 2) two ∧ Gr w6 (l1 + 1) 2 (some ⟨l1, 0, none⟩) 2 2 two ∧ HasArcs w6 (.slice tp tn tc) (two.map turn) ∧ Gr w6 tbx 2 tp tn tc (two.map turn) ∧ HasInts w6 (.slice o1 l1' c1) [1, 1] ∧ HasInts w6 (.slice o2 l2' c2) [0, 2] ∧ HasArcs w6 (.slice (some ⟨l5, 0, none⟩) 2 2) odd ∧ HasArcs w6 (.slice (some ⟨l6, 0, none⟩) 2 2) (two.map turn)) := ⟨I9.out.1.trans (h.mono I9.out.1.size), I9.out.2.1.keep h, I9.out.2.2.1.keep h, I9.out.2.2.2.1.keep h, I9.out.2.2.2.2.1.keep h, I9.out.2.2.2.2.2.1.keep h, I9.out.2.2.2.2.2.2.1.keep h, I9.out.2.2.2.2.2.2.2.1.keep h, I9.out.2.2.2.2.2.2.2.2.keep h⟩
  clear h
  obtain ⟨ctwo0, ctwo1, ctwos⟩ := I10.out.2.2.1.cells
  obtain ⟨ct0, ct1, cts⟩ := I10.out.2.2.2.2.1.cells
  go_wp2_with fail
  generalize hL : w6.alloc (.cells #[.int .i64 1, .int .i64 1] 3) = L7
  obtain ⟨hA, hB⟩ := ints2 w6 1 1
  rw [hL] at hA hB
  clear ctwo0 ctwo1 ctwos ct0 ct1 cts
  have I11 : Hid (Below w.heap.size w L7 ∧ HasArcs L7 (.slice (some ⟨l1, 0, none⟩) 2 2) two ∧ Gr L7 (l1 + 1) 2 (some ⟨l1, 0, none⟩) 2 2 two ∧ HasArcs L7 (.slice tp tn tc) (two.map turn) ∧ Gr L7 tbx 2 tp tn tc (two.map turn) ∧ HasInts L7 (.slice o1 l1' c1) [1, 1] ∧ HasInts L7 (.slice o2 l2' c2) [0, 2] ∧ HasArcs L7 (.slice (some ⟨l5, 0, none⟩) 2 2) odd ∧ HasArcs L7 (.slice (some ⟨l6, 0, none⟩) 2 2) (two.map turn) ∧ HasInts L7 (.slice (some ⟨w6.heap.size, 0, none⟩) 2 2) [1, 1]) := ⟨I10.out.1.trans (hB.mono I10.out.1.size), I10.out.2.1.keep hB, I10.out.2.2.1.keep hB, I10.out.2.2.2.1.keep hB, I10.out.2.2.2.2.1.keep hB, I10.out.2.2.2.2.2.1.keep hB, I10.out.2.2.2.2.2.2.1.keep hB, I10.out.2.2.2.2.2.2.2.1.keep hB, I10.out.2.2.2.2.2.2.2.2.keep hB, hA⟩
  clear hL hA hB
  generalize w6.heap.size = l7 at *
  obtain ⟨ctwo0, ctwo1, ctwos⟩ := I11.out.2.2.1.cells
  obtain ⟨ct0, ct1, cts⟩ := I11.out.2.2.2.2.1.cells
  refine (sameInts_yes _ _ [1, 1] _ I11.out.2.2.2.2.2.1 I11.out.2.2.2.2.2.2.2.2.2 (by unfold maxLen; decide)).mono ?_
  rintro e w7 ⟨rfl, h⟩
  clear ctwo0 ctwo1 ctwos ct0 ct1 cts
  have I12 : Hid (Below w.heap.size w w7 ∧ HasArcs w7 (.slice (some ⟨l1, 0, none⟩) 2 2) two ∧ Gr w7 (l1 + 1) 2 (some ⟨l1, 0, none⟩) 2 2 two ∧ HasArcs w7 (.slice tp tn tc) (two.map turn) ∧ Gr w7 tbx 2 tp tn tc (two.map turn) ∧ HasInts w7 (.slice o1 l1' c1) [1, 1] ∧ HasInts w7 (.slice o2 l2' c2) [0, 2] ∧ HasArcs w7 (.slice (some ⟨l5, 0, none⟩) 2 2) odd ∧ HasArcs w7 (.slice (some ⟨l6, 0, none⟩) 2 2) (two.map turn) ∧ HasInts w7 (.slice (some ⟨l7, 0, none⟩) 2 2) [1, 1]) := ⟨I11.out.1.trans (h.mono I11.out.1.size), I11.out.2.1.keep h, I11.out.2.2.1.keep h, I11.out.2.2.2.1.keep h, I11.out.2.2.2.2.1.keep h, I11.out.2.2.2.2.2.1.keep h, I11.out.2.2.2.2.2.2.1.keep h, I11.out.2.2.2.2.2.2.2.1.keep h, I11.out.2.2.2.2.2.2.2.2.1.keep h, I11.out.2.2.2.2.2.2.2.2.2.keep h⟩
  clear h
  obtain ⟨ctwo0, ctwo1, ctwos⟩ := I12.out.2.2.1.cells
  obtain ⟨ct0, ct1, cts⟩ := I12.out.2.2.2.2.1.cells
  go_wp2_with fail
  generalize hL : w7.alloc (.cells #[.int .i64 0, .int .i64 2] 3) = L8
  obtain ⟨hA, hB⟩ := ints2 w7 0 2
  rw [hL] at hA hB
  clear ctwo0 ctwo1 ctwos ct0 ct1 cts
  have I13 : Hid (Below w.heap.size w L8 ∧ HasArcs L8 (.slice (some ⟨l1, 0, none⟩) 2 2) two ∧ Gr L8 (l1 + 1) 2 (some ⟨l1, 0, none⟩) 2 2 two ∧ HasArcs L8 (.slice tp tn tc) (two.map turn) ∧ Gr L8 tbx 2 tp tn tc (two.map turn) ∧ HasInts L8 (.slice o1 l1' c1) [1, 1] ∧ HasInts L8 (.slice o2 l2' c2) [0, 2] ∧ HasArcs L8 (.slice (some ⟨l5, 0, none⟩) 2 2) odd ∧ HasArcs L8 (.slice (some ⟨l6, 0, none⟩) 2 2) (two.map turn) ∧ HasInts L8 (.slice (some ⟨l7, 0, none⟩) 2 2) [1, 1] ∧ HasInts L8 (.slice (some ⟨w7.heap.size, 0, none⟩) 2 2) [0, 2]) := ⟨I12.out.1.trans (hB.mono I12.out.1.size), I12.out.2.1.keep hB, I12.out.2.2.1.keep hB, I12.out.2.2.2.1.keep hB, I12.out.2.2.2.2.1.keep hB, I12.out.2.2.2.2.2.1.keep hB, I12.out.2.2.2.2.2.2.1.keep hB, I12.out.2.2.2.2.2.2.2.1.keep hB, I12.out.2.2.2.2.2.2.2.2.1.keep hB, I12.out.2.2.2.2.2.2.2.2.2.keep hB, hA⟩
  clear hL hA hB
  generalize w7.heap.size = l8 at *
  obtain ⟨ctwo0, ctwo1, ctwos⟩ := I13.out.2.2.1.cells
  obtain ⟨ct0, ct1, cts⟩ := I13.out.2.2.2.2.1.cells
  refine (sameInts_yes _ _ [0, 2] _ I13.out.2.2.2.2.2.2.1 I13.out.2.2.2.2.2.2.2.2.2.2 (by unfold maxLen; decide)).mono ?_
  rintro e w8 ⟨rfl, h⟩
  clear ctwo0 ctwo1 ctwos ct0 ct1 cts
  have I14 : Hid (Below w.heap.size w w8 ∧ HasArcs w8 (.slice (some ⟨l1, 0, none⟩) 2 2) two ∧ Gr w8 (l1 + 1) 2 (some ⟨l1, 0, none⟩) 2 2 two ∧ HasArcs w8 (.slice tp tn tc) (two.map turn) ∧ Gr w8 tbx 2 tp tn tc (two.map turn) ∧ HasInts w8 (.slice o1 l1' c1) [1, 1] ∧ HasInts w8 (.slice o2 l2' c2) [0, 2] ∧ HasArcs w8 (.slice (some ⟨l5, 0, none⟩) 2 2) odd ∧ HasArcs w8 (.slice (some ⟨l6, 0, none⟩) 2 2) (two.map turn) ∧ HasInts w8 (.slice (some ⟨l7, 0, none⟩) 2 2) [1, 1] ∧ HasInts w8 (.slice (some ⟨l8, 0, none⟩) 2 2) [0, 2]) := ⟨I13.out.1.trans (h.mono I13.out.1.size), I13.out.2.1.keep h, I13.out.2.2.1.keep h, I13.out.2.2.2.1.keep h, I13.out.2.2.2.2.1.keep h, I13.out.2.2.2.2.2.1.keep h, I13.out.2.2.2.2.2.2.1.keep h, I13.out.2.2.2.2.2.2.2.1.keep h, I13.out.2.2.2.2.2.2.2.2.1.keep h, I13.out.2.2.2.2.2.2.2.2.2.1.keep h, I13.out.2.2.2.2.2.2.2.2.2.2.keep h⟩
  clear h
  obtain ⟨ctwo0, ctwo1, ctwos⟩ := I14.out.2.2.1.cells
  obtain ⟨ct0, ct1, cts⟩ := I14.out.2.2.2.2.1.cells
  clear ctwo0 ctwo1 ctwos ct0 ct1 cts
  have I15 : Hid (Below w.heap.size w w8 ∧ Gr w8 (l1 + 1) 2 (some ⟨l1, 0, none⟩) 2 2 two) := ⟨I14.out.1, I14.out.2.2.1⟩
  obtain ⟨ctwo0, ctwo1, ctwos⟩ := I15.out.2.cells
  have HX : Hid (∀ X, (((w8.alloc (.cells #[.int .i64 0, .int .i64 1, .int .i64 0] 51)).alloc (.cells #[.int .i64 1, .slice (some ⟨w8.heap.size, 0, none⟩) 1 1] 24)).alloc (.cells C 51)).alloc (.cells #[.int .i64 2, .slice (some ⟨w8.heap.size + 1 + 1, 0, none⟩) 262144 262144] 24) = X → Gr X (w8.heap.size + 1) 1 (some ⟨w8.heap.size, 0, none⟩) 1 1 bad1 ∧ Gr X (w8.heap.size + 1 + 1 + 1) 2 (some ⟨w8.heap.size + 1 + 1, 0, none⟩) 262144 262144 Z ∧ Below w8.heap.size w8 X) := fun X e => by
    obtain ⟨hA, hB⟩ := lit1 w8 (0, 1, 0)
    simp only at hA hB
    have s1 : (w8.alloc (.cells #[.int .i64 0, .int .i64 1, .int .i64 0] 51)).heap.size = w8.heap.size + 1 := by simp
    generalize w8.alloc (.cells #[.int .i64 0, .int .i64 1, .int .i64 0] 51) = X1 at *
    obtain ⟨hG1, hB1⟩ := Gr.new 1 hA
    have s2 : (X1.alloc (.cells #[.int .i64 1, .slice (some ⟨w8.heap.size, 0, none⟩) 1 1] 24)).heap.size = w8.heap.size + 1 + 1 := by simp [s1]
    generalize X1.alloc (.cells #[.int .i64 1, .slice (some ⟨w8.heap.size, 0, none⟩) 1 1] 24) = X2 at *
    have hA2 := HZ.out.1 X2
    have hB2 : Below X2.heap.size X2 (X2.alloc (.cells C 51)) := (Below.refl _ X2).alloc (Nat.le_refl _) _
    have s3 : (X2.alloc (.cells C 51)).heap.size = w8.heap.size + 1 + 1 + 1 := by simp [s2]
    generalize X2.alloc (.cells C 51) = X3 at *
    rw [s2] at hA2
    obtain ⟨hG3, hB3⟩ := Gr.new 2 hA2
    rw [e] at hG3 hB3
    rw [s3] at hG3
    rw [s1] at hG1
    refine ⟨(hG1.keep hB2).keep hB3, hG3, ((hB.trans (hB1.mono (by omega))).trans (hB2.mono (by omega))).trans (hB3.mono (by omega))⟩
  clear ctwo0 ctwo1 ctwos
  go_upto_region 11 with fail
  generalize hL : (((w8.alloc (.cells #[.int .i64 0, .int .i64 1, .int .i64 0] 51)).alloc (.cells #[.int .i64 1, .slice (some ⟨w8.heap.size, 0, none⟩) 1 1] 24)).alloc (.cells C 51)).alloc (.cells #[.int .i64 2, .slice (some ⟨w8.heap.size + 1 + 1, 0, none⟩) 262144 262144] 24) = W10
  obtain ⟨hG1, hG2, hB⟩ := HX.out W10 hL
  have I16 : Hid (Below w.heap.size w W10 ∧ Gr W10 (l1 + 1) 2 (some ⟨l1, 0, none⟩) 2 2 two ∧ Gr W10 (w8.heap.size + 1) 1 (some ⟨w8.heap.size, 0, none⟩) 1 1 bad1 ∧ Gr W10 (w8.heap.size + 1 + 1 + 1) 2 (some ⟨w8.heap.size + 1 + 1, 0, none⟩) 262144 262144 Z) := ⟨I15.out.1.trans (hB.mono I15.out.1.size), I15.out.2.keep hB, hG1, hG2⟩
  clear hL hG1 hG2 hB HX
  generalize w8.heap.size = q8 at *
  obtain ⟨ctwo0, ctwo1, ctwos⟩ := I16.out.2.1.cells
  obtain ⟨cbad0, cbad1, cbads⟩ := I16.out.2.2.1.cells
  obtain ⟨cbig0, cbig1, cbigs⟩ := I16.out.2.2.2.cells
  go_wp2_with fail
  refine (merge_any I16.out.2.1.arcs (arcs_none _) (fun h => by cases h) (fun _ => rfl) (by unfold maxLen; first | decide | (rw [HZ.out.2.1]; decide)) (by unfold maxLen; first | decide | (rw [HZ.out.2.1]; decide)) e_n (fun h => by cases h)).mono ?_
  rintro e w11 ⟨K, lo, q, lc, v1, zs, rfl, _, hT, _, h⟩
  clear ctwo0 ctwo1 ctwos cbad0 cbad1 cbads cbig0 cbig1 cbigs
  have I17 : Hid (Below w.heap.size w w11 ∧ Gr w11 (l1 + 1) 2 (some ⟨l1, 0, none⟩) 2 2 two ∧ Gr w11 (q8 + 1) 1 (some ⟨q8, 0, none⟩) 1 1 bad1 ∧ Gr w11 (q8 + 1 + 1 + 1) 2 (some ⟨q8 + 1 + 1, 0, none⟩) 262144 262144 Z ∧ IsTold w11 (1, []) v1) := ⟨I16.out.1.trans (h.mono I16.out.1.size), I16.out.2.1.keep h, I16.out.2.2.1.keep h, I16.out.2.2.2.keep h, hT⟩
  clear h hT
  obtain ⟨ctwo0, ctwo1, ctwos⟩ := I17.out.2.1.cells
  obtain ⟨cbad0, cbad1, cbads⟩ := I17.out.2.2.1.cells
  obtain ⟨cbig0, cbig1, cbigs⟩ := I17.out.2.2.2.1.cells
  go_wp2_with fail
  refine (merge_any I17.out.2.1.arcs I17.out.2.2.1.arcs (fun h => by cases h) (fun h => by cases h) (by unfold maxLen; first | decide | (rw [HZ.out.2.1]; decide)) (by unfold maxLen; first | decide | (rw [HZ.out.2.1]; decide)) e_bad (fun h => by cases h)).mono ?_
  rintro e w12 ⟨K, lo, q, lc, v2, zs, rfl, _, hT, _, h⟩
  clear ctwo0 ctwo1 ctwos cbad0 cbad1 cbads cbig0 cbig1 cbigs
  have I18 : Hid (Below w.heap.size w w12 ∧ Gr w12 (l1 + 1) 2 (some ⟨l1, 0, none⟩) 2 2 two ∧ Gr w12 (q8 + 1) 1 (some ⟨q8, 0, none⟩) 1 1 bad1 ∧ Gr w12 (q8 + 1 + 1 + 1) 2 (some ⟨q8 + 1 + 1, 0, none⟩) 262144 262144 Z ∧ IsTold w12 (1, []) v1 ∧ IsTold w12 (7, [(4, 0)]) v2) := ⟨I17.out.1.trans (h.mono I17.out.1.size), I17.out.2.1.keep h, I17.out.2.2.1.keep h, I17.out.2.2.2.1.keep h, Told.keep I17.out.2.2.2.2 h, hT⟩
  clear h hT
  obtain ⟨ctwo0, ctwo1, ctwos⟩ := I18.out.2.1.cells
  obtain ⟨cbad0, cbad1, cbads⟩ := I18.out.2.2.1.cells
  obtain ⟨cbig0, cbig1, cbigs⟩ := I18.out.2.2.2.1.cells
  go_wp2_with fail
  refine (merge_any I18.out.2.2.1.arcs (arcs_none _) (fun h => by cases h) (fun _ => rfl) (by unfold maxLen; first | decide | (rw [HZ.out.2.1]; decide)) (by unfold maxLen; first | decide | (rw [HZ.out.2.1]; decide)) e_bad2 (fun h => by cases h)).mono ?_
  rintro e w13 ⟨K, lo, q, lc, v3, zs, rfl, _, hT, _, h⟩
  clear ctwo0 ctwo1 ctwos cbad0 cbad1 cbads cbig0 cbig1 cbigs
  have I19 : Hid (Below w.heap.size w w13 ∧ Gr w13 (l1 + 1) 2 (some ⟨l1, 0, none⟩) 2 2 two ∧ Gr w13 (q8 + 1) 1 (some ⟨q8, 0, none⟩) 1 1 bad1 ∧ Gr w13 (q8 + 1 + 1 + 1) 2 (some ⟨q8 + 1 + 1, 0, none⟩) 262144 262144 Z ∧ IsTold w13 (1, []) v1 ∧ IsTold w13 (7, [(4, 0)]) v2 ∧ IsTold w13 (7, [(4, 0)]) v3) := ⟨I18.out.1.trans (h.mono I18.out.1.size), I18.out.2.1.keep h, I18.out.2.2.1.keep h, I18.out.2.2.2.1.keep h, Told.keep I18.out.2.2.2.2.1 h, Told.keep I18.out.2.2.2.2.2 h, hT⟩
  clear h hT
  obtain ⟨ctwo0, ctwo1, ctwos⟩ := I19.out.2.1.cells
  obtain ⟨cbad0, cbad1, cbads⟩ := I19.out.2.2.1.cells
  obtain ⟨cbig0, cbig1, cbigs⟩ := I19.out.2.2.2.1.cells
  go_wp2_with fail
  refine (merge_any I19.out.2.2.2.1.arcs I19.out.2.1.arcs (fun h => by cases h) (fun h => by cases h) (by unfold maxLen; first | decide | (rw [HZ.out.2.1]; decide)) (by unfold maxLen; first | decide | (rw [HZ.out.2.1]; decide)) (e_big HZ.out.2.1 HZ.out.2.2.1) (fun h => by cases h)).mono ?_
  rintro e w14 ⟨K, lo, q, lc, v4, zs, rfl, _, hT, _, h⟩
  clear ctwo0 ctwo1 ctwos cbad0 cbad1 cbads cbig0 cbig1 cbigs
  have I20 : Hid (Below w.heap.size w w14 ∧ Gr w14 (l1 + 1) 2 (some ⟨l1, 0, none⟩) 2 2 two ∧ Gr w14 (q8 + 1) 1 (some ⟨q8, 0, none⟩) 1 1 bad1 ∧ Gr w14 (q8 + 1 + 1 + 1) 2 (some ⟨q8 + 1 + 1, 0, none⟩) 262144 262144 Z ∧ IsTold w14 (1, []) v1 ∧ IsTold w14 (7, [(4, 0)]) v2 ∧ IsTold w14 (7, [(4, 0)]) v3 ∧ IsTold w14 (9, []) v4) := ⟨I19.out.1.trans (h.mono I19.out.1.size), I19.out.2.1.keep h, I19.out.2.2.1.keep h, I19.out.2.2.2.1.keep h, Told.keep I19.out.2.2.2.2.1 h, Told.keep I19.out.2.2.2.2.2.1 h, Told.keep I19.out.2.2.2.2.2.2 h, hT⟩
  clear h hT
  obtain ⟨ctwo0, ctwo1, ctwos⟩ := I20.out.2.1.cells
  obtain ⟨cbad0, cbad1, cbads⟩ := I20.out.2.2.1.cells
  obtain ⟨cbig0, cbig1, cbigs⟩ := I20.out.2.2.2.1.cells
  go_wp2_with fail
  generalize hL : w14.alloc (.cells #[.int .i64 K, .slice lo q lc] 24) = W14
  have hB : Below w14.heap.size w14 W14 := by rw [← hL]; exact (Below.refl _ w14).alloc (Nat.le_refl _) _
  clear ctwo0 ctwo1 ctwos cbad0 cbad1 cbads cbig0 cbig1 cbigs
  have I21 : Hid (Below w.heap.size w W14 ∧ Gr W14 (l1 + 1) 2 (some ⟨l1, 0, none⟩) 2 2 two ∧ Gr W14 (q8 + 1) 1 (some ⟨q8, 0, none⟩) 1 1 bad1 ∧ Gr W14 (q8 + 1 + 1 + 1) 2 (some ⟨q8 + 1 + 1, 0, none⟩) 262144 262144 Z ∧ IsTold W14 (1, []) v1 ∧ IsTold W14 (7, [(4, 0)]) v2 ∧ IsTold W14 (7, [(4, 0)]) v3 ∧ IsTold W14 (9, []) v4) := ⟨I20.out.1.trans (hB.mono I20.out.1.size), I20.out.2.1.keep hB, I20.out.2.2.1.keep hB, I20.out.2.2.2.1.keep hB, Told.keep I20.out.2.2.2.2.1 hB, Told.keep I20.out.2.2.2.2.2.1 hB, Told.keep I20.out.2.2.2.2.2.2.1 hB, Told.keep I20.out.2.2.2.2.2.2.2 hB⟩
  clear hL hB
  generalize w14.heap.size = x14 at *
  obtain ⟨ctwo0, ctwo1, ctwos⟩ := I21.out.2.1.cells
  obtain ⟨cbad0, cbad1, cbads⟩ := I21.out.2.2.1.cells
  obtain ⟨cbig0, cbig1, cbigs⟩ := I21.out.2.2.2.1.cells
  refine (merge_any I21.out.2.2.2.1.arcs (arcs_none _) (fun h => by cases h) (fun _ => rfl) (by unfold maxLen; rw [HZ.out.2.1]; decide) (by unfold maxLen; decide) (e_full HZ.out.2.1 HZ.out.2.2.1) (fun _ => by rw [HZ.out.2.1]; decide)).mono ?_
  rintro e w15 ⟨K5, mo, mq, mc, v5, zs, rfl, hA, hT, hO, h⟩
  obtain ⟨_, rfl, rfl⟩ : (0, []) = ((0, []) : Int × List (Int × Int)) ∧ K5 = 2 ∧ zs = Z ++ [] := by
    rcases hO with h | h
    · exact h
    · exact absurd rfl h.1
  have hv5 := told_ok hT
  subst hv5
  have hq5 : mq = 262144 := by have h1 := arcs_len hA; rw [List.append_nil, HZ.out.2.1] at h1; exact h1
  subst hq5
  clear ctwo0 ctwo1 ctwos cbad0 cbad1 cbads cbig0 cbig1 cbigs
  have I22 : Hid (Below w.heap.size w w15 ∧ Gr w15 (l1 + 1) 2 (some ⟨l1, 0, none⟩) 2 2 two ∧ Gr w15 (q8 + 1) 1 (some ⟨q8, 0, none⟩) 1 1 bad1 ∧ Gr w15 (q8 + 1 + 1 + 1) 2 (some ⟨q8 + 1 + 1, 0, none⟩) 262144 262144 Z ∧ IsTold w15 (1, []) v1 ∧ IsTold w15 (7, [(4, 0)]) v2 ∧ IsTold w15 (7, [(4, 0)]) v3 ∧ IsTold w15 (9, []) v4 ∧ HasArcs w15 (.slice mo 262144 mc) (Z ++ [])) := ⟨I21.out.1.trans (h.mono I21.out.1.size), I21.out.2.1.keep h, I21.out.2.2.1.keep h, I21.out.2.2.2.1.keep h, Told.keep I21.out.2.2.2.2.1 h, Told.keep I21.out.2.2.2.2.2.1 h, Told.keep I21.out.2.2.2.2.2.2.1 h, Told.keep I21.out.2.2.2.2.2.2.2 h, hA⟩
  clear h hA hT hO
  obtain ⟨ctwo0, ctwo1, ctwos⟩ := I22.out.2.1.cells
  obtain ⟨cbad0, cbad1, cbads⟩ := I22.out.2.2.1.cells
  obtain ⟨cbig0, cbig1, cbigs⟩ := I22.out.2.2.2.1.cells
  go_wp2_with fail
  generalize hL : w15.alloc (.cells #[.int .i64 2, .slice mo 262144 mc] 24) = W15
  obtain ⟨hGr, hB⟩ := Gr.new (2) I22.out.2.2.2.2.2.2.2.2
  rw [hL] at hGr hB
  clear ctwo0 ctwo1 ctwos cbad0 cbad1 cbads cbig0 cbig1 cbigs
  have I23 : Hid (Below w.heap.size w W15 ∧ Gr W15 (l1 + 1) 2 (some ⟨l1, 0, none⟩) 2 2 two ∧ Gr W15 (q8 + 1) 1 (some ⟨q8, 0, none⟩) 1 1 bad1 ∧ Gr W15 (q8 + 1 + 1 + 1) 2 (some ⟨q8 + 1 + 1, 0, none⟩) 262144 262144 Z ∧ IsTold W15 (1, []) v1 ∧ IsTold W15 (7, [(4, 0)]) v2 ∧ IsTold W15 (7, [(4, 0)]) v3 ∧ IsTold W15 (9, []) v4 ∧ HasArcs W15 (.slice mo 262144 mc) (Z ++ []) ∧ Gr W15 (w15.heap.size) 2 mo 262144 mc (Z ++ [])) := ⟨I22.out.1.trans (hB.mono I22.out.1.size), I22.out.2.1.keep hB, I22.out.2.2.1.keep hB, I22.out.2.2.2.1.keep hB, Told.keep I22.out.2.2.2.2.1 hB, Told.keep I22.out.2.2.2.2.2.1 hB, Told.keep I22.out.2.2.2.2.2.2.1 hB, Told.keep I22.out.2.2.2.2.2.2.2.1 hB, I22.out.2.2.2.2.2.2.2.2.keep hB, hGr⟩
  clear hL hGr hB
  generalize w15.heap.size = mb at *
  obtain ⟨ctwo0, ctwo1, ctwos⟩ := I23.out.2.1.cells
  obtain ⟨cbad0, cbad1, cbads⟩ := I23.out.2.2.1.cells
  obtain ⟨cbig0, cbig1, cbigs⟩ := I23.out.2.2.2.1.cells
  obtain ⟨cm0, cm1, cms⟩ := I23.out.2.2.2.2.2.2.2.2.2.cells
  refine (of_good I23.out.2.2.2.1.arcs (by unfold maxLen; rw [HZ.out.2.1]; decide) HZ.out.2.2.1).mono ?_
  rintro e w16 ⟨no, nn, nc, rfl, hA, h⟩
  rw [HZ.out.2.2.2] at hA
  have hn6 : nn = 0 := arcs_len hA
  subst hn6
  clear ctwo0 ctwo1 ctwos cbad0 cbad1 cbads cbig0 cbig1 cbigs cm0 cm1 cms
  have I24 : Hid (Below w.heap.size w w16 ∧ Gr w16 (l1 + 1) 2 (some ⟨l1, 0, none⟩) 2 2 two ∧ Gr w16 (q8 + 1) 1 (some ⟨q8, 0, none⟩) 1 1 bad1 ∧ Gr w16 (q8 + 1 + 1 + 1) 2 (some ⟨q8 + 1 + 1, 0, none⟩) 262144 262144 Z ∧ IsTold w16 (1, []) v1 ∧ IsTold w16 (7, [(4, 0)]) v2 ∧ IsTold w16 (7, [(4, 0)]) v3 ∧ IsTold w16 (9, []) v4 ∧ HasArcs w16 (.slice mo 262144 mc) (Z ++ []) ∧ Gr w16 mb 2 mo 262144 mc (Z ++ []) ∧ HasArcs w16 (.slice no 0 nc) []) := ⟨I23.out.1.trans (h.mono I23.out.1.size), I23.out.2.1.keep h, I23.out.2.2.1.keep h, I23.out.2.2.2.1.keep h, Told.keep I23.out.2.2.2.2.1 h, Told.keep I23.out.2.2.2.2.2.1 h, Told.keep I23.out.2.2.2.2.2.2.1 h, Told.keep I23.out.2.2.2.2.2.2.2.1 h, I23.out.2.2.2.2.2.2.2.2.1.keep h, I23.out.2.2.2.2.2.2.2.2.2.keep h, hA⟩
  clear h hA
  obtain ⟨ctwo0, ctwo1, ctwos⟩ := I24.out.2.1.cells
  obtain ⟨cbad0, cbad1, cbads⟩ := I24.out.2.2.1.cells
  obtain ⟨cbig0, cbig1, cbigs⟩ := I24.out.2.2.2.1.cells
  obtain ⟨cm0, cm1, cms⟩ := I24.out.2.2.2.2.2.2.2.2.2.1.cells
  go_wp2_with fail
  generalize hL : w16.alloc (.cells #[.int .i64 2, .slice no 0 nc] 24) = W16
  obtain ⟨hGr, hB⟩ := Gr.new (2) I24.out.2.2.2.2.2.2.2.2.2.2
  rw [hL] at hGr hB
  clear ctwo0 ctwo1 ctwos cbad0 cbad1 cbads cbig0 cbig1 cbigs cm0 cm1 cms
  have I25 : Hid (Below w.heap.size w W16 ∧ Gr W16 (l1 + 1) 2 (some ⟨l1, 0, none⟩) 2 2 two ∧ Gr W16 (q8 + 1) 1 (some ⟨q8, 0, none⟩) 1 1 bad1 ∧ Gr W16 (q8 + 1 + 1 + 1) 2 (some ⟨q8 + 1 + 1, 0, none⟩) 262144 262144 Z ∧ IsTold W16 (1, []) v1 ∧ IsTold W16 (7, [(4, 0)]) v2 ∧ IsTold W16 (7, [(4, 0)]) v3 ∧ IsTold W16 (9, []) v4 ∧ HasArcs W16 (.slice mo 262144 mc) (Z ++ []) ∧ Gr W16 mb 2 mo 262144 mc (Z ++ []) ∧ HasArcs W16 (.slice no 0 nc) [] ∧ Gr W16 (w16.heap.size) 2 no 0 nc []) := ⟨I24.out.1.trans (hB.mono I24.out.1.size), I24.out.2.1.keep hB, I24.out.2.2.1.keep hB, I24.out.2.2.2.1.keep hB, Told.keep I24.out.2.2.2.2.1 hB, Told.keep I24.out.2.2.2.2.2.1 hB, Told.keep I24.out.2.2.2.2.2.2.1 hB, Told.keep I24.out.2.2.2.2.2.2.2.1 hB, I24.out.2.2.2.2.2.2.2.2.1.keep hB, I24.out.2.2.2.2.2.2.2.2.2.1.keep hB, I24.out.2.2.2.2.2.2.2.2.2.2.keep hB, hGr⟩
  clear hL hGr hB
  generalize w16.heap.size = nb at *
  obtain ⟨ctwo0, ctwo1, ctwos⟩ := I25.out.2.1.cells
  obtain ⟨cbad0, cbad1, cbads⟩ := I25.out.2.2.1.cells
  obtain ⟨cbig0, cbig1, cbigs⟩ := I25.out.2.2.2.1.cells
  obtain ⟨cm0, cm1, cms⟩ := I25.out.2.2.2.2.2.2.2.2.2.1.cells
  obtain ⟨cn0, cn1, cns⟩ := I25.out.2.2.2.2.2.2.2.2.2.2.2.cells
  refine (of_err I25.out.2.2.1.arcs (by unfold maxLen; decide) bad_err).mono ?_
  rintro e w17 ⟨K7, so, sq, sc, v7, rfl, hT, h⟩
  clear ctwo0 ctwo1 ctwos cbad0 cbad1 cbads cbig0 cbig1 cbigs cm0 cm1 cms cn0 cn1 cns
  have I26 : Hid (Below w.heap.size w w17 ∧ Gr w17 (l1 + 1) 2 (some ⟨l1, 0, none⟩) 2 2 two ∧ Gr w17 (q8 + 1) 1 (some ⟨q8, 0, none⟩) 1 1 bad1 ∧ Gr w17 (q8 + 1 + 1 + 1) 2 (some ⟨q8 + 1 + 1, 0, none⟩) 262144 262144 Z ∧ IsTold w17 (1, []) v1 ∧ IsTold w17 (7, [(4, 0)]) v2 ∧ IsTold w17 (7, [(4, 0)]) v3 ∧ IsTold w17 (9, []) v4 ∧ HasArcs w17 (.slice mo 262144 mc) (Z ++ []) ∧ Gr w17 mb 2 mo 262144 mc (Z ++ []) ∧ HasArcs w17 (.slice no 0 nc) [] ∧ Gr w17 nb 2 no 0 nc [] ∧ IsTold w17 (7, [(4, 0)]) v7) := ⟨I25.out.1.trans (h.mono I25.out.1.size), I25.out.2.1.keep h, I25.out.2.2.1.keep h, I25.out.2.2.2.1.keep h, Told.keep I25.out.2.2.2.2.1 h, Told.keep I25.out.2.2.2.2.2.1 h, Told.keep I25.out.2.2.2.2.2.2.1 h, Told.keep I25.out.2.2.2.2.2.2.2.1 h, I25.out.2.2.2.2.2.2.2.2.1.keep h, I25.out.2.2.2.2.2.2.2.2.2.1.keep h, I25.out.2.2.2.2.2.2.2.2.2.2.1.keep h, I25.out.2.2.2.2.2.2.2.2.2.2.2.keep h, hT⟩
  clear h hT
  obtain ⟨ctwo0, ctwo1, ctwos⟩ := I26.out.2.1.cells
  obtain ⟨cbad0, cbad1, cbads⟩ := I26.out.2.2.1.cells
  obtain ⟨cbig0, cbig1, cbigs⟩ := I26.out.2.2.2.1.cells
  obtain ⟨cm0, cm1, cms⟩ := I26.out.2.2.2.2.2.2.2.2.2.1.cells
  obtain ⟨cn0, cn1, cns⟩ := I26.out.2.2.2.2.2.2.2.2.2.2.2.1.cells
  go_wp2_with fail
  generalize hL : w17.alloc (.cells #[.int .i64 K7, .slice so sq sc] 24) = W17
  have hB : Below w17.heap.size w17 W17 := by rw [← hL]; exact (Below.refl _ w17).alloc (Nat.le_refl _) _
  clear ctwo0 ctwo1 ctwos cbad0 cbad1 cbads cbig0 cbig1 cbigs cm0 cm1 cms cn0 cn1 cns
  have I27 : Hid (Below w.heap.size w W17 ∧ Gr W17 (l1 + 1) 2 (some ⟨l1, 0, none⟩) 2 2 two ∧ Gr W17 (q8 + 1) 1 (some ⟨q8, 0, none⟩) 1 1 bad1 ∧ Gr W17 (q8 + 1 + 1 + 1) 2 (some ⟨q8 + 1 + 1, 0, none⟩) 262144 262144 Z ∧ IsTold W17 (1, []) v1 ∧ IsTold W17 (7, [(4, 0)]) v2 ∧ IsTold W17 (7, [(4, 0)]) v3 ∧ IsTold W17 (9, []) v4 ∧ HasArcs W17 (.slice mo 262144 mc) (Z ++ []) ∧ Gr W17 mb 2 mo 262144 mc (Z ++ []) ∧ HasArcs W17 (.slice no 0 nc) [] ∧ Gr W17 nb 2 no 0 nc [] ∧ IsTold W17 (7, [(4, 0)]) v7) := ⟨I26.out.1.trans (hB.mono I26.out.1.size), I26.out.2.1.keep hB, I26.out.2.2.1.keep hB, I26.out.2.2.2.1.keep hB, Told.keep I26.out.2.2.2.2.1 hB, Told.keep I26.out.2.2.2.2.2.1 hB, Told.keep I26.out.2.2.2.2.2.2.1 hB, Told.keep I26.out.2.2.2.2.2.2.2.1 hB, I26.out.2.2.2.2.2.2.2.2.1.keep hB, I26.out.2.2.2.2.2.2.2.2.2.1.keep hB, I26.out.2.2.2.2.2.2.2.2.2.2.1.keep hB, I26.out.2.2.2.2.2.2.2.2.2.2.2.1.keep hB, Told.keep I26.out.2.2.2.2.2.2.2.2.2.2.2.2 hB⟩
  clear hL hB
  generalize w17.heap.size = x17 at *
  obtain ⟨ctwo0, ctwo1, ctwos⟩ := I27.out.2.1.cells
  obtain ⟨cbad0, cbad1, cbads⟩ := I27.out.2.2.1.cells
  obtain ⟨cbig0, cbig1, cbigs⟩ := I27.out.2.2.2.1.cells
  obtain ⟨cm0, cm1, cms⟩ := I27.out.2.2.2.2.2.2.2.2.2.1.cells
  obtain ⟨cn0, cn1, cns⟩ := I27.out.2.2.2.2.2.2.2.2.2.2.2.1.cells
  refine (E_calls 1 _).mono ?_
  rintro e w18 ⟨rfl, h⟩
  clear ctwo0 ctwo1 ctwos cbad0 cbad1 cbads cbig0 cbig1 cbigs cm0 cm1 cms cn0 cn1 cns
  have I28 : Hid (Below w.heap.size w w18 ∧ Gr w18 (l1 + 1) 2 (some ⟨l1, 0, none⟩) 2 2 two ∧ Gr w18 (q8 + 1) 1 (some ⟨q8, 0, none⟩) 1 1 bad1 ∧ Gr w18 (q8 + 1 + 1 + 1) 2 (some ⟨q8 + 1 + 1, 0, none⟩) 262144 262144 Z ∧ IsTold w18 (1, []) v1 ∧ IsTold w18 (7, [(4, 0)]) v2 ∧ IsTold w18 (7, [(4, 0)]) v3 ∧ IsTold w18 (9, []) v4 ∧ HasArcs w18 (.slice mo 262144 mc) (Z ++ []) ∧ Gr w18 mb 2 mo 262144 mc (Z ++ []) ∧ HasArcs w18 (.slice no 0 nc) [] ∧ Gr w18 nb 2 no 0 nc [] ∧ IsTold w18 (7, [(4, 0)]) v7) := ⟨I27.out.1.trans (h.mono I27.out.1.size), I27.out.2.1.keep h, I27.out.2.2.1.keep h, I27.out.2.2.2.1.keep h, Told.keep I27.out.2.2.2.2.1 h, Told.keep I27.out.2.2.2.2.2.1 h, Told.keep I27.out.2.2.2.2.2.2.1 h, Told.keep I27.out.2.2.2.2.2.2.2.1 h, I27.out.2.2.2.2.2.2.2.2.1.keep h, I27.out.2.2.2.2.2.2.2.2.2.1.keep h, I27.out.2.2.2.2.2.2.2.2.2.2.1.keep h, I27.out.2.2.2.2.2.2.2.2.2.2.2.1.keep h, Told.keep I27.out.2.2.2.2.2.2.2.2.2.2.2.2 h⟩
  clear h
  obtain ⟨ctwo0, ctwo1, ctwos⟩ := I28.out.2.1.cells
  obtain ⟨cbad0, cbad1, cbads⟩ := I28.out.2.2.1.cells
  obtain ⟨cbig0, cbig1, cbigs⟩ := I28.out.2.2.2.1.cells
  obtain ⟨cm0, cm1, cms⟩ := I28.out.2.2.2.2.2.2.2.2.2.1.cells
  obtain ⟨cn0, cn1, cns⟩ := I28.out.2.2.2.2.2.2.2.2.2.2.2.1.cells
  go_wp2_with fail
  refine (seen_num I28.out.2.2.2.2.1 (HG.out _ I28.out.1)).mono ?_
  rintro e w19 ⟨rfl, h⟩
  clear ctwo0 ctwo1 ctwos cbad0 cbad1 cbads cbig0 cbig1 cbigs cm0 cm1 cms cn0 cn1 cns
  have I29 : Hid (Below w.heap.size w w19 ∧ Gr w19 (l1 + 1) 2 (some ⟨l1, 0, none⟩) 2 2 two ∧ Gr w19 (q8 + 1) 1 (some ⟨q8, 0, none⟩) 1 1 bad1 ∧ Gr w19 (q8 + 1 + 1 + 1) 2 (some ⟨q8 + 1 + 1, 0, none⟩) 262144 262144 Z ∧ IsTold w19 (1, []) v1 ∧ IsTold w19 (7, [(4, 0)]) v2 ∧ IsTold w19 (7, [(4, 0)]) v3 ∧ IsTold w19 (9, []) v4 ∧ HasArcs w19 (.slice mo 262144 mc) (Z ++ []) ∧ Gr w19 mb 2 mo 262144 mc (Z ++ []) ∧ HasArcs w19 (.slice no 0 nc) [] ∧ Gr w19 nb 2 no 0 nc [] ∧ IsTold w19 (7, [(4, 0)]) v7) := ⟨I28.out.1.trans (h.mono I28.out.1.size), I28.out.2.1.keep h, I28.out.2.2.1.keep h, I28.out.2.2.2.1.keep h, Told.keep I28.out.2.2.2.2.1 h, Told.keep I28.out.2.2.2.2.2.1 h, Told.keep I28.out.2.2.2.2.2.2.1 h, Told.keep I28.out.2.2.2.2.2.2.2.1 h, I28.out.2.2.2.2.2.2.2.2.1.keep h, I28.out.2.2.2.2.2.2.2.2.2.1.keep h, I28.out.2.2.2.2.2.2.2.2.2.2.1.keep h, I28.out.2.2.2.2.2.2.2.2.2.2.2.1.keep h, Told.keep I28.out.2.2.2.2.2.2.2.2.2.2.2.2 h⟩
  clear h
  obtain ⟨ctwo0, ctwo1, ctwos⟩ := I29.out.2.1.cells
  obtain ⟨cbad0, cbad1, cbads⟩ := I29.out.2.2.1.cells
  obtain ⟨cbig0, cbig1, cbigs⟩ := I29.out.2.2.2.1.cells
  obtain ⟨cm0, cm1, cms⟩ := I29.out.2.2.2.2.2.2.2.2.2.1.cells
  obtain ⟨cn0, cn1, cns⟩ := I29.out.2.2.2.2.2.2.2.2.2.2.2.1.cells
  go_wp2_with fail
  refine (E_calls 7 _).mono ?_
  rintro e w20 ⟨rfl, h⟩
  clear ctwo0 ctwo1 ctwos cbad0 cbad1 cbads cbig0 cbig1 cbigs cm0 cm1 cms cn0 cn1 cns
  have I30 : Hid (Below w.heap.size w w20 ∧ Gr w20 (l1 + 1) 2 (some ⟨l1, 0, none⟩) 2 2 two ∧ Gr w20 (q8 + 1) 1 (some ⟨q8, 0, none⟩) 1 1 bad1 ∧ Gr w20 (q8 + 1 + 1 + 1) 2 (some ⟨q8 + 1 + 1, 0, none⟩) 262144 262144 Z ∧ IsTold w20 (1, []) v1 ∧ IsTold w20 (7, [(4, 0)]) v2 ∧ IsTold w20 (7, [(4, 0)]) v3 ∧ IsTold w20 (9, []) v4 ∧ HasArcs w20 (.slice mo 262144 mc) (Z ++ []) ∧ Gr w20 mb 2 mo 262144 mc (Z ++ []) ∧ HasArcs w20 (.slice no 0 nc) [] ∧ Gr w20 nb 2 no 0 nc [] ∧ IsTold w20 (7, [(4, 0)]) v7) := ⟨I29.out.1.trans (h.mono I29.out.1.size), I29.out.2.1.keep h, I29.out.2.2.1.keep h, I29.out.2.2.2.1.keep h, Told.keep I29.out.2.2.2.2.1 h, Told.keep I29.out.2.2.2.2.2.1 h, Told.keep I29.out.2.2.2.2.2.2.1 h, Told.keep I29.out.2.2.2.2.2.2.2.1 h, I29.out.2.2.2.2.2.2.2.2.1.keep h, I29.out.2.2.2.2.2.2.2.2.2.1.keep h, I29.out.2.2.2.2.2.2.2.2.2.2.1.keep h, I29.out.2.2.2.2.2.2.2.2.2.2.2.1.keep h, Told.keep I29.out.2.2.2.2.2.2.2.2.2.2.2.2 h⟩
  clear h
  obtain ⟨ctwo0, ctwo1, ctwos⟩ := I30.out.2.1.cells
  obtain ⟨cbad0, cbad1, cbads⟩ := I30.out.2.2.1.cells
  obtain ⟨cbig0, cbig1, cbigs⟩ := I30.out.2.2.2.1.cells
  obtain ⟨cm0, cm1, cms⟩ := I30.out.2.2.2.2.2.2.2.2.2.1.cells
  obtain ⟨cn0, cn1, cns⟩ := I30.out.2.2.2.2.2.2.2.2.2.2.2.1.cells
  go_wp2_with fail
  refine (refAt_calls 4 0 7 _).mono ?_
  rintro e w21 ⟨g1, rfl, hp, h⟩
  clear ctwo0 ctwo1 ctwos cbad0 cbad1 cbads cbig0 cbig1 cbigs cm0 cm1 cms cn0 cn1 cns
  have I31 : Hid (Below w.heap.size w w21 ∧ Gr w21 (l1 + 1) 2 (some ⟨l1, 0, none⟩) 2 2 two ∧ Gr w21 (q8 + 1) 1 (some ⟨q8, 0, none⟩) 1 1 bad1 ∧ Gr w21 (q8 + 1 + 1 + 1) 2 (some ⟨q8 + 1 + 1, 0, none⟩) 262144 262144 Z ∧ IsTold w21 (1, []) v1 ∧ IsTold w21 (7, [(4, 0)]) v2 ∧ IsTold w21 (7, [(4, 0)]) v3 ∧ IsTold w21 (9, []) v4 ∧ HasArcs w21 (.slice mo 262144 mc) (Z ++ []) ∧ Gr w21 mb 2 mo 262144 mc (Z ++ []) ∧ HasArcs w21 (.slice no 0 nc) [] ∧ Gr w21 nb 2 no 0 nc [] ∧ IsTold w21 (7, [(4, 0)]) v7 ∧ w21.heap[g1]? = some (.cells #[.int .i64 4, .int .i64 0] 68)) := ⟨I30.out.1.trans (h.mono I30.out.1.size), I30.out.2.1.keep h, I30.out.2.2.1.keep h, I30.out.2.2.2.1.keep h, Told.keep I30.out.2.2.2.2.1 h, Told.keep I30.out.2.2.2.2.2.1 h, Told.keep I30.out.2.2.2.2.2.2.1 h, Told.keep I30.out.2.2.2.2.2.2.2.1 h, I30.out.2.2.2.2.2.2.2.2.1.keep h, I30.out.2.2.2.2.2.2.2.2.2.1.keep h, I30.out.2.2.2.2.2.2.2.2.2.2.1.keep h, I30.out.2.2.2.2.2.2.2.2.2.2.2.1.keep h, Told.keep I30.out.2.2.2.2.2.2.2.2.2.2.2.2 h, hp⟩
  clear h hp
  obtain ⟨ctwo0, ctwo1, ctwos⟩ := I31.out.2.1.cells
  obtain ⟨cbad0, cbad1, cbads⟩ := I31.out.2.2.1.cells
  obtain ⟨cbig0, cbig1, cbigs⟩ := I31.out.2.2.2.1.cells
  obtain ⟨cm0, cm1, cms⟩ := I31.out.2.2.2.2.2.2.2.2.2.1.cells
  obtain ⟨cn0, cn1, cns⟩ := I31.out.2.2.2.2.2.2.2.2.2.2.2.1.cells
  go_wp2_with fail
  refine (seen_at rfl I31.out.2.2.2.2.2.1 (HG.out _ I31.out.1) I31.out.2.2.2.2.2.2.2.2.2.2.2.2.2).mono ?_
  rintro e w22 ⟨rfl, h⟩
  clear ctwo0 ctwo1 ctwos cbad0 cbad1 cbads cbig0 cbig1 cbigs cm0 cm1 cms cn0 cn1 cns
  have I32 : Hid (Below w.heap.size w w22 ∧ Gr w22 (l1 + 1) 2 (some ⟨l1, 0, none⟩) 2 2 two ∧ Gr w22 (q8 + 1) 1 (some ⟨q8, 0, none⟩) 1 1 bad1 ∧ Gr w22 (q8 + 1 + 1 + 1) 2 (some ⟨q8 + 1 + 1, 0, none⟩) 262144 262144 Z ∧ IsTold w22 (1, []) v1 ∧ IsTold w22 (7, [(4, 0)]) v2 ∧ IsTold w22 (7, [(4, 0)]) v3 ∧ IsTold w22 (9, []) v4 ∧ HasArcs w22 (.slice mo 262144 mc) (Z ++ []) ∧ Gr w22 mb 2 mo 262144 mc (Z ++ []) ∧ HasArcs w22 (.slice no 0 nc) [] ∧ Gr w22 nb 2 no 0 nc [] ∧ IsTold w22 (7, [(4, 0)]) v7 ∧ w22.heap[g1]? = some (.cells #[.int .i64 4, .int .i64 0] 68)) := ⟨I31.out.1.trans (h.mono I31.out.1.size), I31.out.2.1.keep h, I31.out.2.2.1.keep h, I31.out.2.2.2.1.keep h, Told.keep I31.out.2.2.2.2.1 h, Told.keep I31.out.2.2.2.2.2.1 h, Told.keep I31.out.2.2.2.2.2.2.1 h, Told.keep I31.out.2.2.2.2.2.2.2.1 h, I31.out.2.2.2.2.2.2.2.2.1.keep h, I31.out.2.2.2.2.2.2.2.2.2.1.keep h, I31.out.2.2.2.2.2.2.2.2.2.2.1.keep h, I31.out.2.2.2.2.2.2.2.2.2.2.2.1.keep h, Told.keep I31.out.2.2.2.2.2.2.2.2.2.2.2.2.1 h, (h.block _ (lt_of_get I31.out.2.2.2.2.2.2.2.2.2.2.2.2.2)).trans I31.out.2.2.2.2.2.2.2.2.2.2.2.2.2⟩
  clear h
  obtain ⟨ctwo0, ctwo1, ctwos⟩ := I32.out.2.1.cells
  obtain ⟨cbad0, cbad1, cbads⟩ := I32.out.2.2.1.cells
  obtain ⟨cbig0, cbig1, cbigs⟩ := I32.out.2.2.2.1.cells
  obtain ⟨cm0, cm1, cms⟩ := I32.out.2.2.2.2.2.2.2.2.2.1.cells
  obtain ⟨cn0, cn1, cns⟩ := I32.out.2.2.2.2.2.2.2.2.2.2.2.1.cells
  go_wp2_with fail
  refine (E_calls 7 _).mono ?_
  rintro e w23 ⟨rfl, h⟩
  clear ctwo0 ctwo1 ctwos cbad0 cbad1 cbads cbig0 cbig1 cbigs cm0 cm1 cms cn0 cn1 cns
  have I33 : Hid (Below w.heap.size w w23 ∧ Gr w23 (l1 + 1) 2 (some ⟨l1, 0, none⟩) 2 2 two ∧ Gr w23 (q8 + 1) 1 (some ⟨q8, 0, none⟩) 1 1 bad1 ∧ Gr w23 (q8 + 1 + 1 + 1) 2 (some ⟨q8 + 1 + 1, 0, none⟩) 262144 262144 Z ∧ IsTold w23 (1, []) v1 ∧ IsTold w23 (7, [(4, 0)]) v2 ∧ IsTold w23 (7, [(4, 0)]) v3 ∧ IsTold w23 (9, []) v4 ∧ HasArcs w23 (.slice mo 262144 mc) (Z ++ []) ∧ Gr w23 mb 2 mo 262144 mc (Z ++ []) ∧ HasArcs w23 (.slice no 0 nc) [] ∧ Gr w23 nb 2 no 0 nc [] ∧ IsTold w23 (7, [(4, 0)]) v7 ∧ w23.heap[g1]? = some (.cells #[.int .i64 4, .int .i64 0] 68)) := ⟨I32.out.1.trans (h.mono I32.out.1.size), I32.out.2.1.keep h, I32.out.2.2.1.keep h, I32.out.2.2.2.1.keep h, Told.keep I32.out.2.2.2.2.1 h, Told.keep I32.out.2.2.2.2.2.1 h, Told.keep I32.out.2.2.2.2.2.2.1 h, Told.keep I32.out.2.2.2.2.2.2.2.1 h, I32.out.2.2.2.2.2.2.2.2.1.keep h, I32.out.2.2.2.2.2.2.2.2.2.1.keep h, I32.out.2.2.2.2.2.2.2.2.2.2.1.keep h, I32.out.2.2.2.2.2.2.2.2.2.2.2.1.keep h, Told.keep I32.out.2.2.2.2.2.2.2.2.2.2.2.2.1 h, (h.block _ (lt_of_get I32.out.2.2.2.2.2.2.2.2.2.2.2.2.2)).trans I32.out.2.2.2.2.2.2.2.2.2.2.2.2.2⟩
  clear h
  obtain ⟨ctwo0, ctwo1, ctwos⟩ := I33.out.2.1.cells
  obtain ⟨cbad0, cbad1, cbads⟩ := I33.out.2.2.1.cells
  obtain ⟨cbig0, cbig1, cbigs⟩ := I33.out.2.2.2.1.cells
  obtain ⟨cm0, cm1, cms⟩ := I33.out.2.2.2.2.2.2.2.2.2.1.cells
  obtain ⟨cn0, cn1, cns⟩ := I33.out.2.2.2.2.2.2.2.2.2.2.2.1.cells
  go_wp2_with fail
  refine (refAt_calls 4 0 7 _).mono ?_
  rintro e w24 ⟨g2, rfl, hp, h⟩
  clear ctwo0 ctwo1 ctwos cbad0 cbad1 cbads cbig0 cbig1 cbigs cm0 cm1 cms cn0 cn1 cns
  have I34 : Hid (Below w.heap.size w w24 ∧ Gr w24 (l1 + 1) 2 (some ⟨l1, 0, none⟩) 2 2 two ∧ Gr w24 (q8 + 1) 1 (some ⟨q8, 0, none⟩) 1 1 bad1 ∧ Gr w24 (q8 + 1 + 1 + 1) 2 (some ⟨q8 + 1 + 1, 0, none⟩) 262144 262144 Z ∧ IsTold w24 (1, []) v1 ∧ IsTold w24 (7, [(4, 0)]) v2 ∧ IsTold w24 (7, [(4, 0)]) v3 ∧ IsTold w24 (9, []) v4 ∧ HasArcs w24 (.slice mo 262144 mc) (Z ++ []) ∧ Gr w24 mb 2 mo 262144 mc (Z ++ []) ∧ HasArcs w24 (.slice no 0 nc) [] ∧ Gr w24 nb 2 no 0 nc [] ∧ IsTold w24 (7, [(4, 0)]) v7 ∧ w24.heap[g1]? = some (.cells #[.int .i64 4, .int .i64 0] 68) ∧ w24.heap[g2]? = some (.cells #[.int .i64 4, .int .i64 0] 68)) := ⟨I33.out.1.trans (h.mono I33.out.1.size), I33.out.2.1.keep h, I33.out.2.2.1.keep h, I33.out.2.2.2.1.keep h, Told.keep I33.out.2.2.2.2.1 h, Told.keep I33.out.2.2.2.2.2.1 h, Told.keep I33.out.2.2.2.2.2.2.1 h, Told.keep I33.out.2.2.2.2.2.2.2.1 h, I33.out.2.2.2.2.2.2.2.2.1.keep h, I33.out.2.2.2.2.2.2.2.2.2.1.keep h, I33.out.2.2.2.2.2.2.2.2.2.2.1.keep h, I33.out.2.2.2.2.2.2.2.2.2.2.2.1.keep h, Told.keep I33.out.2.2.2.2.2.2.2.2.2.2.2.2.1 h, (h.block _ (lt_of_get I33.out.2.2.2.2.2.2.2.2.2.2.2.2.2)).trans I33.out.2.2.2.2.2.2.2.2.2.2.2.2.2, hp⟩
  clear h hp
  obtain ⟨ctwo0, ctwo1, ctwos⟩ := I34.out.2.1.cells
  obtain ⟨cbad0, cbad1, cbads⟩ := I34.out.2.2.1.cells
  obtain ⟨cbig0, cbig1, cbigs⟩ := I34.out.2.2.2.1.cells
  obtain ⟨cm0, cm1, cms⟩ := I34.out.2.2.2.2.2.2.2.2.2.1.cells
  obtain ⟨cn0, cn1, cns⟩ := I34.out.2.2.2.2.2.2.2.2.2.2.2.1.cells
  go_wp2_with fail
  refine (seen_at rfl I34.out.2.2.2.2.2.2.1 (HG.out _ I34.out.1) I34.out.2.2.2.2.2.2.2.2.2.2.2.2.2.2).mono ?_
  rintro e w25 ⟨rfl, h⟩
  clear ctwo0 ctwo1 ctwos cbad0 cbad1 cbads cbig0 cbig1 cbigs cm0 cm1 cms cn0 cn1 cns
  have I35 : Hid (Below w.heap.size w w25 ∧ Gr w25 (l1 + 1) 2 (some ⟨l1, 0, none⟩) 2 2 two ∧ Gr w25 (q8 + 1) 1 (some ⟨q8, 0, none⟩) 1 1 bad1 ∧ Gr w25 (q8 + 1 + 1 + 1) 2 (some ⟨q8 + 1 + 1, 0, none⟩) 262144 262144 Z ∧ IsTold w25 (1, []) v1 ∧ IsTold w25 (7, [(4, 0)]) v2 ∧ IsTold w25 (7, [(4, 0)]) v3 ∧ IsTold w25 (9, []) v4 ∧ HasArcs w25 (.slice mo 262144 mc) (Z ++ []) ∧ Gr w25 mb 2 mo 262144 mc (Z ++ []) ∧ HasArcs w25 (.slice no 0 nc) [] ∧ Gr w25 nb 2 no 0 nc [] ∧ IsTold w25 (7, [(4, 0)]) v7 ∧ w25.heap[g1]? = some (.cells #[.int .i64 4, .int .i64 0] 68) ∧ w25.heap[g2]? = some (.cells #[.int .i64 4, .int .i64 0] 68)) := ⟨I34.out.1.trans (h.mono I34.out.1.size), I34.out.2.1.keep h, I34.out.2.2.1.keep h, I34.out.2.2.2.1.keep h, Told.keep I34.out.2.2.2.2.1 h, Told.keep I34.out.2.2.2.2.2.1 h, Told.keep I34.out.2.2.2.2.2.2.1 h, Told.keep I34.out.2.2.2.2.2.2.2.1 h, I34.out.2.2.2.2.2.2.2.2.1.keep h, I34.out.2.2.2.2.2.2.2.2.2.1.keep h, I34.out.2.2.2.2.2.2.2.2.2.2.1.keep h, I34.out.2.2.2.2.2.2.2.2.2.2.2.1.keep h, Told.keep I34.out.2.2.2.2.2.2.2.2.2.2.2.2.1 h, (h.block _ (lt_of_get I34.out.2.2.2.2.2.2.2.2.2.2.2.2.2.1)).trans I34.out.2.2.2.2.2.2.2.2.2.2.2.2.2.1, (h.block _ (lt_of_get I34.out.2.2.2.2.2.2.2.2.2.2.2.2.2.2)).trans I34.out.2.2.2.2.2.2.2.2.2.2.2.2.2.2⟩
  clear h
  obtain ⟨ctwo0, ctwo1, ctwos⟩ := I35.out.2.1.cells
  obtain ⟨cbad0, cbad1, cbads⟩ := I35.out.2.2.1.cells
  obtain ⟨cbig0, cbig1, cbigs⟩ := I35.out.2.2.2.1.cells
  obtain ⟨cm0, cm1, cms⟩ := I35.out.2.2.2.2.2.2.2.2.2.1.cells
  obtain ⟨cn0, cn1, cns⟩ := I35.out.2.2.2.2.2.2.2.2.2.2.2.1.cells
  go_wp2_with fail
  refine (E_calls 9 _).mono ?_
  rintro e w26 ⟨rfl, h⟩
  clear ctwo0 ctwo1 ctwos cbad0 cbad1 cbads cbig0 cbig1 cbigs cm0 cm1 cms cn0 cn1 cns
  have I36 : Hid (Below w.heap.size w w26 ∧ Gr w26 (l1 + 1) 2 (some ⟨l1, 0, none⟩) 2 2 two ∧ Gr w26 (q8 + 1) 1 (some ⟨q8, 0, none⟩) 1 1 bad1 ∧ Gr w26 (q8 + 1 + 1 + 1) 2 (some ⟨q8 + 1 + 1, 0, none⟩) 262144 262144 Z ∧ IsTold w26 (1, []) v1 ∧ IsTold w26 (7, [(4, 0)]) v2 ∧ IsTold w26 (7, [(4, 0)]) v3 ∧ IsTold w26 (9, []) v4 ∧ HasArcs w26 (.slice mo 262144 mc) (Z ++ []) ∧ Gr w26 mb 2 mo 262144 mc (Z ++ []) ∧ HasArcs w26 (.slice no 0 nc) [] ∧ Gr w26 nb 2 no 0 nc [] ∧ IsTold w26 (7, [(4, 0)]) v7 ∧ w26.heap[g1]? = some (.cells #[.int .i64 4, .int .i64 0] 68) ∧ w26.heap[g2]? = some (.cells #[.int .i64 4, .int .i64 0] 68)) := ⟨I35.out.1.trans (h.mono I35.out.1.size), I35.out.2.1.keep h, I35.out.2.2.1.keep h, I35.out.2.2.2.1.keep h, Told.keep I35.out.2.2.2.2.1 h, Told.keep I35.out.2.2.2.2.2.1 h, Told.keep I35.out.2.2.2.2.2.2.1 h, Told.keep I35.out.2.2.2.2.2.2.2.1 h, I35.out.2.2.2.2.2.2.2.2.1.keep h, I35.out.2.2.2.2.2.2.2.2.2.1.keep h, I35.out.2.2.2.2.2.2.2.2.2.2.1.keep h, I35.out.2.2.2.2.2.2.2.2.2.2.2.1.keep h, Told.keep I35.out.2.2.2.2.2.2.2.2.2.2.2.2.1 h, (h.block _ (lt_of_get I35.out.2.2.2.2.2.2.2.2.2.2.2.2.2.1)).trans I35.out.2.2.2.2.2.2.2.2.2.2.2.2.2.1, (h.block _ (lt_of_get I35.out.2.2.2.2.2.2.2.2.2.2.2.2.2.2)).trans I35.out.2.2.2.2.2.2.2.2.2.2.2.2.2.2⟩
  clear h
  obtain ⟨ctwo0, ctwo1, ctwos⟩ := I36.out.2.1.cells
  obtain ⟨cbad0, cbad1, cbads⟩ := I36.out.2.2.1.cells
  obtain ⟨cbig0, cbig1, cbigs⟩ := I36.out.2.2.2.1.cells
  obtain ⟨cm0, cm1, cms⟩ := I36.out.2.2.2.2.2.2.2.2.2.1.cells
  obtain ⟨cn0, cn1, cns⟩ := I36.out.2.2.2.2.2.2.2.2.2.2.2.1.cells
  go_wp2_with fail
  refine (seen_num I36.out.2.2.2.2.2.2.2.1 (HG.out _ I36.out.1)).mono ?_
  rintro e w27 ⟨rfl, h⟩
  clear ctwo0 ctwo1 ctwos cbad0 cbad1 cbads cbig0 cbig1 cbigs cm0 cm1 cms cn0 cn1 cns
  have I37 : Hid (Below w.heap.size w w27 ∧ Gr w27 (l1 + 1) 2 (some ⟨l1, 0, none⟩) 2 2 two ∧ Gr w27 (q8 + 1) 1 (some ⟨q8, 0, none⟩) 1 1 bad1 ∧ Gr w27 (q8 + 1 + 1 + 1) 2 (some ⟨q8 + 1 + 1, 0, none⟩) 262144 262144 Z ∧ IsTold w27 (1, []) v1 ∧ IsTold w27 (7, [(4, 0)]) v2 ∧ IsTold w27 (7, [(4, 0)]) v3 ∧ IsTold w27 (9, []) v4 ∧ HasArcs w27 (.slice mo 262144 mc) (Z ++ []) ∧ Gr w27 mb 2 mo 262144 mc (Z ++ []) ∧ HasArcs w27 (.slice no 0 nc) [] ∧ Gr w27 nb 2 no 0 nc [] ∧ IsTold w27 (7, [(4, 0)]) v7 ∧ w27.heap[g1]? = some (.cells #[.int .i64 4, .int .i64 0] 68) ∧ w27.heap[g2]? = some (.cells #[.int .i64 4, .int .i64 0] 68)) := ⟨I36.out.1.trans (h.mono I36.out.1.size), I36.out.2.1.keep h, I36.out.2.2.1.keep h, I36.out.2.2.2.1.keep h, Told.keep I36.out.2.2.2.2.1 h, Told.keep I36.out.2.2.2.2.2.1 h, Told.keep I36.out.2.2.2.2.2.2.1 h, Told.keep I36.out.2.2.2.2.2.2.2.1 h, I36.out.2.2.2.2.2.2.2.2.1.keep h, I36.out.2.2.2.2.2.2.2.2.2.1.keep h, I36.out.2.2.2.2.2.2.2.2.2.2.1.keep h, I36.out.2.2.2.2.2.2.2.2.2.2.2.1.keep h, Told.keep I36.out.2.2.2.2.2.2.2.2.2.2.2.2.1 h, (h.block _ (lt_of_get I36.out.2.2.2.2.2.2.2.2.2.2.2.2.2.1)).trans I36.out.2.2.2.2.2.2.2.2.2.2.2.2.2.1, (h.block _ (lt_of_get I36.out.2.2.2.2.2.2.2.2.2.2.2.2.2.2)).trans I36.out.2.2.2.2.2.2.2.2.2.2.2.2.2.2⟩
  clear h
  obtain ⟨ctwo0, ctwo1, ctwos⟩ := I37.out.2.1.cells
  obtain ⟨cbad0, cbad1, cbads⟩ := I37.out.2.2.1.cells
  obtain ⟨cbig0, cbig1, cbigs⟩ := I37.out.2.2.2.1.cells
  obtain ⟨cm0, cm1, cms⟩ := I37.out.2.2.2.2.2.2.2.2.2.1.cells
  obtain ⟨cn0, cn1, cns⟩ := I37.out.2.2.2.2.2.2.2.2.2.2.2.1.cells
  go_wp2_with fail
  refine (E_calls 7 _).mono ?_
  rintro e w28 ⟨rfl, h⟩
  clear ctwo0 ctwo1 ctwos cbad0 cbad1 cbads cbig0 cbig1 cbigs cm0 cm1 cms cn0 cn1 cns
  have I38 : Hid (Below w.heap.size w w28 ∧ Gr w28 (l1 + 1) 2 (some ⟨l1, 0, none⟩) 2 2 two ∧ Gr w28 (q8 + 1) 1 (some ⟨q8, 0, none⟩) 1 1 bad1 ∧ Gr w28 (q8 + 1 + 1 + 1) 2 (some ⟨q8 + 1 + 1, 0, none⟩) 262144 262144 Z ∧ IsTold w28 (1, []) v1 ∧ IsTold w28 (7, [(4, 0)]) v2 ∧ IsTold w28 (7, [(4, 0)]) v3 ∧ IsTold w28 (9, []) v4 ∧ HasArcs w28 (.slice mo 262144 mc) (Z ++ []) ∧ Gr w28 mb 2 mo 262144 mc (Z ++ []) ∧ HasArcs w28 (.slice no 0 nc) [] ∧ Gr w28 nb 2 no 0 nc [] ∧ IsTold w28 (7, [(4, 0)]) v7 ∧ w28.heap[g1]? = some (.cells #[.int .i64 4, .int .i64 0] 68) ∧ w28.heap[g2]? = some (.cells #[.int .i64 4, .int .i64 0] 68)) := ⟨I37.out.1.trans (h.mono I37.out.1.size), I37.out.2.1.keep h, I37.out.2.2.1.keep h, I37.out.2.2.2.1.keep h, Told.keep I37.out.2.2.2.2.1 h, Told.keep I37.out.2.2.2.2.2.1 h, Told.keep I37.out.2.2.2.2.2.2.1 h, Told.keep I37.out.2.2.2.2.2.2.2.1 h, I37.out.2.2.2.2.2.2.2.2.1.keep h, I37.out.2.2.2.2.2.2.2.2.2.1.keep h, I37.out.2.2.2.2.2.2.2.2.2.2.1.keep h, I37.out.2.2.2.2.2.2.2.2.2.2.2.1.keep h, Told.keep I37.out.2.2.2.2.2.2.2.2.2.2.2.2.1 h, (h.block _ (lt_of_get I37.out.2.2.2.2.2.2.2.2.2.2.2.2.2.1)).trans I37.out.2.2.2.2.2.2.2.2.2.2.2.2.2.1, (h.block _ (lt_of_get I37.out.2.2.2.2.2.2.2.2.2.2.2.2.2.2)).trans I37.out.2.2.2.2.2.2.2.2.2.2.2.2.2.2⟩
  clear h
  obtain ⟨ctwo0, ctwo1, ctwos⟩ := I38.out.2.1.cells
  obtain ⟨cbad0, cbad1, cbads⟩ := I38.out.2.2.1.cells
  obtain ⟨cbig0, cbig1, cbigs⟩ := I38.out.2.2.2.1.cells
  obtain ⟨cm0, cm1, cms⟩ := I38.out.2.2.2.2.2.2.2.2.2.1.cells
  obtain ⟨cn0, cn1, cns⟩ := I38.out.2.2.2.2.2.2.2.2.2.2.2.1.cells
  go_wp2_with fail
  refine (refAt_calls 4 0 7 _).mono ?_
  rintro e w29 ⟨g3, rfl, hp, h⟩
  clear ctwo0 ctwo1 ctwos cbad0 cbad1 cbads cbig0 cbig1 cbigs cm0 cm1 cms cn0 cn1 cns
  have I39 : Hid (Below w.heap.size w w29 ∧ Gr w29 (l1 + 1) 2 (some ⟨l1, 0, none⟩) 2 2 two ∧ Gr w29 (q8 + 1) 1 (some ⟨q8, 0, none⟩) 1 1 bad1 ∧ Gr w29 (q8 + 1 + 1 + 1) 2 (some ⟨q8 + 1 + 1, 0, none⟩) 262144 262144 Z ∧ IsTold w29 (1, []) v1 ∧ IsTold w29 (7, [(4, 0)]) v2 ∧ IsTold w29 (7, [(4, 0)]) v3 ∧ IsTold w29 (9, []) v4 ∧ HasArcs w29 (.slice mo 262144 mc) (Z ++ []) ∧ Gr w29 mb 2 mo 262144 mc (Z ++ []) ∧ HasArcs w29 (.slice no 0 nc) [] ∧ Gr w29 nb 2 no 0 nc [] ∧ IsTold w29 (7, [(4, 0)]) v7 ∧ w29.heap[g1]? = some (.cells #[.int .i64 4, .int .i64 0] 68) ∧ w29.heap[g2]? = some (.cells #[.int .i64 4, .int .i64 0] 68) ∧ w29.heap[g3]? = some (.cells #[.int .i64 4, .int .i64 0] 68)) := ⟨I38.out.1.trans (h.mono I38.out.1.size), I38.out.2.1.keep h, I38.out.2.2.1.keep h, I38.out.2.2.2.1.keep h, Told.keep I38.out.2.2.2.2.1 h, Told.keep I38.out.2.2.2.2.2.1 h, Told.keep I38.out.2.2.2.2.2.2.1 h, Told.keep I38.out.2.2.2.2.2.2.2.1 h, I38.out.2.2.2.2.2.2.2.2.1.keep h, I38.out.2.2.2.2.2.2.2.2.2.1.keep h, I38.out.2.2.2.2.2.2.2.2.2.2.1.keep h, I38.out.2.2.2.2.2.2.2.2.2.2.2.1.keep h, Told.keep I38.out.2.2.2.2.2.2.2.2.2.2.2.2.1 h, (h.block _ (lt_of_get I38.out.2.2.2.2.2.2.2.2.2.2.2.2.2.1)).trans I38.out.2.2.2.2.2.2.2.2.2.2.2.2.2.1, (h.block _ (lt_of_get I38.out.2.2.2.2.2.2.2.2.2.2.2.2.2.2)).trans I38.out.2.2.2.2.2.2.2.2.2.2.2.2.2.2, hp⟩
  clear h hp
  obtain ⟨ctwo0, ctwo1, ctwos⟩ := I39.out.2.1.cells
  obtain ⟨cbad0, cbad1, cbads⟩ := I39.out.2.2.1.cells
  obtain ⟨cbig0, cbig1, cbigs⟩ := I39.out.2.2.2.1.cells
  obtain ⟨cm0, cm1, cms⟩ := I39.out.2.2.2.2.2.2.2.2.2.1.cells
  obtain ⟨cn0, cn1, cns⟩ := I39.out.2.2.2.2.2.2.2.2.2.2.2.1.cells
  go_wp2_with fail
  refine (seen_at rfl I39.out.2.2.2.2.2.2.2.2.2.2.2.2.1 (HG.out _ I39.out.1) I39.out.2.2.2.2.2.2.2.2.2.2.2.2.2.2.2).mono ?_
  rintro e w30 ⟨rfl, h⟩
  clear ctwo0 ctwo1 ctwos cbad0 cbad1 cbads cbig0 cbig1 cbigs cm0 cm1 cms cn0 cn1 cns
  have I40 : Hid (Below w.heap.size w w30 ∧ Gr w30 (l1 + 1) 2 (some ⟨l1, 0, none⟩) 2 2 two ∧ Gr w30 (q8 + 1) 1 (some ⟨q8, 0, none⟩) 1 1 bad1 ∧ Gr w30 (q8 + 1 + 1 + 1) 2 (some ⟨q8 + 1 + 1, 0, none⟩) 262144 262144 Z ∧ IsTold w30 (1, []) v1 ∧ IsTold w30 (7, [(4, 0)]) v2 ∧ IsTold w30 (7, [(4, 0)]) v3 ∧ IsTold w30 (9, []) v4 ∧ HasArcs w30 (.slice mo 262144 mc) (Z ++ []) ∧ Gr w30 mb 2 mo 262144 mc (Z ++ []) ∧ HasArcs w30 (.slice no 0 nc) [] ∧ Gr w30 nb 2 no 0 nc [] ∧ IsTold w30 (7, [(4, 0)]) v7 ∧ w30.heap[g1]? = some (.cells #[.int .i64 4, .int .i64 0] 68) ∧ w30.heap[g2]? = some (.cells #[.int .i64 4, .int .i64 0] 68) ∧ w30.heap[g3]? = some (.cells #[.int .i64 4, .int .i64 0] 68)) := ⟨I39.out.1.trans (h.mono I39.out.1.size), I39.out.2.1.keep h, I39.out.2.2.1.keep h, I39.out.2.2.2.1.keep h, Told.keep I39.out.2.2.2.2.1 h, Told.keep I39.out.2.2.2.2.2.1 h, Told.keep I39.out.2.2.2.2.2.2.1 h, Told.keep I39.out.2.2.2.2.2.2.2.1 h, I39.out.2.2.2.2.2.2.2.2.1.keep h, I39.out.2.2.2.2.2.2.2.2.2.1.keep h, I39.out.2.2.2.2.2.2.2.2.2.2.1.keep h, I39.out.2.2.2.2.2.2.2.2.2.2.2.1.keep h, Told.keep I39.out.2.2.2.2.2.2.2.2.2.2.2.2.1 h, (h.block _ (lt_of_get I39.out.2.2.2.2.2.2.2.2.2.2.2.2.2.1)).trans I39.out.2.2.2.2.2.2.2.2.2.2.2.2.2.1, (h.block _ (lt_of_get I39.out.2.2.2.2.2.2.2.2.2.2.2.2.2.2.1)).trans I39.out.2.2.2.2.2.2.2.2.2.2.2.2.2.2.1, (h.block _ (lt_of_get I39.out.2.2.2.2.2.2.2.2.2.2.2.2.2.2.2)).trans I39.out.2.2.2.2.2.2.2.2.2.2.2.2.2.2.2⟩
  clear h
  obtain ⟨ctwo0, ctwo1, ctwos⟩ := I40.out.2.1.cells
  obtain ⟨cbad0, cbad1, cbads⟩ := I40.out.2.2.1.cells
  obtain ⟨cbig0, cbig1, cbigs⟩ := I40.out.2.2.2.1.cells
  obtain ⟨cm0, cm1, cms⟩ := I40.out.2.2.2.2.2.2.2.2.2.1.cells
  obtain ⟨cn0, cn1, cns⟩ := I40.out.2.2.2.2.2.2.2.2.2.2.2.1.cells
  go_wp2
  go_ret
  exact ⟨rfl, I40.out.1⟩
end Go.Proofs.YtldfhkdccbgdnaaDoor
