/- New, Set: what they answer, and what the stamp holds. -/
import Derived.Test.YtepkogijignmlaaStOps
import Derived.Deep.OwnRows
import Derived.Laws.OwnMore
import Derived.Laws.MakeOwn
namespace Go.Proofs.Ytepkogijignmlaa.St
open Go.RowKit

attribute [local go_sem] Oper.semAt_some

theorem flatP_zero (n j : Nat) : (flatP (List.replicate n (0, 0, false)))[j]? = if j < n * 3 then some (#[Value.int .u64 0, .int .u32 0, .bool false][j % 3]!) else none := by
  split
  · rename_i h
    have hq : j / 3 < n := by omega
    obtain ⟨g0, g1, g2⟩ := flatP_get (List.replicate n (0, 0, false)) (j / 3) (0, 0, false) (by rw [List.getElem?_replicate, if_pos hq])
    have hj : j = j / 3 * 3 + j % 3 := by omega
    rcases (show j % 3 = 0 ∨ j % 3 = 1 ∨ j % 3 = 2 by omega) with e | e | e
    · rw [e] at hj ⊢
      rw [hj]
      simpa using g0
    · rw [e] at hj ⊢
      rw [hj]
      simpa using g1
    · rw [e] at hj ⊢
      rw [hj]
      simpa using g2
  · rename_i h
    rw [List.getElem?_eq_none]
    rw [flatP_len, List.length_replicate]
    omega
theorem made_places (n : Nat) : madeCells #[.int .u64 0, .int .u32 0, .bool false] (n * 3) = (flatP (List.replicate n (0, 0, false))).toArray := by
  apply Array.ext'
  apply List.ext_getElem?
  intro j
  rw [flatP_zero]
  split
  · rename_i h
    simp [madeCells, h]
  · rename_i h
    rw [List.getElem?_eq_none]
    rw [Array.length_toList, size_madeCells]
    omega

theorem infoPlace : (Try.prog.info? 140).map (fun i => (i.zero, i.size, i.bytes)) = some (some (.agg #[.int .u64 0, .int .u32 0, .bool false]), 3, 16) := by kernel_rfl
theorem make_places (n : Nat) (hn : n ≤ 65536) (w : World) : (Instr.makeSlice 129 (.int .i64 (n : Int)) (.int .i64 (n : Int))).run Try.prog w = .ok (.slice (some ⟨w.heap.size, 0, none⟩) n n) (w.alloc (.cells (flatP (List.replicate n (0, 0, false))).toArray 140)) := by
  obtain ⟨i, hi, hzz⟩ := Option.map_eq_some_iff.1 infoPlace
  simp only [Prod.mk.injEq] at hzz
  obtain ⟨hz, hs, hb⟩ := hzz
  have hr := run_make (P := Try.prog) w 129 140 i _ Try.underlying129 hi hz .i64 .i64 n n (by omega) (Int.le_refl _) (by rw [hb]; omega) (by omega)
  simp only [Int.toNat_natCast, hs] at hr
  rw [hr, ← made_places]
  rfl

set_option maxHeartbeats 1000000 in
theorem new_calls (n : Nat) (hn : n ≤ 65536) (age : Int) (ha : 0 ≤ age) (hA : age ≤ 4294967295) (w : World) : Calls Try.prog 52 #[.int .i64 n, .int .u32 age] w fun e w' => e = .returned (.tuple #[.pointer (some ⟨w.heap.size + 1, 0, none⟩), .nilIface]) ∧ IsStamp w' (w.heap.size + 1) w.heap.size n (List.replicate n none) ∧ Below w.heap.size w w' := by
  have hmk := make_places n hn
  have h1 : ¬ (n : Int) < 0 := by omega
  have h2 : ¬ (65536 : Int) < (n : Int) := by omega
  obtain ⟨W, hW⟩ : ∃ W, (w.alloc (.cells (flatP (List.replicate n (0, 0, false))).toArray 140)).alloc (.cells #[.slice (some ⟨w.heap.size, 0, none⟩) n n, .int .u32 age, .int .i64 0] 131) = W := ⟨_, rfl⟩
  have HB : Hid (Below w.heap.size w W) := by rw [← hW]; exact ((Below.refl _ w).alloc (Nat.le_refl _) _).alloc (by simp) _
  have HI : Hid (IsStamp W (w.heap.size + 1) w.heap.size n (List.replicate n none)) := by
    refine ⟨age, 0, List.replicate n (0, 0, false), ⟨?_, ?_, by simp, hn, by omega⟩, ha, hA, ?_, (cnt_none n).symm, ?_⟩
    · have h := heap_new (w.alloc (.cells (flatP (List.replicate n (0, 0, false))).toArray 140)) (.cells #[.slice (some ⟨w.heap.size, 0, none⟩) n n, .int .u32 age, .int .i64 0] 131)
      rw [hW] at h
      simpa using h
    · rw [← hW, Below.heap_alloc _ _ _ (by simp), heap_new]
    · rw [List.map_replicate]
      rfl
    · intro p hp hs
      rw [List.eq_of_mem_replicate hp] at hs
      cases hs
  have HW : Hid ((w.alloc (.cells (flatP (List.replicate n (0, 0, false))).toArray 140)).alloc (.cells #[.slice (some ⟨w.heap.size, 0, none⟩) n n, .int .u32 age, .int .i64 0] 131) = W) := hW
  clear hW
  go_enter Try.func52, Try.ntmps52
  go_wp2
  rw [HW.out]
  go_ret2
  exact ⟨rfl, HI.out, HB.out⟩

section
variable {w : World} {sb pb n : Nat} {vs : List (Option Int)}

set_option maxHeartbeats 1000000 in
theorem set_far (h : IsStamp w sb pb n vs) (i : Int) (hi : i < 0 ∨ (n : Int) ≤ i) (x : Int) : Calls Try.prog 66 #[.pointer (some ⟨sb, 0, none⟩), .int .i64 i, .int .u64 x] w fun e w' => e = .returned (.iface 67 (.int .i64 7)) ∧ w' = w := by
  obtain ⟨age, held, ps, hM, _⟩ := h
  have HP : Hid (type_of% (isPlace_out hM i hi)) := isPlace_out hM i hi
  clear hM
  go_enter Try.func66, Try.ntmps66
  go_wp2_with fail
  refine HP.out.mono ?_
  rintro e w1 ⟨rfl, hw1⟩
  subst hw1
  go_wp2
  go_ret
  exact ⟨rfl, rfl⟩

/-- what is laid in a place is what it holds. -/
theorem laid_isStamp {w' : World} {age : Int} {ps : List Pl} (ha : 0 ≤ age) (hA : age ≤ 4294967295) (hO : ∀ p ∈ ps, p.2.2 = true → p.2.1 ≤ age) {i : Nat} (x : Int) (hM : Mem w' sb pb n age (cnt ((ps.map (seenP age)).set i (some x))) (ps.set i (x, age, true))) : IsStamp w' sb pb n ((ps.map (seenP age)).set i (some x)) := by
  refine ⟨age, _, _, hM, ha, hA, ?_, rfl, ?_⟩
  · rw [List.map_set]
    simp [seenP]
  · intro p hp hs
    rcases List.mem_or_eq_of_mem_set hp with h | h
    · exact hO p h hs
    · subst h
      exact Int.le_refl _

set_option maxHeartbeats 2000000 in
theorem set_calls (h : IsStamp w sb pb n vs) (i : Nat) (hi : i < n) (x : Int) : Calls Try.prog 66 #[.pointer (some ⟨sb, 0, none⟩), .int .i64 i, .int .u64 x] w fun e w' => e = .returned .nilIface ∧ IsStamp w' sb pb n (vs.set i (some x)) ∧ Fr sb pb w w' := by
  obtain ⟨age, held, ps, hM, ha, hA, rfl, hh, hO⟩ := h
  have hl := hM.len
  obtain ⟨p, hp⟩ : ∃ p, ps[i]? = some p := ⟨ps[i]'(by omega), List.getElem?_eq_getElem _⟩
  have hv : (ps.map (seenP age))[i]? = some (seenP age p) := by rw [List.getElem?_map, hp]; rfl
  have HP : Hid (type_of% (isPlace_in hM i hi)) := isPlace_in hM i hi
  have HH : Hid (type_of% (holds_calls hM hp)) := holds_calls hM hp
  have HM : Hid (Mem w sb pb n age held ps) := hM
  have HL : Hid (∀ w', Mem w' sb pb n age (cnt ((ps.map (seenP age)).set i (some x))) (ps.set i (x, age, true)) → IsStamp w' sb pb n ((ps.map (seenP age)).set i (some x))) := fun w' hM' => laid_isStamp ha hA hO x hM'
  have hcb : cnt (ps.map (seenP age)) ≤ 65536 := by have := cnt_le (ps.map (seenP age)); rw [List.length_map] at this; have := hM.big; omega
  have hhb : (held : Int) ≤ 65536 := by omega
  have hh0 : (0 : Int) ≤ (held : Int) := by omega
  have n1 : sb ≠ pb := hM.ne
  have n2 : pb ≠ sb := Ne.symm n1
  have b0 : (0 : Int) ≤ (i : Int) := by omega
  have b1 : (i : Int) < (n : Int) := by omega
  obtain ⟨VS, hVS⟩ : ∃ VS, (ps.map (seenP age)).set i (some x) = VS := ⟨_, rfl⟩
  rw [hVS] at HL ⊢
  have HI : Hid (ps[i]? = some p) := hp
  by_cases hs : p.2.2 = true ∧ p.2.1 = age
  · have e0 : seenP age p = some p.1 := by simp [seenP, hs]
    have HC : Hid (cnt VS = held) := by show _ = _; rw [← hVS, hh]; exact cnt_same _ _ _ p.1 (by rw [hv, e0])
    rw [e0] at HH
    clear hM hp hl hs e0 hv hh hVS hO ha hA hcb
    go_enter Try.func66, Try.ntmps66
    go_wp2_with fail
    refine HP.out.mono ?_
    rintro e w1 ⟨rfl, hw1⟩
    subst hw1
    go_wp2_with fail
    refine HH.out.mono ?_
    rintro e w2 ⟨rfl, hw2⟩
    have HB : Hid (Below w1.heap.size w1 w2) := hw2
    have HM2 : Hid (Mem w2 sb pb n age held ps) := HM.out.below hw2
    obtain ⟨c0, c1, c2, f0, f1, f2⟩ := HM2.out.cells
    obtain ⟨p0, p1, p2, g0, g1, g2⟩ := HM2.out.place HI.out
    have l0 : sb < w2.heap.size := lt_of_get HM2.out.box
    have l1 : pb < w2.heap.size := lt_of_get HM2.out.row
    clear hw2
    go_wp2_with fail
    go_region_held3 (fun w' => w'.cell? ⟨sb, 0, none⟩ = some (.slice (some ⟨pb, 0, none⟩) n n) ∧ w'.cell? ⟨sb, 1, none⟩ = some (.int .u32 age)) (go_keep) (first | fail)
    go_wp2
    go_ret
    refine ⟨rfl, HL.out _ ?_, ?_⟩
    · rw [HC.out]
      exact (HM2.out.put i (x, age, true)).below (below_draws (Below.refl _ _) 1)
    · exact (Fr.of_below HB.out).row _ _ |>.row _ _ |>.row _ _ |>.drew
  · have e0 : seenP age p = none := by simp [seenP, hs]
    have HC : Hid (cnt VS = held + 1) := by show _ = _; rw [← hVS, hh]; exact cnt_add _ _ _ (by rw [hv, e0])
    rw [e0] at HH
    clear hM hp hl hs e0 hv hh hVS hO ha hA hcb
    go_enter Try.func66, Try.ntmps66
    go_wp2_with fail
    refine HP.out.mono ?_
    rintro e w1 ⟨rfl, hw1⟩
    subst hw1
    go_wp2_with fail
    refine HH.out.mono ?_
    rintro e w2 ⟨rfl, hw2⟩
    have HB : Hid (Below w1.heap.size w1 w2) := hw2
    have HM2 : Hid (Mem w2 sb pb n age held ps) := HM.out.below hw2
    obtain ⟨c0, c1, c2, f0, f1, f2⟩ := HM2.out.cells
    obtain ⟨p0, p1, p2, g0, g1, g2⟩ := HM2.out.place HI.out
    have l0 : sb < w2.heap.size := lt_of_get HM2.out.box
    have l1 : pb < w2.heap.size := lt_of_get HM2.out.row
    have HW : Hid (∀ W3, w2.setCell ⟨sb, 2, none⟩ (.int .i64 ((held : Int) + 1)) = W3 → Mem W3 sb pb n age (held + 1) ps ∧ Fr sb pb w1 W3) := fun W3 e => by
      subst e
      exact ⟨HM2.out.setHeld (held + 1), (Fr.of_below HB.out).box _ _⟩
    clear hw2
    go_wp2_with fail
    generalize hW3 : w2.setCell ⟨sb, 2, none⟩ (.int .i64 ((held : Int) + 1)) = W3
    obtain ⟨hM3, hF3⟩ := HW.out W3 hW3
    clear c0 c1 c2 f0 f1 f2 p0 p1 p2 g0 g1 g2 l0 l1 hW3 HW HM2 HB
    have HM3 : Hid (Mem W3 sb pb n age (held + 1) ps) := hM3
    have HF3 : Hid (Fr sb pb w1 W3) := hF3
    obtain ⟨c0, c1, c2, f0, f1, f2⟩ := hM3.cells
    obtain ⟨p0, p1, p2, g0, g1, g2⟩ := hM3.place HI.out
    have l0 : sb < W3.heap.size := lt_of_get hM3.box
    have l1 : pb < W3.heap.size := lt_of_get hM3.row
    clear hM3 hF3
    go_region_held3 (fun w' => w'.cell? ⟨sb, 0, none⟩ = some (.slice (some ⟨pb, 0, none⟩) n n) ∧ w'.cell? ⟨sb, 1, none⟩ = some (.int .u32 age)) (go_keep) (first | fail)
    go_wp2
    go_ret
    refine ⟨rfl, HL.out _ ?_, ?_⟩
    · rw [HC.out]
      exact (HM3.out.put i (x, age, true)).below (below_draws (Below.refl _ _) 1)
    · exact HF3.out.row _ _ |>.row _ _ |>.row _ _ |>.drew

theorem set_nil (i x : Int) (w : World) : Calls Try.prog 66 #[.pointer none, .int .i64 i, .int .u64 x] w fun e w' => e = .returned (.iface 67 (.int .i64 19)) ∧ w' = w := by
  go_enter Try.func66, Try.ntmps66
  go_wp2
  go_ret
  exact ⟨rfl, rfl⟩

theorem get_nil (i : Int) (w : World) : Calls Try.prog 56 #[.pointer none, .int .i64 i] w fun e w' => e = .returned (.tuple #[.int .u64 0, .bool false]) ∧ w' = w := by
  go_enter Try.func56, Try.ntmps56
  go_wp2_with fail
  refine (isPlace_nil _ _).mono ?_
  rintro e w1 ⟨rfl, hw1⟩
  subst hw1
  go_wp2
  go_ret2
  exact ⟨rfl, rfl⟩
end
end Go.Proofs.Ytepkogijignmlaa.St
