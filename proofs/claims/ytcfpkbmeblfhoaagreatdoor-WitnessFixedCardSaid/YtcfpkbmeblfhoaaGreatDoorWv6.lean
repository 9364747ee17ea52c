/- WitnessFixed, walked. -/
import Derived.Test.YtcfpkbmeblfhoaaGreatDoorWv5
namespace Go.Proofs.YtcfpkbmeblfhoaaGreatDoor.Wt
open Go Go.RowKit Go.Extern

attribute [local go_sem] Oper.semAt_some

theorem fx_a : findErr (aliveB 4 bsQ) ((0 : Nat) : Int) [2] = (0, []) ∧ ansQ (-1) 0 1 5 99 [2] = [9] := ⟨by kernel_rfl, by kernel_rfl⟩
theorem fx_b : findErr (aliveB 4 bsQ) ((0 : Nat) : Int) [2, 3] = (0, []) ∧ ansQ (-1) 0 5 5 4 [2, 3] = [5, 18446744073709551615] := ⟨by kernel_rfl, by kernel_rfl⟩
theorem fx_c : findErr (aliveB 4 bsQ) ((0 : Nat) : Int) [2, 0] = (0, []) ∧ ansQ 2 0 5 5 99 [2, 0] = [18446744073709551615, 0] := ⟨by kernel_rfl, by kernel_rfl⟩
theorem fx_x : findErr (aliveB 4 bsQ) ((0 : Nat) : Int) [3, 0] = (0, []) ∧ ansQ 0 0 5 5 99 [3, 0] = [7, 0] := ⟨by kernel_rfl, by kernel_rfl⟩
theorem fx_y : findErr (aliveB 4 bsQ) ((0 : Nat) : Int) [1, 0] = (0, []) ∧ ansQ (-1) 0 (-7) 5 99 [1, 0] = [18446744073709551615, 0] := ⟨by kernel_rfl, by kernel_rfl⟩
theorem fx_z : findErr (aliveB 4 bsQ) ((0 : Nat) : Int) [1, 0] = (0, []) ∧ ansQ (-1) 0 5 (-7) 99 [1, 0] = [18446744073709551615, 0] := ⟨by kernel_rfl, by kernel_rfl⟩
theorem fx_e1 : findErr (aliveB 4 bsQ) 4 [9] = (7, []) := by kernel_rfl
theorem fx_e2 : findErr (aliveB 4 bsQ) 0 [1, 9] = (7, [(3, 1)]) := by kernel_rfl

set_option maxRecDepth 100000 in
set_option maxHeartbeats 16000000 in
theorem fixed_calls (w : World) (hty : HasType w) : Calls Tryz.prog 4 #[] w fun e w' => e = .returned (.bool true) ∧ Below w.heap.size w w' := by
  have HTY : Hid (HasType w) := hty
  clear hty
  go_enter Tryz.func4, Tryz.ntmps4
  go_wp2_with fail
  refine (awake12_calls w).mono ?_
  rintro e wa ⟨rfl, hba⟩
  have HA : Hid (Below w.heap.size w wa) := hba
  clear hba
  go_wp2_with fail
  refine (four12_calls wa).mono ?_
  rintro e w1 ⟨ab, rfl, hA, hb1⟩
  have H1 : Hid (HasArcs w1 (.slice (some ⟨ab, 0, none⟩) 4 4) xsQ ∧ Below w.heap.size w w1) := ⟨hA, HA.out.trans (hb1.mono HA.out.size)⟩
  clear hA hb1 HA
  go_wp2_with fail
  refine (newQ_calls H1.out.1).mono ?_
  rintro e w2 ⟨pb, rfl, hO, hb2⟩
  have HX : Hid (SQ w w2 w1.heap.size pb [] []) := ⟨hO, fun p hp => absurd hp (by simp), fun p hp => absurd hp (by simp), H1.out.2.trans (hb2.mono H1.out.2.size), HTY.out.keep (H1.out.2.trans (hb2.mono H1.out.2.size)) HTY.out.pos⟩
  clear hO hb2 H1
  have HC : Hid (type_of% (HX.out.find1 (-1) 99 1 5 2 [9] fx_a.1 fx_a.2)) := HX.out.find1 (-1) 99 1 5 2 [9] fx_a.1 fx_a.2
  go_wp2_with fail
  refine HC.out.mono ?_
  rintro e w3 ⟨da, rfl, hs⟩
  clear HX
  have HX : Hid (SQ w w3 w1.heap.size pb [(da, [9])] []) := hs
  clear hs HC
  have HC : Hid (type_of% (HX.out.find2 (-1) 4 5 5 2 3 [5, 18446744073709551615] fx_b.1 fx_b.2)) := HX.out.find2 (-1) 4 5 5 2 3 [5, 18446744073709551615] fx_b.1 fx_b.2
  go_wp2_with fail
  refine HC.out.mono ?_
  rintro e w4 ⟨db, rfl, hs⟩
  clear HX
  have HX : Hid (SQ w w4 w1.heap.size pb [(db, [5, 18446744073709551615]), (da, [9])] []) := hs
  clear hs HC
  have HC : Hid (type_of% (HX.out.find2 2 99 5 5 2 0 [18446744073709551615, 0] fx_c.1 fx_c.2)) := HX.out.find2 2 99 5 5 2 0 [18446744073709551615, 0] fx_c.1 fx_c.2
  go_wp2_with fail
  refine HC.out.mono ?_
  rintro e w5 ⟨dc, rfl, hs⟩
  clear HX
  have HX : Hid (SQ w w5 w1.heap.size pb [(dc, [18446744073709551615, 0]), (db, [5, 18446744073709551615]), (da, [9])] []) := hs
  clear hs HC
  have HC : Hid (type_of% (HX.out.find0 (-1) 99 5 5)) := HX.out.find0 (-1) 99 5 5
  go_wp2_with fail
  refine HC.out.mono ?_
  rintro e w6 ⟨dd, rfl, hs⟩
  clear HX
  have HX : Hid (SQ w w6 w1.heap.size pb [(dc, [18446744073709551615, 0]), (db, [5, 18446744073709551615]), (da, [9])] []) := hs
  clear hs HC
  have HC : Hid (type_of% (HX.out.same1 (db := da) (List.mem_cons_of_mem _ (List.mem_cons_of_mem _ List.mem_cons_self)))) := HX.out.same1 (db := da) (List.mem_cons_of_mem _ (List.mem_cons_of_mem _ List.mem_cons_self))
  go_wp2_with fail
  refine HC.out.mono ?_
  rintro e w7 ⟨rfl, hs⟩
  clear HX
  have HX : Hid (SQ w w7 w1.heap.size pb [(dc, [18446744073709551615, 0]), (db, [5, 18446744073709551615]), (da, [9])] []) := hs
  clear hs HC
  have HC : Hid (type_of% (HX.out.same2 (db := db) (List.mem_cons_of_mem _ List.mem_cons_self))) := HX.out.same2 (db := db) (List.mem_cons_of_mem _ List.mem_cons_self)
  go_wp2_with fail
  refine HC.out.mono ?_
  rintro e w8 ⟨rfl, hs⟩
  clear HX
  have HX : Hid (SQ w w8 w1.heap.size pb [(dc, [18446744073709551615, 0]), (db, [5, 18446744073709551615]), (da, [9])] []) := hs
  clear hs HC
  have HC : Hid (type_of% (HX.out.same2 (db := dc) List.mem_cons_self)) := HX.out.same2 (db := dc) List.mem_cons_self
  go_wp2_with fail
  refine HC.out.mono ?_
  rintro e w9 ⟨rfl, hs⟩
  clear HX
  have HX : Hid (SQ w w9 w1.heap.size pb [(dc, [18446744073709551615, 0]), (db, [5, 18446744073709551615]), (da, [9])] []) := hs
  clear hs HC
  have HC : Hid (type_of% (HX.out.fail1 4 (-1) 99 5 5 9 (7, []) fx_e1 (by simp))) := HX.out.fail1 4 (-1) 99 5 5 9 (7, []) fx_e1 (by simp)
  go_wp2_with fail
  refine HC.out.mono ?_
  rintro e w10 ⟨S1, v1, rfl, hs⟩
  clear HX
  have HX : Hid (SQ w w10 w1.heap.size pb [(dc, [18446744073709551615, 0]), (db, [5, 18446744073709551615]), (da, [9])] [((7, []), .iface S1 v1)]) := hs
  clear hs HC
  have HC : Hid (type_of% (HX.out.fail2 0 (-1) 99 5 5 1 9 (7, [(3, 1)]) fx_e2 (by simp))) := HX.out.fail2 0 (-1) 99 5 5 1 9 (7, [(3, 1)]) fx_e2 (by simp)
  go_wp2_with fail
  refine HC.out.mono ?_
  rintro e w11 ⟨S2, v2, rfl, hs⟩
  clear HX
  have HX : Hid (SQ w w11 w1.heap.size pb [(dc, [18446744073709551615, 0]), (db, [5, 18446744073709551615]), (da, [9])] [((7, [(3, 1)]), .iface S2 v2), ((7, []), .iface S1 v1)]) := hs
  clear hs HC
  have HC : Hid (type_of% (wfind_nil 0 (-1) none 0 0 99 5 5 w11)) := wfind_nil 0 (-1) none 0 0 99 5 5 w11
  go_wp2_with fail
  refine HC.out.mono ?_
  rintro e w12 ⟨rfl, hb⟩
  have hs := (HX.out.keep hb).told (er := (19, [])) (v := .iface 60 (.int .i64 19)) (told_bare w12 (by simp))
  clear HX
  have HX : Hid (SQ w w12 w1.heap.size pb [(dc, [18446744073709551615, 0]), (db, [5, 18446744073709551615]), (da, [9])] [((19, []), .iface 60 (.int .i64 19)), ((7, [(3, 1)]), .iface S2 v2), ((7, []), .iface S1 v1)]) := hs
  clear hs HC hb
  have HC : Hid (type_of% (HX.out.find2 0 99 5 5 3 0 [7, 0] fx_x.1 fx_x.2)) := HX.out.find2 0 99 5 5 3 0 [7, 0] fx_x.1 fx_x.2
  go_wp2_with fail
  refine HC.out.mono ?_
  rintro e w13 ⟨dx, rfl, hs⟩
  clear HX
  have HX : Hid (SQ w w13 w1.heap.size pb [(dx, [7, 0]), (dc, [18446744073709551615, 0]), (db, [5, 18446744073709551615]), (da, [9])] [((19, []), .iface 60 (.int .i64 19)), ((7, [(3, 1)]), .iface S2 v2), ((7, []), .iface S1 v1)]) := hs
  clear hs HC
  have HC : Hid (type_of% (HX.out.find2 (-1) 99 (-7) 5 1 0 [18446744073709551615, 0] fx_y.1 fx_y.2)) := HX.out.find2 (-1) 99 (-7) 5 1 0 [18446744073709551615, 0] fx_y.1 fx_y.2
  go_wp2_with fail
  refine HC.out.mono ?_
  rintro e w14 ⟨dy, rfl, hs⟩
  clear HX
  have HX : Hid (SQ w w14 w1.heap.size pb [(dy, [18446744073709551615, 0]), (dx, [7, 0]), (dc, [18446744073709551615, 0]), (db, [5, 18446744073709551615]), (da, [9])] [((19, []), .iface 60 (.int .i64 19)), ((7, [(3, 1)]), .iface S2 v2), ((7, []), .iface S1 v1)]) := hs
  clear hs HC
  have HC : Hid (type_of% (HX.out.find2 (-1) 99 5 (-7) 1 0 [18446744073709551615, 0] fx_z.1 fx_z.2)) := HX.out.find2 (-1) 99 5 (-7) 1 0 [18446744073709551615, 0] fx_z.1 fx_z.2
  go_wp2_with fail
  refine HC.out.mono ?_
  rintro e w15 ⟨dz, rfl, hs⟩
  clear HX
  have HX : Hid (SQ w w15 w1.heap.size pb [(dz, [18446744073709551615, 0]), (dy, [18446744073709551615, 0]), (dx, [7, 0]), (dc, [18446744073709551615, 0]), (db, [5, 18446744073709551615]), (da, [9])] [((19, []), .iface 60 (.int .i64 19)), ((7, [(3, 1)]), .iface S2 v2), ((7, []), .iface S1 v1)]) := hs
  clear hs HC
  have HC : Hid (Calls Tryz.prog 17 #[.agg #[.int .i64 (-3), .int .i64 2000000, .int .i64 0, .int .i64 0, .int .i64 0]] w15 fun en w' => en = .returned (.tuple #[.int .i64 0, .int .i64 1048576]) ∧ Below w15.heap.size w15 w') := wbounds_calls (-3) 2000000 0 0 0 w15
  go_wp2_with fail
  refine HC.out.mono ?_
  rintro e w16 ⟨rfl, hb⟩
  have hs := HX.out.keep hb
  clear HX
  have HX : Hid (SQ w w16 w1.heap.size pb [(dz, [18446744073709551615, 0]), (dy, [18446744073709551615, 0]), (dx, [7, 0]), (dc, [18446744073709551615, 0]), (db, [5, 18446744073709551615]), (da, [9])] [((19, []), .iface 60 (.int .i64 19)), ((7, [(3, 1)]), .iface S2 v2), ((7, []), .iface S1 v1)]) := hs
  clear hs HC hb
  have HC : Hid (type_of% (E_calls 7 w16)) := E_calls 7 w16
  go_wp2_with fail
  refine HC.out.mono ?_
  rintro e w17 ⟨rfl, hb⟩
  have hs := HX.out.keep hb
  clear HX
  have HX : Hid (SQ w w17 w1.heap.size pb [(dz, [18446744073709551615, 0]), (dy, [18446744073709551615, 0]), (dx, [7, 0]), (dc, [18446744073709551615, 0]), (db, [5, 18446744073709551615]), (da, [9])] [((19, []), .iface 60 (.int .i64 19)), ((7, [(3, 1)]), .iface S2 v2), ((7, []), .iface S1 v1)]) := hs
  clear hs HC hb
  have HC : Hid (type_of% (HX.out.seen0 (c := 7) (v := .iface S1 v1) (List.mem_cons_of_mem _ (List.mem_cons_of_mem _ List.mem_cons_self)))) := HX.out.seen0 (c := 7) (v := .iface S1 v1) (List.mem_cons_of_mem _ (List.mem_cons_of_mem _ List.mem_cons_self))
  go_wp2_with fail
  refine HC.out.mono ?_
  rintro e w18 ⟨rfl, hs⟩
  clear HX
  have HX : Hid (SQ w w18 w1.heap.size pb [(dz, [18446744073709551615, 0]), (dy, [18446744073709551615, 0]), (dx, [7, 0]), (dc, [18446744073709551615, 0]), (db, [5, 18446744073709551615]), (da, [9])] [((19, []), .iface 60 (.int .i64 19)), ((7, [(3, 1)]), .iface S2 v2), ((7, []), .iface S1 v1)]) := hs
  clear hs HC
  have HC : Hid (type_of% (E_calls 7 w18)) := E_calls 7 w18
  go_wp2_with fail
  refine HC.out.mono ?_
  rintro e w19 ⟨rfl, hb⟩
  have hs := HX.out.keep hb
  clear HX
  have HX : Hid (SQ w w19 w1.heap.size pb [(dz, [18446744073709551615, 0]), (dy, [18446744073709551615, 0]), (dx, [7, 0]), (dc, [18446744073709551615, 0]), (db, [5, 18446744073709551615]), (da, [9])] [((19, []), .iface 60 (.int .i64 19)), ((7, [(3, 1)]), .iface S2 v2), ((7, []), .iface S1 v1)]) := hs
  clear hs HC hb
  have HC : Hid (type_of% (refAt_calls 3 1 7 w19)) := refAt_calls 3 1 7 w19
  go_wp2_with fail
  refine HC.out.mono ?_
  rintro e w20 ⟨g, rfl, hgq, hb⟩
  have hs := HX.out.keep hb
  clear HX
  have HX : Hid (SQ w w20 w1.heap.size pb [(dz, [18446744073709551615, 0]), (dy, [18446744073709551615, 0]), (dx, [7, 0]), (dc, [18446744073709551615, 0]), (db, [5, 18446744073709551615]), (da, [9])] [((19, []), .iface 60 (.int .i64 19)), ((7, [(3, 1)]), .iface S2 v2), ((7, []), .iface S1 v1)]) := hs
  have HGQ : Hid (w20.heap[g]? = some (.cells #[.int .i64 3, .int .i64 1] 85)) := hgq
  clear hs HC hb hgq
  have HC : Hid (type_of% (HX.out.seen1 (c := 7) (k := 3) (i := 1) (v := .iface S2 v2) (List.mem_cons_of_mem _ List.mem_cons_self) HGQ.out)) := HX.out.seen1 (c := 7) (k := 3) (i := 1) (v := .iface S2 v2) (List.mem_cons_of_mem _ List.mem_cons_self) HGQ.out
  go_wp2_with fail
  refine HC.out.mono ?_
  rintro e w21 ⟨rfl, hs⟩
  clear HX
  have HX : Hid (SQ w w21 w1.heap.size pb [(dz, [18446744073709551615, 0]), (dy, [18446744073709551615, 0]), (dx, [7, 0]), (dc, [18446744073709551615, 0]), (db, [5, 18446744073709551615]), (da, [9])] [((19, []), .iface 60 (.int .i64 19)), ((7, [(3, 1)]), .iface S2 v2), ((7, []), .iface S1 v1)]) := hs
  clear hs HC
  clear HGQ
  have HC : Hid (type_of% (E_calls 19 w21)) := E_calls 19 w21
  go_wp2_with fail
  refine HC.out.mono ?_
  rintro e w22 ⟨rfl, hb⟩
  have hs := HX.out.keep hb
  clear HX
  have HX : Hid (SQ w w22 w1.heap.size pb [(dz, [18446744073709551615, 0]), (dy, [18446744073709551615, 0]), (dx, [7, 0]), (dc, [18446744073709551615, 0]), (db, [5, 18446744073709551615]), (da, [9])] [((19, []), .iface 60 (.int .i64 19)), ((7, [(3, 1)]), .iface S2 v2), ((7, []), .iface S1 v1)]) := hs
  clear hs HC hb
  have HC : Hid (type_of% (HX.out.seen0 (c := 19) (v := .iface 60 (.int .i64 19)) List.mem_cons_self)) := HX.out.seen0 (c := 19) (v := .iface 60 (.int .i64 19)) List.mem_cons_self
  go_wp2_with fail
  refine HC.out.mono ?_
  rintro e w23 ⟨rfl, hs⟩
  clear HX
  have HX : Hid (SQ w w23 w1.heap.size pb [(dz, [18446744073709551615, 0]), (dy, [18446744073709551615, 0]), (dx, [7, 0]), (dc, [18446744073709551615, 0]), (db, [5, 18446744073709551615]), (da, [9])] [((19, []), .iface 60 (.int .i64 19)), ((7, [(3, 1)]), .iface S2 v2), ((7, []), .iface S1 v1)]) := hs
  clear hs HC
  have HC : Hid (type_of% (HX.out.same2 (db := dx) (List.mem_cons_of_mem _ (List.mem_cons_of_mem _ List.mem_cons_self)))) := HX.out.same2 (db := dx) (List.mem_cons_of_mem _ (List.mem_cons_of_mem _ List.mem_cons_self))
  go_wp2_with fail
  refine HC.out.mono ?_
  rintro e w24 ⟨rfl, hs⟩
  clear HX
  have HX : Hid (SQ w w24 w1.heap.size pb [(dz, [18446744073709551615, 0]), (dy, [18446744073709551615, 0]), (dx, [7, 0]), (dc, [18446744073709551615, 0]), (db, [5, 18446744073709551615]), (da, [9])] [((19, []), .iface 60 (.int .i64 19)), ((7, [(3, 1)]), .iface S2 v2), ((7, []), .iface S1 v1)]) := hs
  clear hs HC
  have HC : Hid (type_of% (HX.out.same2 (db := dy) (List.mem_cons_of_mem _ List.mem_cons_self))) := HX.out.same2 (db := dy) (List.mem_cons_of_mem _ List.mem_cons_self)
  go_wp2_with fail
  refine HC.out.mono ?_
  rintro e w25 ⟨rfl, hs⟩
  clear HX
  have HX : Hid (SQ w w25 w1.heap.size pb [(dz, [18446744073709551615, 0]), (dy, [18446744073709551615, 0]), (dx, [7, 0]), (dc, [18446744073709551615, 0]), (db, [5, 18446744073709551615]), (da, [9])] [((19, []), .iface 60 (.int .i64 19)), ((7, [(3, 1)]), .iface S2 v2), ((7, []), .iface S1 v1)]) := hs
  clear hs HC
  have HC : Hid (type_of% (HX.out.same2 (db := dz) List.mem_cons_self)) := HX.out.same2 (db := dz) List.mem_cons_self
  go_wp2_with fail
  refine HC.out.mono ?_
  rintro e w26 ⟨rfl, hs⟩
  clear HX
  have HX : Hid (SQ w w26 w1.heap.size pb [(dz, [18446744073709551615, 0]), (dy, [18446744073709551615, 0]), (dx, [7, 0]), (dc, [18446744073709551615, 0]), (db, [5, 18446744073709551615]), (da, [9])] [((19, []), .iface 60 (.int .i64 19)), ((7, [(3, 1)]), .iface S2 v2), ((7, []), .iface S1 v1)]) := hs
  clear hs HC
  go_wp2
  go_ret
  exact ⟨rfl, HX.out.b⟩
end Go.Proofs.YtcfpkbmeblfhoaaGreatDoor.Wt
