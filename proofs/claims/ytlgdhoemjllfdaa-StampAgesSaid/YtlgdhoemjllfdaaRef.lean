/- The reference's stamp: numbers, and which places hold one; DocNew, Set, All. -/
import Derived.Test.YtlgdhoemjllfdaaAwake
import Derived.BigRegion
import Derived.Deep.DeepCutAuto
namespace Go.Proofs.Ytlgdhoemjllfdaa
open Go.RowKit

attribute [local go_sem] Oper.semAt_some

/-- the reference's two lists in memory. -/
structure RM (w : World) (kb ib n : Nat) (ls : List Int) (bs : List Bool) : Prop where
  krow : w.heap[kb]? = some (.cells (ls.map (Value.int .u64)).toArray 30)
  irow : w.heap[ib]? = some (.cells (bs.map Value.bool).toArray 4)
  ll : ls.length = n
  il : bs.length = n
  ne : kb ≠ ib
section
variable {w w' : World} {kb ib n : Nat} {ls : List Int} {bs : List Bool}
theorem RM.keep (h : RM w kb ib n ls bs) (h1 : w'.heap[kb]? = w.heap[kb]?) (h2 : w'.heap[ib]? = w.heap[ib]?) : RM w' kb ib n ls bs := ⟨h1.trans h.krow, h2.trans h.irow, h.ll, h.il, h.ne⟩
theorem RM.below (h : RM w kb ib n ls bs) (hb : Below w.heap.size w w') : RM w' kb ib n ls bs := h.keep (hb.block _ (lt_of_get h.krow)) (hb.block _ (lt_of_get h.irow))
theorem RM.putK (h : RM w kb ib n ls bs) (d : Nat) (k : Int) : RM (w.setCell ⟨kb, d, none⟩ (.int .u64 k)) kb ib n (ls.set d k) bs := by
  refine ⟨?_, (heap_setCell_other _ _ _ _ (Ne.symm h.ne)).trans h.irow, by rw [List.length_set]; exact h.ll, h.il, h.ne⟩
  rw [heap_setCell_same _ h.krow]
  congr 2
  rw [List.setIfInBounds_toArray, List.map_set]
theorem RM.putI (h : RM w kb ib n ls bs) (d : Nat) (b : Bool) : RM (w.setCell ⟨ib, d, none⟩ (.bool b)) kb ib n ls (bs.set d b) := by
  refine ⟨(heap_setCell_other _ _ _ _ h.ne).trans h.krow, ?_, h.ll, by rw [List.length_set]; exact h.il, h.ne⟩
  rw [heap_setCell_same _ h.irow]
  congr 2
  rw [List.setIfInBounds_toArray, List.map_set]
theorem RM.kcell (h : RM w kb ib n ls bs) {d : Nat} {k : Int} (hd : ls[d]? = some k) : w.cell? ⟨kb, d, none⟩ = some (.int .u64 k) ∧ w.frozen? ⟨kb, d, none⟩ = false := by
  refine ⟨(cells_at h.krow d).1.trans ?_, (cells_at h.krow d).2⟩
  simp [hd]
theorem RM.icell (h : RM w kb ib n ls bs) {d : Nat} {b : Bool} (hd : bs[d]? = some b) : w.cell? ⟨ib, d, none⟩ = some (.bool b) ∧ w.frozen? ⟨ib, d, none⟩ = false := by
  refine ⟨(cells_at h.irow d).1.trans ?_, (cells_at h.irow d).2⟩
  simp [hd]
end
/-- what a call on the lists makes of them and leaves alone. -/
structure RS (kb ib n : Nat) (w : World) (ls : List Int) (bs : List Bool) (wx : World) : Prop where
  rm : RM wx kb ib n ls bs
  os : wx.os = w.os
  tape : wx.tape = w.tape
  output : wx.output = w.output
  size : w.heap.size ≤ wx.heap.size
  block : ∀ k, k < w.heap.size → k ≠ kb → k ≠ ib → wx.heap[k]? = w.heap[k]?
section
variable {kb ib n : Nat} {w wx wy : World} {ls : List Int} {bs : List Bool}
theorem RS.refl (h : RM w kb ib n ls bs) : RS kb ib n w ls bs w := ⟨h, rfl, rfl, rfl, Nat.le_refl _, fun _ _ _ _ => rfl⟩
theorem RS.below (h : RS kb ib n w ls bs wx) (hb : Below wx.heap.size wx wy) : RS kb ib n w ls bs wy := ⟨h.rm.below hb, hb.os.trans h.os, hb.tape.trans h.tape, hb.output.trans h.output, Nat.le_trans h.size hb.size, fun k hk h1 h2 => (hb.block k (by have := h.size; omega)).trans (h.block k hk h1 h2)⟩
theorem RS.drew (h : RS kb ib n w ls bs wx) : RS kb ib n w ls bs wx.drew := h.below ((Below.refl _ _).drew)
theorem RS.drewN {q : Nat} (h : RS kb ib n w ls bs wx) : RS kb ib n w ls bs (wx.drewN q) := h.below (below_draws (Below.refl _ _) q)
theorem RS.putK {d : Nat} {k : Int} (h : RS kb ib n w ls bs wx) : RS kb ib n w (ls.set d k) bs (wx.setCell ⟨kb, d, none⟩ (.int .u64 k)) := ⟨h.rm.putK d k, h.os, h.tape, h.output, by simpa using h.size, fun j hj h1 h2 => (heap_setCell_other _ _ _ _ h1).trans (h.block j hj h1 h2)⟩
theorem RS.putI {d : Nat} {b : Bool} (h : RS kb ib n w ls bs wx) : RS kb ib n w ls (bs.set d b) (wx.setCell ⟨ib, d, none⟩ (.bool b)) := ⟨h.rm.putI d b, h.os, h.tape, h.output, by simpa using h.size, fun j hj h1 h2 => (heap_setCell_other _ _ _ _ h2).trans (h.block j hj h1 h2)⟩
theorem RS.res {c o : Nat} {v : Value} (hc : w.heap.size ≤ c ∧ kb ≠ c ∧ ib ≠ c) (h : RS kb ib n w ls bs wx) : RS kb ib n w ls bs (wx.setCell ⟨c, o, none⟩ v) := ⟨h.rm.keep (heap_setCell_other _ _ _ _ hc.2.1) (heap_setCell_other _ _ _ _ hc.2.2), h.os, h.tape, h.output, by simpa using h.size, fun j hj h1 h2 => (heap_setCell_other _ _ _ _ (by show j ≠ c; omega)).trans (h.block j hj h1 h2)⟩
end

theorem E_calls (n : Int) (w : World) : Calls Try.prog 19 #[.int .i64 n] w fun e w' => e = .returned (.agg #[.int .i64 n, .slice none 0 0]) ∧ Below w.heap.size w w' := by
  go_enter Try.func19, Try.ntmps19
  go_wp2
  refine bodyPost_ret (v := .agg #[.int .i64 n, .slice none 0 0]) (by simp [results, Try.results19, go_sem]) rfl ⟨rfl, (Below.refl _ _).alloc (Nat.le_refl _) _⟩

theorem infoU64 : (Try.prog.info? 30).map (fun i => (i.zero, i.size, i.bytes)) = some (some (.int .u64 0), 1, 8) := by kernel_rfl
theorem infoBool : (Try.prog.info? 4).map (fun i => (i.zero, i.size, i.bytes)) = some (some (.bool false), 1, 1) := by kernel_rfl
theorem made_rows (z : Value) (n : Nat) : madeCells #[z] n = (List.replicate n z).toArray := by
  apply Array.ext'
  rw [toList_madeCells_one]
theorem four_new (w : World) (o1 o2 o3 o4 : Obj) : ((((w.alloc o1).alloc o2).alloc o3).alloc o4).drew.heap[w.heap.size + 1 + 1]? = some o3 ∧ ((((w.alloc o1).alloc o2).alloc o3).alloc o4).drew.heap[w.heap.size + 1 + 1 + 1]? = some o4 ∧ Below w.heap.size w ((((w.alloc o1).alloc o2).alloc o3).alloc o4).drew := by
  have e1 : ((w.alloc o1).alloc o2).heap.size = w.heap.size + 1 + 1 := by simp
  have e2 : (((w.alloc o1).alloc o2).alloc o3).heap.size = w.heap.size + 1 + 1 + 1 := by simp
  refine ⟨?_, ?_, (((((Below.refl _ w).alloc (Nat.le_refl _) _).alloc (by simp) _).alloc (by simp; omega) _).alloc (by simp; omega) _).drew⟩
  · show ((((w.alloc o1).alloc o2).alloc o3).alloc o4).heap[w.heap.size + 1 + 1]? = _
    rw [Below.heap_alloc _ _ _ (by simp), ← e1]
    exact heap_new _ _
  · show ((((w.alloc o1).alloc o2).alloc o3).alloc o4).heap[w.heap.size + 1 + 1 + 1]? = _
    rw [← e2]
    exact heap_new _ _

set_option maxRecDepth 100000 in
set_option maxHeartbeats 2000000 in
theorem docNew_calls (n : Nat) (hn : n ≤ 65536) (w : World) : Calls Try.prog 14 #[.int .i64 n] w fun e w' => ∃ kb ib, e = .returned (.tuple #[.agg #[.slice (some ⟨kb, 0, none⟩) n n, .slice (some ⟨ib, 0, none⟩) n n], .agg #[.int .i64 0, .slice none 0 0]]) ∧ RM w' kb ib n (List.replicate n 0) (List.replicate n false) ∧ w.heap.size ≤ kb ∧ w.heap.size ≤ ib ∧ Below w.heap.size w w' := by
  have m1 := run_make_row' (P := Try.prog) 43 30 (.int .u64 0) 8 Try.underlying43 infoU64 rfl .i64 .i64 n (by omega) (by omega)
  have m2 := run_make_row' (P := Try.prog) 44 4 (.bool false) 1 Try.underlying44 infoBool rfl .i64 .i64 n (by omega) (by omega)
  have h1 : ¬ (n : Int) < 0 := by omega
  have h2 : ¬ (65536 : Int) < (n : Int) := by omega
  go_enter Try.func14, Try.ntmps14
  go_wp2_with fail
  go_region
  · go_wp2
    refine bodyPost_ret (v := .tuple #[.agg #[.slice (some ⟨w.heap.size + 1 + 1, 0, none⟩) n n, .slice (some ⟨w.heap.size + 1 + 1 + 1, 0, none⟩) n n], .agg #[.int .i64 0, .slice none 0 0]]) (by simp [results, Try.results14, go_sem]) rfl ?_
    obtain ⟨a, b, c⟩ := four_new w (.cells #[.slice (some ⟨w.heap.size + 1 + 1, 0, none⟩) n n, .slice (some ⟨w.heap.size + 1 + 1 + 1, 0, none⟩) n n] 46) (.cells #[.int .i64 0, .slice none 0 0] 49) (.cells (madeCells #[.int .u64 0] n) 30) (.cells (madeCells #[.bool false] n) 4)
    exact ⟨_, _, rfl, ⟨by rw [a, made_rows]; simp, by rw [b, made_rows]; simp, by simp, by simp, by omega⟩, by omega, by omega, c⟩
  · go_wp2
    refine bodyPost_ret (v := .tuple #[.agg #[.slice (some ⟨w.heap.size + 1 + 1 + 1, 0, none⟩) n n, .slice (some ⟨w.heap.size + 1 + 1, 0, none⟩) n n], .agg #[.int .i64 0, .slice none 0 0]]) (by simp [results, Try.results14, go_sem]) rfl ?_
    obtain ⟨a, b, c⟩ := four_new w (.cells #[.slice (some ⟨w.heap.size + 1 + 1 + 1, 0, none⟩) n n, .slice (some ⟨w.heap.size + 1 + 1, 0, none⟩) n n] 46) (.cells #[.int .i64 0, .slice none 0 0] 49) (.cells (madeCells #[.bool false] n) 4) (.cells (madeCells #[.int .u64 0] n) 30)
    exact ⟨_, _, rfl, ⟨by rw [b, made_rows]; simp, by rw [a, made_rows]; simp, by simp, by simp, by omega⟩, by omega, by omega, c⟩

theorem two_new (w : World) (o1 o2 : Obj) : ((w.alloc o1).alloc o2).heap[w.heap.size]? = some o1 ∧ ((w.alloc o1).alloc o2).heap[w.heap.size + 1]? = some o2 ∧ Below w.heap.size w ((w.alloc o1).alloc o2) := by
  have e1 : (w.alloc o1).heap.size = w.heap.size + 1 := by simp
  refine ⟨?_, ?_, ((Below.refl _ w).alloc (Nat.le_refl _) _).alloc (by simp) _⟩
  · rw [Below.heap_alloc _ _ _ (by simp)]; exact heap_new _ _
  · rw [← e1]; exact heap_new _ _

set_option maxRecDepth 100000 in
set_option maxHeartbeats 2000000 in
theorem rset_in {kb ib n : Nat} {ls : List Int} {bs : List Bool} {w : World} (h : RM w kb ib n ls bs) (i : Nat) (hi : i < n) (x : Int) : Calls Try.prog 15 #[.agg #[.slice (some ⟨kb, 0, none⟩) n n, .slice (some ⟨ib, 0, none⟩) n n], .int .i64 i, .int .u64 x] w fun e w' => e = .returned (.agg #[.int .i64 0, .slice none 0 0]) ∧ RS kb ib n w (ls.set i x) (bs.set i true) w' := by
  obtain ⟨W0, hW0⟩ : ∃ W0, (w.alloc (.cells #[.slice (some ⟨kb, 0, none⟩) n n, .slice (some ⟨ib, 0, none⟩) n n] 46)).alloc (.cells #[.int .i64 0, .slice none 0 0] 49) = W0 := ⟨_, rfl⟩
  obtain ⟨k0, k1, hB0⟩ := two_new w (.cells #[.slice (some ⟨kb, 0, none⟩) n n, .slice (some ⟨ib, 0, none⟩) n n] 46) (.cells #[.int .i64 0, .slice none 0 0] 49)
  rw [hW0] at k0 k1 hB0
  obtain ⟨bx, hbx⟩ : ∃ bx, w.heap.size = bx := ⟨_, rfl⟩
  rw [hbx] at k0 k1
  have hR0 := h.below hB0
  have l0 := lt_of_get h.krow
  have l1 := lt_of_get h.irow
  have HRS : Hid (RS kb ib n w ls bs W0) := (RS.refl h).below hB0
  have HX : Hid (w.heap.size ≤ bx + 1 ∧ kb ≠ bx + 1 ∧ ib ≠ bx + 1) := by refine ⟨?_, ?_, ?_⟩ <;> omega
  have n0 : kb ≠ bx := by omega
  have n1 : ib ≠ bx := by omega
  have n2 : kb ≠ ib := h.ne
  have n3 : kb ≠ bx + 1 := by omega
  have n4 : ib ≠ bx + 1 := by omega
  obtain ⟨c0, c1⟩ := pair_cells k0
  obtain ⟨c2, c3⟩ := pair_cells k1
  have z0 := (cells_at k1 0).2
  have z1 := (cells_at k1 1).2
  obtain ⟨y, hy⟩ : ∃ y, ls[i]? = some y := ⟨ls[i]'(by have := h.ll; omega), List.getElem?_eq_getElem _⟩
  obtain ⟨b, hb⟩ : ∃ b, bs[i]? = some b := ⟨bs[i]'(by have := h.il; omega), List.getElem?_eq_getElem _⟩
  obtain ⟨e0, e1⟩ := hR0.kcell hy
  obtain ⟨e2, e3⟩ := hR0.icell hb
  have HW0 : Hid ((w.alloc (.cells #[.slice (some ⟨kb, 0, none⟩) n n, .slice (some ⟨ib, 0, none⟩) n n] 46)).alloc (.cells #[.int .i64 0, .slice none 0 0] 49) = W0) := hW0
  have HBX : Hid (w.heap.size = bx) := hbx
  have b0 : (0 : Int) ≤ (i : Int) := by omega
  have b1 : (i : Int) < (n : Int) := by omega
  have lk0 : kb < W0.heap.size := lt_of_get hR0.krow
  have lk1 : ib < W0.heap.size := lt_of_get hR0.irow
  have lb : bx + 1 < W0.heap.size := lt_of_get k1
  clear h hW0 hbx k0 k1 hB0 hR0 hy hb l0 l1
  go_enter Try.func15, Try.ntmps15
  go_upto_region 1 with fail
  rw [HW0.out, HBX.out]
  go_wp2
  refine bodyPost_ret (v := .agg #[.int .i64 0, .slice none 0 0]) (by simp [results, Try.results15, go_sem, c2, c3]) rfl ⟨rfl, ?_⟩
  exact (((HRS.out.putK).putI).res HX.out).res HX.out

set_option maxRecDepth 100000 in
set_option maxHeartbeats 2000000 in
theorem rset_far {kb ib n : Nat} (i : Int) (hi : i < 0 ∨ (n : Int) ≤ i) (x : Int) (w : World) : Calls Try.prog 15 #[.agg #[.slice (some ⟨kb, 0, none⟩) n n, .slice (some ⟨ib, 0, none⟩) n n], .int .i64 i, .int .u64 x] w fun e w' => e = .returned (.agg #[.int .i64 7, .slice none 0 0]) ∧ Below w.heap.size w w' := by
  obtain ⟨W0, hW0⟩ : ∃ W0, (w.alloc (.cells #[.slice (some ⟨kb, 0, none⟩) n n, .slice (some ⟨ib, 0, none⟩) n n] 46)).alloc (.cells #[.int .i64 0, .slice none 0 0] 49) = W0 := ⟨_, rfl⟩
  obtain ⟨k0, k1, hB0⟩ := two_new w (.cells #[.slice (some ⟨kb, 0, none⟩) n n, .slice (some ⟨ib, 0, none⟩) n n] 46) (.cells #[.int .i64 0, .slice none 0 0] 49)
  rw [hW0] at k0 k1 hB0
  obtain ⟨bx, hbx⟩ : ∃ bx, w.heap.size = bx := ⟨_, rfl⟩
  rw [hbx] at k0 k1
  have HB0 : Hid (Below w.heap.size w W0) := hB0
  have HK : Hid (∀ wx, Below W0.heap.size W0 wx → wx.cell? ⟨bx, 0, none⟩ = some (.slice (some ⟨kb, 0, none⟩) n n) ∧ wx.cell? ⟨bx + 1, 0, none⟩ = some (.int .i64 0) ∧ wx.cell? ⟨bx + 1, 1, none⟩ = some (.slice none 0 0) ∧ wx.frozen? ⟨bx + 1, 0, none⟩ = false ∧ wx.frozen? ⟨bx + 1, 1, none⟩ = false ∧ bx + 1 < wx.heap.size) := fun wx h => by
    have g0 := (h.block _ (lt_of_get k0)).trans k0
    have g1 := (h.block _ (lt_of_get k1)).trans k1
    exact ⟨(pair_cells g0).1, (pair_cells g1).1, (pair_cells g1).2, (cells_at g1 0).2, (cells_at g1 1).2, lt_of_get g1⟩
  have HE : Hid (Calls Try.prog 19 #[.int .i64 7] W0 fun e w' => e = .returned (.agg #[.int .i64 7, .slice none 0 0]) ∧ Below W0.heap.size W0 w') := E_calls 7 W0
  have HW0 : Hid ((w.alloc (.cells #[.slice (some ⟨kb, 0, none⟩) n n, .slice (some ⟨ib, 0, none⟩) n n] 46)).alloc (.cells #[.int .i64 0, .slice none 0 0] 49) = W0) := hW0
  have HBX : Hid (w.heap.size = bx) := hbx
  obtain ⟨c0, _, _, _, _, lb⟩ := HK.out W0 (Below.refl _ _)
  clear hW0 hbx k0 k1 hB0
  rcases (show (i < 0) ∨ (¬ i < 0 ∧ (n : Int) ≤ i) by omega) with h | ⟨h, h2⟩
  all_goals
    go_enter Try.func15, Try.ntmps15
    go_upto_region 1 with fail
    rw [HW0.out, HBX.out]
    go_wp2_with fail
    refine HE.out.mono ?_
    rintro e w1 ⟨rfl, hb1⟩
    have HB1 : Hid (Below W0.heap.size W0 w1) := hb1
    clear c0 lb
    obtain ⟨c0, c1, c2, z1, z2, lb⟩ := HK.out w1 hb1
    clear hb1
    go_wp2
    refine bodyPost_ret (v := .agg #[.int .i64 7, .slice none 0 0]) (by simp [results, Try.results15, go_sem, c1, c2]) rfl ⟨rfl, ?_⟩
    have hbx := HBX.out
    exact ((HB0.out.trans (HB1.out.mono HB0.out.size)).setCell (p := ⟨bx + 1, 0, none⟩) (by simp only; omega) _).setCell (p := ⟨bx + 1, 1, none⟩) (by simp only; omega) _

set_option maxRecDepth 100000 in
set_option maxHeartbeats 4000000 in
theorem rall_calls {kb ib n : Nat} {ls : List Int} {bs : List Bool} {w : World} (h : RM w kb ib n ls bs) (hn : n ≤ 65536) : Calls Try.prog 16 #[.agg #[.slice (some ⟨kb, 0, none⟩) n n, .slice (some ⟨ib, 0, none⟩) n n]] w fun e w' => ∃ sv, e = .returned sv ∧ w'.ownsRow w.heap.size 3 1 sv (allB 0 bs).length (intsV (allB 0 bs)) ∧ Below w.heap.size w w' := by
  obtain ⟨i0, hi, hz0, hz1, hz2⟩ := infoInt
  obtain ⟨W0, hW0⟩ : ∃ W0, w.alloc (.cells #[.slice (some ⟨kb, 0, none⟩) n n, .slice (some ⟨ib, 0, none⟩) n n] 46) = W0 := ⟨_, rfl⟩
  have hB0 : Below w.heap.size w W0 := by rw [← hW0]; exact (Below.refl _ w).alloc (Nat.le_refl _) _
  have k0 : W0.heap[w.heap.size]? = some (.cells #[.slice (some ⟨kb, 0, none⟩) n n, .slice (some ⟨ib, 0, none⟩) n n] 46) := by rw [← hW0]; exact heap_new _ _
  obtain ⟨c0, c1⟩ := pair_cells k0
  have HW0 : Hid (w.alloc (.cells #[.slice (some ⟨kb, 0, none⟩) n n, .slice (some ⟨ib, 0, none⟩) n n] 46) = W0) := hW0
  have HB0 : Hid (Below w.heap.size w W0) := hB0
  have HM : Hid (RM w kb ib n ls bs) := h
  have HO : Hid (W0.ownsRow w.heap.size 3 1 (.slice none 0 0) 0 []) := World.ownsRow_nil _ _ _ _
  have hil := h.il
  clear h hW0 hB0 k0
  go_enter Try.func16, Try.ntmps16
  go_upto_region 2 with fail
  rw [HW0.out]
  go_wp2_with fail
  go_loopw [3, 9] (fun av iv wr => ∃ k : Nat, k ≤ n ∧ iv = .int .i64 k ∧ wr.ownsRow w.heap.size 3 1 av (allB 0 (bs.take k)).length (intsV (allB 0 (bs.take k))) ∧ Below w.heap.size w wr) (fun _ iv _ => n - (intOf iv).toNat)
  case atStart => exact ⟨0, Nat.zero_le _, rfl, HO.out, HB0.out⟩
  case round =>
    obtain ⟨k, hk, rfl, hR, hB⟩ := hrel
    have hM := HM.out.below hB
    obtain ⟨so, sc, hsv⟩ := row_slice hR
    subst hsv
    have HR : Hid (wr.ownsRow w.heap.size 3 1 (.slice so (allB 0 (bs.take k)).length sc) (allB 0 (bs.take k)).length (intsV (allB 0 (bs.take k)))) := hR
    have HB : Hid (Below w.heap.size w wr) := hB
    have hll : (allB 0 (bs.take k)).length ≤ 65536 := by
      have h1 := allB_len 0 (bs.take k)
      rw [List.length_take] at h1
      omega
    by_cases hlt : k < n
    · obtain ⟨b, hbk⟩ : ∃ b, bs[k]? = some b := ⟨bs[k]'(by omega), List.getElem?_eq_getElem _⟩
      have HT := allB_take hbk
      have HT' : Hid (type_of% HT) := HT
      obtain ⟨e0, _⟩ := hM.icell hbk
      have hws : w.heap.size ≤ wr.heap.size := hB.size
      have b0 : (0 : Int) ≤ (k : Int) := by omega
      have b1 : (k : Int) < (n : Int) := by omega
      clear HT hbk hM hR hB c0 c1
      generalize allB 0 (bs.take k) = L at *
      cases b with
      | false =>
        go_wp2
        go_roundw
        case rel => exact ⟨k + 1, by omega, by go_num, by rw [HT'.out]; simpa using HR.out, HB.out⟩
        case measure => simp [intOf]; omega
      | true =>
        go_wp2_with (at_builtin; refine wpList_append_own _ rfl _ _ 37 rfl w.heap.size 3 i0 (.int .i64 0) 1 8 Try.underlying37 hi hz0 hz1 hz2 rfl (by decide) (.slice so L.length sc) L.length (intsV L) rfl ?hown ⟨wr.heap.size, 0, none⟩ 1 1 [.int .i64 k] rfl rfl ?hnews ?hone ?h63 ?hby ?hbase ?_; (case hown => exact HR.out.alloc _); (case hnews => intro j x hx; rcases j with _ | j <;> simp at hx; subst hx; simp [Addr.add]); (case hone => intro x hx; simp at hx; subst hx; rfl); (case h63 => unfold maxLen; omega); (case hby => omega); (case hbase => simp; omega); intro v' w5 hown5 hgrow5 hnil5; obtain ⟨vo, vc, hv'⟩ := row_slice hown5; subst hv')
        have hnb5 : ∀ j, j < w.heap.size → some j ≠ (Value.slice so L.length sc).ownBlock := fun j hj e => by
          rcases HR.out.2 with ⟨h, _⟩ | ⟨g, cap', cur, h, hg, _⟩
          · injection h with h1; subst h1; cases e
          · injection h with h1; subst h1
            have : j = g := Option.some.inj e
            omega
        refine ⟨⟨k + 1, by omega, by go_num, ?_, ?_⟩, by simp [intOf]; omega⟩
        · rw [HT'.out, if_pos rfl, List.length_append, intsV_append]
          exact hown5
        · exact HB.out.trans ⟨hgrow5.os, hgrow5.tape, hgrow5.output, by have := hgrow5.size; simp at this; omega, fun j hj => (hgrow5.block j (by simp; omega) (hnb5 j hj)).trans (Below.heap_alloc _ _ _ (by omega))⟩
    · obtain rfl : k = n := by omega
      have HE : Hid (bs.take k = bs) := by show _ = _; rw [← hil, List.take_length]
      rw [HE.out] at HR ⊢
      clear hM hR hB
      go_wp2
      go_ret
      exact ⟨_, rfl, HR.out, HB.out⟩
end Go.Proofs.Ytlgdhoemjllfdaa
