/- viaductref06.DocNew: the reference's heap, new; or the error. -/
import Derived.Test.YtkeniogcjhmikaaDoorRef
import Derived.Test.YtkeniogcjhmikaaDoorFixed
import Derived.BigRegion
namespace Go.Proofs.YtkeniogcjhmikaaDoor
open Go.RowKit

attribute [local go_sem] Oper.semAt_some

theorem info40 : (Tryd.prog.info? 40).map (fun i => (i.zero, i.size, i.bytes)) = some (some (.int .u64 0), 1, 8) := by kernel_rfl
theorem info4 : (Tryd.prog.info? 4).map (fun i => (i.zero, i.size, i.bytes)) = some (some (.bool false), 1, 1) := by kernel_rfl
theorem made_rows (z : Value) (n : Nat) : madeCells #[z] n = (List.replicate n z).toArray := by
  apply Array.ext'
  rw [toList_madeCells_one]

set_option maxHeartbeats 1000000 in
theorem docNew_bad (n : Int) (hn : n < 0 ∨ 65536 < n) (w : World) : Calls Tryd.prog 8 #[.int .i64 n] w fun e w' => e = .returned (.tuple #[.agg #[.slice none 0 0, .slice none 0 0], .agg #[.int .i64 1, .slice none 0 0]]) ∧ Below w.heap.size w w' := by
  obtain ⟨W0, hW0⟩ : ∃ W0, (w.alloc (.cells #[.slice none 0 0, .slice none 0 0] 32)).alloc (.cells #[.int .i64 0, .slice none 0 0] 35) = W0 := ⟨_, rfl⟩
  have hB0 : Below w.heap.size w W0 := by rw [← hW0]; exact ((Below.refl _ w).alloc (Nat.le_refl _) _).alloc (by simp) _
  have k0 : W0.heap[w.heap.size]? = some (.cells #[.slice none 0 0, .slice none 0 0] 32) := by rw [← hW0, Below.heap_alloc _ _ _ (by simp)]; exact heap_new _ _
  have k1 : W0.heap[w.heap.size + 1]? = some (.cells #[.int .i64 0, .slice none 0 0] 35) := by
    have h := heap_new (w.alloc (.cells #[.slice none 0 0, .slice none 0 0] 32)) (.cells #[.int .i64 0, .slice none 0 0] 35)
    rw [hW0] at h
    simpa using h
  have HW0 : Hid ((w.alloc (.cells #[.slice none 0 0, .slice none 0 0] 32)).alloc (.cells #[.int .i64 0, .slice none 0 0] 35) = W0) := hW0
  have HE : Hid (Calls Tryd.prog 18 #[.int .i64 1] W0 fun e w' => e = .returned (.agg #[.int .i64 1, .slice none 0 0]) ∧ Below W0.heap.size W0 w') := E_calls 1 W0
  have HK : Hid (∀ wx, Below W0.heap.size W0 wx → (wx.cell? ⟨w.heap.size, 0, none⟩ = some (.slice none 0 0) ∧ wx.cell? ⟨w.heap.size, 1, none⟩ = some (.slice none 0 0) ∧ wx.frozen? ⟨w.heap.size, 0, none⟩ = false ∧ wx.frozen? ⟨w.heap.size, 1, none⟩ = false) ∧ (wx.cell? ⟨w.heap.size + 1, 0, none⟩ = some (.int .i64 0) ∧ wx.cell? ⟨w.heap.size + 1, 1, none⟩ = some (.slice none 0 0) ∧ wx.frozen? ⟨w.heap.size + 1, 0, none⟩ = false ∧ wx.frozen? ⟨w.heap.size + 1, 1, none⟩ = false) ∧ w.heap.size + 1 < wx.heap.size ∧ Below w.heap.size w wx) := fun wx h => by
    have g0 := (h.block _ (lt_of_get k0)).trans k0
    have g1 := (h.block _ (lt_of_get k1)).trans k1
    refine ⟨⟨(pair_cells g0).1, (pair_cells g0).2, (cells_at g0 0).2, (cells_at g0 1).2⟩, ⟨(pair_cells g1).1, (pair_cells g1).2, (cells_at g1 0).2, (cells_at g1 1).2⟩, lt_of_get g1, hB0.trans (h.mono hB0.size)⟩
  clear hW0 hB0 k0 k1
  rcases (show n < 0 ∨ (¬ n < 0 ∧ 65536 < n) by omega) with h | ⟨h, h2⟩
  all_goals
    go_enter Tryd.func8, Tryd.ntmps8
    go_wp2_with fail
    rw [HW0.out]
    refine HE.out.mono ?_
    rintro e w1 ⟨rfl, hb1⟩
    obtain ⟨⟨a0, a1, a2, a3⟩, ⟨b0, b1, b2, b3⟩, hs, hbw⟩ := HK.out w1 hb1
    have HBW : Hid (Below w.heap.size w w1) := hbw
    clear hb1 hbw
    go_wp2
    refine bodyPost_ret (v := .tuple #[.agg #[.slice none 0 0, .slice none 0 0], .agg #[.int .i64 1, .slice none 0 0]]) (by simp [results, Tryd.results8, go_sem, a0, a1, b0, b1]) rfl ⟨rfl, ?_⟩
    exact (((HBW.out.setCell (p := ⟨w.heap.size, 0, none⟩) (Nat.le_refl _) _).setCell (p := ⟨w.heap.size, 1, none⟩) (Nat.le_refl _) _).setCell (p := ⟨w.heap.size + 1, 0, none⟩) (by simp) _).setCell (p := ⟨w.heap.size + 1, 1, none⟩) (by simp) _

theorem four_new (w : World) (o1 o2 o3 o4 : Obj) : ((((w.alloc o1).alloc o2).alloc o3).alloc o4).drew.heap[w.heap.size + 1 + 1]? = some o3 ∧ ((((w.alloc o1).alloc o2).alloc o3).alloc o4).drew.heap[w.heap.size + 1 + 1 + 1]? = some o4 ∧ Below w.heap.size w ((((w.alloc o1).alloc o2).alloc o3).alloc o4).drew := by
  have e1 : ((w.alloc o1).alloc o2).heap.size = w.heap.size + 1 + 1 := by simp
  have e2 : (((w.alloc o1).alloc o2).alloc o3).heap.size = w.heap.size + 1 + 1 + 1 := by simp
  refine ⟨?_, ?_, (((((Below.refl _ w).alloc (Nat.le_refl _) _).alloc (by simp) _).alloc (by simp; omega) _).alloc (by simp; omega) _).drew⟩
  · show ((((w.alloc o1).alloc o2).alloc o3).alloc o4).heap[w.heap.size + 1 + 1]? = _
    rw [Below.heap_alloc _ _ _ (by simp), ← e1]
    exact heap_new _ _
  · show ((((w.alloc o1).alloc o2).alloc o3).alloc o4).heap[w.heap.size + 1 + 1 + 1]? = _
    rw [← e2]
    exact heap_new _ _

set_option maxRecDepth 100000 in
set_option maxHeartbeats 2000000 in
theorem docNew_calls (n : Nat) (hn : n ≤ 65536) (w : World) : Calls Tryd.prog 8 #[.int .i64 n] w fun e w' => ∃ kb ib, e = .returned (.tuple #[.agg #[.slice (some ⟨kb, 0, none⟩) n n, .slice (some ⟨ib, 0, none⟩) n n], .agg #[.int .i64 0, .slice none 0 0]]) ∧ RM w' kb ib n (List.replicate n 0) (List.replicate n false) ∧ w.heap.size ≤ kb ∧ w.heap.size ≤ ib ∧ Below w.heap.size w w' := by
  have m1 := run_make_row' (P := Tryd.prog) 29 40 (.int .u64 0) 8 Tryd.underlying29 info40 rfl .i64 .i64 n (by omega) (by omega)
  have m2 := run_make_row' (P := Tryd.prog) 30 4 (.bool false) 1 Tryd.underlying30 info4 rfl .i64 .i64 n (by omega) (by omega)
  have h1 : ¬ (n : Int) < 0 := by omega
  have h2 : ¬ (65536 : Int) < (n : Int) := by omega
  go_enter Tryd.func8, Tryd.ntmps8
  go_wp2_with fail
  go_region
  · go_wp2
    refine bodyPost_ret (v := .tuple #[.agg #[.slice (some ⟨w.heap.size + 1 + 1, 0, none⟩) n n, .slice (some ⟨w.heap.size + 1 + 1 + 1, 0, none⟩) n n], .agg #[.int .i64 0, .slice none 0 0]]) (by simp [results, Tryd.results8, go_sem]) rfl ?_
    obtain ⟨a, b, c⟩ := four_new w (.cells #[.slice (some ⟨w.heap.size + 1 + 1, 0, none⟩) n n, .slice (some ⟨w.heap.size + 1 + 1 + 1, 0, none⟩) n n] 32) (.cells #[.int .i64 0, .slice none 0 0] 35) (.cells (madeCells #[.int .u64 0] n) 40) (.cells (madeCells #[.bool false] n) 4)
    exact ⟨_, _, rfl, ⟨by rw [a, made_rows]; simp, by rw [b, made_rows]; simp, by simp, by simp, by omega⟩, by omega, by omega, c⟩
  · go_wp2
    refine bodyPost_ret (v := .tuple #[.agg #[.slice (some ⟨w.heap.size + 1 + 1 + 1, 0, none⟩) n n, .slice (some ⟨w.heap.size + 1 + 1, 0, none⟩) n n], .agg #[.int .i64 0, .slice none 0 0]]) (by simp [results, Tryd.results8, go_sem]) rfl ?_
    obtain ⟨a, b, c⟩ := four_new w (.cells #[.slice (some ⟨w.heap.size + 1 + 1 + 1, 0, none⟩) n n, .slice (some ⟨w.heap.size + 1 + 1, 0, none⟩) n n] 32) (.cells #[.int .i64 0, .slice none 0 0] 35) (.cells (madeCells #[.bool false] n) 4) (.cells (madeCells #[.int .u64 0] n) 40)
    exact ⟨_, _, rfl, ⟨by rw [b, made_rows]; simp, by rw [a, made_rows]; simp, by simp, by simp, by omega⟩, by omega, by omega, c⟩
end Go.Proofs.YtkeniogcjhmikaaDoor
