/- fault.counted: the first links of a chain, made anew. -/
import Derived.Test.YthgmhhlgjooeaaaDoorErrD
import Derived.Deep.RegionWith
namespace Go.Proofs.YthgmhhlgjooeaaaDoor.F1
open Go.RowKit Go.Extern

theorem Tryd.ta2424 (v : Value) (w : World) : (Instr.typeAssert (.iface 27 v) 24 27 true).run Tryd.prog w = .ok (.tuple #[v, .bool true]) w := by kernel_rfl
theorem Tryd.ta3030 (v : Value) (w : World) : (Instr.typeAssert (.iface 47 v) 24 47 true).run Tryd.prog w = .ok (.tuple #[v, .bool true]) w := by kernel_rfl
theorem Tryd.ta3024 (v : Value) (w : World) : (Instr.typeAssert (.iface 47 v) 24 27 true).run Tryd.prog w = .ok (.tuple #[.int .i64 0, .bool false]) w := by kernel_rfl
theorem counted_nil (n : Int) (w : World) :
    Calls Tryd.prog 19 #[.nilIface, .int .i64 n] w fun e w' => e = .returned .nilIface ∧ w' = w := by
  go_enter Tryd.func19, Tryd.ntmps19
  go_wp2
  go_ret
  exact ⟨rfl, rfl⟩
theorem counted_zero (t : TypeId) (x : Value) (w : World) :
    Calls Tryd.prog 19 #[.iface t x, .int .i64 0] w fun e w' => e = .returned .nilIface ∧ w' = w := by
  go_enter Tryd.func19, Tryd.ntmps19
  go_wp2
  go_ret
  exact ⟨rfl, rfl⟩
theorem counted_num (x : Int) (n : Int) (hn : (n == 0) = false) (w : World) :
    Calls Tryd.prog 19 #[.iface 27 (.int .i64 x), .int .i64 n] w fun e w' => e = .returned (.iface 27 (.int .i64 x)) ∧ w' = w := by
  have t1 := Tryd.ta2424
  go_enter Tryd.func19, Tryd.ntmps19
  go_wp2
  go_ret
  exact ⟨rfl, rfl⟩
set_option maxHeartbeats 1000000 in
/-- a fault: its place, and behind it what the inner call makes of the rest. -/
theorem counted_fault (b : Nat) (k a : Int) (u : Value) (n : Int) (h0 : 1 ≤ n) (h1 : n ≤ 64) (w : World)
    (hb : w.heap[b]? = some (.cells #[.int .i64 k, .int .i64 a, u] 49)) (R : Value → World → Prop)
    (hin : ∀ wd : World, Below w.heap.size w wd → Calls Tryd.prog 19 #[u, .int .i64 (n - 1)] wd fun e w' => ∃ t x, e = .returned (.iface t x) ∧ R (.iface t x) w' ∧ Below wd.heap.size wd w') :
    Calls Tryd.prog 19 #[.iface 47 (.pointer (some ⟨b, 0, none⟩)), .int .i64 n] w fun e w' => ∃ t x wm, R (.iface t x) wm ∧ Below w.heap.size w wm ∧ e = .returned (.iface 47 (.pointer (some ⟨wm.heap.size, 0, none⟩))) ∧ w' = wm.alloc (.cells #[.int .i64 k, .int .i64 a, .iface t x] 49) := by
  obtain ⟨c0, c1, c2⟩ := cell_of_fault hb
  have hlt := lt_of_get hb
  have t1 := Tryd.ta3030
  have t2 := Tryd.ta3024
  have hn : (n == 0) = false := by rw [beq_eq_false_iff_ne]; omega
  have HIN : Hid (∀ wd : World, Below w.heap.size w wd → Calls Tryd.prog 19 #[u, .int .i64 (n - 1)] wd fun e w' => ∃ t x, e = .returned (.iface t x) ∧ R (.iface t x) w' ∧ Below wd.heap.size wd w') := hin
  clear hin
  have HWR : Hid (IntKind.i64.wrap (n - 1) = n - 1) := by show _ = _; rw [IntKind.wrap_i64]; omega
  go_enter Tryd.func19, Tryd.ntmps19
  go_wp2
  go_region_with (go_at_call 19; rw [HWR.out]; refine (HIN.out _ ?_).mono ?_; exact (Below.refl _ _).drew; rintro e w' ⟨t, x, rfl, hR, hB⟩; have d0 : w'.cell? ⟨b, 0, none⟩ = some (.int .i64 k) := (hB.cell hlt).trans c0; have d1 : w'.cell? ⟨b, 1, none⟩ = some (.int .i64 a) := (hB.cell hlt).trans c1)
  all_goals
    go_wp2
    go_ret
    exact ⟨_, _, _, hR, (Below.refl _ w).drew.trans hB, rfl, rfl⟩
set_option maxHeartbeats 1000000 in
/-- a fault: its place, and behind it what the inner call makes of the rest. -/
theorem counted_last (b : Nat) (k a : Int) (u : Value) (n : Int) (h0 : 1 ≤ n) (h1 : n ≤ 64) (w : World)
    (hb : w.heap[b]? = some (.cells #[.int .i64 k, .int .i64 a, u] 49))
    (hin : ∀ wd : World, Below w.heap.size w wd → Calls Tryd.prog 19 #[u, .int .i64 (n - 1)] wd fun e w' => e = .returned .nilIface ∧ Below wd.heap.size wd w') :
    Calls Tryd.prog 19 #[.iface 47 (.pointer (some ⟨b, 0, none⟩)), .int .i64 n] w fun e w' => ∃ wm, Below w.heap.size w wm ∧ e = .returned (.iface 47 (.pointer (some ⟨wm.heap.size, 0, none⟩))) ∧ w' = wm.alloc (.cells #[.int .i64 k, .int .i64 a, .nilIface] 49) := by
  obtain ⟨c0, c1, c2⟩ := cell_of_fault hb
  have hlt := lt_of_get hb
  have t1 := Tryd.ta3030
  have t2 := Tryd.ta3024
  have hn : (n == 0) = false := by rw [beq_eq_false_iff_ne]; omega
  have HIN : Hid (∀ wd : World, Below w.heap.size w wd → Calls Tryd.prog 19 #[u, .int .i64 (n - 1)] wd fun e w' => e = .returned .nilIface ∧ Below wd.heap.size wd w') := hin
  clear hin
  have HWR : Hid (IntKind.i64.wrap (n - 1) = n - 1) := by show _ = _; rw [IntKind.wrap_i64]; omega
  go_enter Tryd.func19, Tryd.ntmps19
  go_wp2
  go_region_with (go_at_call 19; rw [HWR.out]; refine (HIN.out _ ?_).mono ?_; exact (Below.refl _ _).drew; rintro e w' ⟨rfl, hB⟩; have d0 : w'.cell? ⟨b, 0, none⟩ = some (.int .i64 k) := (hB.cell hlt).trans c0; have d1 : w'.cell? ⟨b, 1, none⟩ = some (.int .i64 a) := (hB.cell hlt).trans c1)
  all_goals
    go_wp2
    go_ret
    exact ⟨_, (Below.refl _ w).drew.trans hB, rfl, rfl⟩
end Go.Proofs.YthgmhhlgjooeaaaDoor.F1
