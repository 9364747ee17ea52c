/- Errors of another kind (errors.New's) at the end of a chain: fault.unwrapped gives nothing of them, so that fault.counted ends there; errors.As and errors.Is find nothing in them. -/
import Derived.Test.YtkmbffdjgpjojabDoorErrG
import Derived.Test.YtkmbffdjgpjojabDoorErrF
import Derived.Test.YtkmbffdjgpjojabDoorErrH
import Derived.Test.YtkmbffdjgpjojabDoorErrI
import Derived.Defers
import Derived.Recover
import Derived.Laws.Pointers
namespace Go.Proofs.YtkmbffdjgpjojabDoor
open Go.RowKit Go.Extern

theorem unwrap87 (x : Value) (w : World) : Calls Tryd.prog 46 #[.iface 46 x] w fun e w' => e = .returned .nilIface ∧ w' = w := by
  have g := Tryd.noUn87
  go_enter Tryd.func46, Tryd.ntmps46
  go_wp2
  go_ret
  exact ⟨rfl, rfl⟩

theorem catch_idle (p : Addr) (w : World) :
    CallsD Tryd.prog 45 #[.pointer (some p)] .returning w fun e u' w' => e = .returned (.tuple #[]) ∧ u' = .returning ∧ w' = w := by
  refine callsD_of_wpS Tryd.func45 rfl fun c₀ cs hu => ?_
  apply wpS_seq
  apply wpS_region
  simp [wpOpsS, go_sem, recoverD, hu, Tryd.ntmps45, Exit.thenS]
  refine wpS_cond (t := false) (by simp [Act.eval, Array.replicate]) ?_
  simp only [Bool.false_eq_true, if_false]
  refine wpS_of_wp (wp_skip ?_)
  cases c₀
  simp_all [bodyPostS, results, Tryd.results45]

theorem unwrapped87 (x : Value) (w : World) : Calls Tryd.prog 38 #[.iface 46 x] w fun e w' => e = .returned .nilIface ∧ Below w.heap.size w w' := by
  have hmf : ∀ (fn : Fn) (first cap : Array Value) (w : World), (Instr.makeFunc fn first cap).run Tryd.prog w = .ok (.func fn first cap) w := fun _ _ _ _ => rfl
  go_enter_defers Tryd.func38, Tryd.ntmps38
  go_wp2_with (go_at_call 46; refine (unwrap87 _ _).mono ?_; rintro e w' ⟨rfl, rfl⟩)
  refine leaves_cons (f := 45) (args := #[.pointer (some ⟨w.heap.size, 0, none⟩)]) (by simp) (by simp [go_sem]) ?_
  refine (catch_idle ⟨w.heap.size, 0, none⟩ _).mono ?_
  rintro e u' w'' ⟨rfl, rfl, rfl⟩
  simp [Leaves, settle, results, Tryd.results38, go_sem]
  exact (Below.refl _ _).alloc (Nat.le_refl _) _

/-- counted ends at an error of another kind. -/
theorem counted_other (x : Value) (n : Int) (h0 : 1 ≤ n) (h1 : n ≤ 64) (w : World) :
    Calls Tryd.prog 24 #[.iface 46 x, .int .i64 n] w fun e w' => e = .returned .nilIface ∧ Below w.heap.size w w' := by
  have t1 := Tryd.ta8724
  have t2 := Tryd.ta8730
  have hn : (n == 0) = false := by rw [beq_eq_false_iff_ne]; omega
  go_enter Tryd.func24, Tryd.ntmps24
  go_wp2_with fail
  refine (unwrapped87 x w).mono ?_
  rintro e w1 ⟨rfl, hb1⟩
  go_wp2_with fail
  refine (counted_nil _ w1).mono ?_
  rintro e w2 ⟨rfl, hw⟩
  subst hw
  go_wp2
  go_ret
  exact ⟨rfl, hb1⟩

/-- counted ends at a fault that is nil. -/
theorem counted_none (n : Int) (h0 : 1 ≤ n) (h1 : n ≤ 64) (w : World) :
    Calls Tryd.prog 24 #[.iface 34 (.pointer none), .int .i64 n] w fun e w' => e = .returned .nilIface ∧ w' = w := by
  have t1 := Tryd.ta3024
  have t2 := Tryd.ta3030
  have hn : (n == 0) = false := by rw [beq_eq_false_iff_ne]; omega
  go_enter Tryd.func24, Tryd.ntmps24
  go_wp2
  go_ret
  exact ⟨rfl, rfl⟩

/-- what a chain may end in. -/
def Tail3 (tv : Value) : Prop := tv = .nilIface ∨ (∃ n, tv = .iface 27 (.int .i64 n)) ∨ (∃ x, tv = .iface 46 x) ∨ tv = .iface 34 (.pointer none)
/-- what of it counts. -/
def strip : Value → Value
  | .iface 46 _ => .nilIface
  | .iface 34 (.pointer none) => .nilIface
  | v => v
theorem strip_or {tv : Value} (h : Tail3 tv) : strip tv = .nilIface ∨ ∃ n, strip tv = .iface 27 (.int .i64 n) := by
  rcases h with rfl | ⟨n, rfl⟩ | ⟨x, rfl⟩ | rfl
  · exact Or.inl rfl
  · exact Or.inr ⟨n, rfl⟩
  · exact Or.inl rfl
  · exact Or.inl rfl
theorem shape3 {w : World} {tv : Value} (htv : Tail3 tv) {ps : List (Int × Int)} {v : Value} (h : IsErr w tv ps v) : (v = .nilIface ∧ ps = [] ∧ tv = .nilIface) ∨ ∃ T x, v = .iface T x := by
  cases ps with
  | nil =>
    obtain rfl : v = tv := h
    rcases htv with rfl | ⟨n, rfl⟩ | ⟨x, rfl⟩ | rfl
    · exact Or.inl ⟨rfl, rfl, rfl⟩
    · exact Or.inr ⟨_, _, rfl⟩
    · exact Or.inr ⟨_, _, rfl⟩
    · exact Or.inr ⟨_, _, rfl⟩
  | cons p ps => obtain ⟨b, u, e, _⟩ := h; exact Or.inr ⟨_, _, e⟩

/-- fault.counted, whatever the chain ends in. -/
theorem counted_gen {tv : Value} (htv : Tail3 tv) : ∀ (n : Nat) (ps : List (Int × Int)) (v : Value) (w : World), n ≤ 64 → IsErr w tv ps v →
    Calls Tryd.prog 24 #[v, .int .i64 (n : Int)] w fun e w' => ∃ v', e = .returned v' ∧ IsErr w' (cutTail (strip tv) ps n) (ps.take n) v' ∧ Below w.heap.size w w'
  | 0, ps, v, w, _, hv => by
    rcases shape3 htv hv with ⟨rfl, _, _⟩ | ⟨T, x, rfl⟩
    · refine (counted_nil _ w).mono ?_
      rintro e w' ⟨rfl, rfl⟩
      exact ⟨_, rfl, by simp [cutTail, IsErr], Below.refl _ _⟩
    · refine (counted_zero T x w).mono ?_
      rintro e w' ⟨rfl, rfl⟩
      exact ⟨_, rfl, by simp [cutTail, IsErr], Below.refl _ _⟩
  | n + 1, [], v, w, hn, hv => by
    obtain rfl : v = tv := hv
    rcases htv with rfl | ⟨x, rfl⟩ | ⟨x, rfl⟩ | rfl
    · refine (counted_nil _ w).mono ?_
      rintro e w' ⟨rfl, rfl⟩
      exact ⟨_, rfl, by simp [cutTail, IsErr, strip], Below.refl _ _⟩
    · refine (counted_num x _ (by rw [beq_eq_false_iff_ne]; omega) w).mono ?_
      rintro e w' ⟨rfl, rfl⟩
      exact ⟨_, rfl, by simp [cutTail, IsErr, strip], Below.refl _ _⟩
    · refine (counted_other x _ (by omega) (by omega) w).mono ?_
      rintro e w' ⟨rfl, hb⟩
      exact ⟨_, rfl, by simp [cutTail, IsErr, strip], hb⟩
    · refine (counted_none _ (by omega) (by omega) w).mono ?_
      rintro e w' ⟨rfl, rfl⟩
      exact ⟨_, rfl, by simp [cutTail, IsErr, strip], Below.refl _ _⟩
  | n + 1, p :: ps, v, w, hn, hv => by
    obtain ⟨b, u, rfl, hb, hr⟩ := hv
    have e1 : ((n + 1 : Nat) : Int) - 1 = (n : Int) := by omega
    have ih : ∀ wd : World, Below w.heap.size w wd → Calls Tryd.prog 24 #[u, .int .i64 (((n + 1 : Nat) : Int) - 1)] wd fun e w' => ∃ v', e = .returned v' ∧ IsErr w' (cutTail (strip tv) ps n) (ps.take n) v' ∧ Below wd.heap.size wd w' := fun wd hB => by
      rw [e1]
      exact counted_gen htv n ps u wd (by omega) (hr.keep (fun b c hb => by rw [hB.block b (lt_of_get hb)]; exact hb))
    have hct : cutTail (strip tv) ps n = .nilIface ∨ ∃ m, cutTail (strip tv) ps n = .iface 27 (.int .i64 m) := by
      unfold cutTail; split
      · exact strip_or htv
      · exact Or.inl rfl
    rw [cutTail_cons]
    by_cases hc : ps.take n = [] ∧ cutTail (strip tv) ps n = .nilIface
    · obtain ⟨h1, h2⟩ := hc
      refine (counted_last b p.1 p.2 u _ (by omega) (by omega) w hb (fun wd hB => (ih wd hB).mono ?_)).mono ?_
      · rintro e w' ⟨v', rfl, hi, hB'⟩
        rw [h1, h2] at hi
        obtain rfl : v' = .nilIface := hi
        exact ⟨rfl, hB'⟩
      · rintro e w' ⟨wm, hB, rfl, rfl⟩
        refine ⟨_, rfl, ?_, hB.alloc hB.size _⟩
        rw [List.take_succ_cons, h1, h2]
        exact isErr_new (show IsErr wm .nilIface [] .nilIface from rfl)
    · refine (counted_fault b p.1 p.2 u _ (by omega) (by omega) w hb (fun v' w' => IsErr w' (cutTail (strip tv) ps n) (ps.take n) v') (fun wd hB => (ih wd hB).mono ?_)).mono ?_
      · rintro e w' ⟨v', rfl, hi, hB'⟩
        rcases isErr_shape hct hi with ⟨_, h1, h2⟩ | ⟨T, x, rfl⟩
        · exact absurd ⟨h1, h2⟩ hc
        · exact ⟨T, x, rfl, hi, hB'⟩
      · rintro e w' ⟨T, x, wm, hi, hB, rfl, rfl⟩
        refine ⟨_, rfl, ?_, hB.alloc hB.size _⟩
        rw [List.take_succ_cons]
        exact isErr_new hi

set_option maxHeartbeats 4000000 in
/-- the inner errors.as: an error of another kind at a target of faults. -/
theorem as32_other (x : Value) (t a : Addr) (w : World) :
    Calls Tryd.prog 37 #[.iface 46 x, .iface 60 (.pointer (some t)), .agg #[.pointer (some ⟨5, 60, none⟩), .pointer (some a), .int .u64 150], .iface 90 (.agg #[.pointer (some ⟨5, 34, none⟩)])] w fun ev w' =>
      ev = .returned (.bool false) ∧ w' = w.alloc (.cells #[.pointer (some ⟨5, 60, none⟩), .pointer (some a), .int .u64 150] 80) := by
  have h33 := x33
  have h95 := x95
  have f1 := Tryd.typeOf87
  have f2 := Tryd.methodAssignableTo
  have f3 := Tryd.asg8730
  have g1 := Tryd.noAs87
  have g2 := Tryd.noUn87
  have g3 := Tryd.noUns87
  go_enter Tryd.func37, Tryd.ntmps37
  go_wp2
  refine wp_loop_rounds 1 ?_
  rw [rounds_succ]
  go_wp2
  go_ret
  exact ⟨rfl, rfl⟩
theorem as_fault_other (x : Value) (t : Addr) (w : World) (hg : w.cell? ⟨0, 0, none⟩ = some (.iface 90 (.agg #[.pointer (some ⟨5, 24, none⟩)]))) :
    Calls Tryd.prog 23 #[.iface 46 x, .iface 60 (.pointer (some t))] w fun ev w' => ev = .returned (.bool false) ∧ Below w.heap.size w w' := by
  refine as32_calls t _ _ 46 w _ rfl hg ?_
  refine (as32_other x t ⟨w.heap.size, 0, none⟩ _).mono ?_
  rintro ev w' ⟨rfl, rfl⟩
  exact ⟨false, rfl, rfl, (asW_below w 60 t).alloc (by rw [asW_size]; omega) _⟩
end Go.Proofs.YtkmbffdjgpjojabDoor
