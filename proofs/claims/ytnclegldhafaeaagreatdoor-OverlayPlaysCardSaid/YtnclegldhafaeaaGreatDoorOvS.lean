/- an overlay's checkPut. -/
import Derived.Test.YtnclegldhafaeaaGreatDoorOvR
namespace Go.Proofs.YtnclegldhafaeaaGreatDoor
open Go.RowKit Go.Extern Go.Sort

attribute [local go_sem] Oper.semAt_some

/-- what a Put is refused for: 0 where it isn't. -/
def putErr (n : Nat) (bs : List Bool) (x y wt via : Int) : Int :=
  if aliveB n bs x = true ∧ aliveB n bs y = true then (if x = y then 1 else if 140737488355328 < wt then 8 else if via = -1 then 0 else if goneB n bs via then 0 else 1) else 7
/-- an error's value. -/
def errV (c : Int) : Value := if c = 0 then .nilIface else .iface 73 (.int .i64 c)
/-- a call that only reads and answers this. -/
def Ans (f : FuncId) (args : Array Value) (w : World) (v : Value) : Prop := Calls Tryz.prog f args w fun e w' => e = .returned v ∧ w' = w
section
variable {w : World} {pb : Nat}
set_option maxRecDepth 100000 in
set_option maxHeartbeats 2000000 in
theorem cp_x (x y wt via : Int) (HX : Hid (Ans 20 #[.pointer (some ⟨pb, 0, none⟩), .int .i64 x] w (.bool false))) : Ans 39 #[.pointer (some ⟨pb, 0, none⟩), .int .i64 x, .int .i64 y, .int .u64 wt, .int .i64 via] w (.iface 73 (.int .i64 7)) := by
  unfold Ans at *
  go_enter Tryz.func39, Tryz.ntmps39
  go_wp2_with fail
  refine HX.out.mono ?_
  rintro e w1 ⟨rfl, hw1⟩
  subst hw1
  go_wp2
  go_ret
  exact ⟨rfl, rfl⟩
set_option maxRecDepth 100000 in
set_option maxHeartbeats 2000000 in
theorem cp_y (x y wt via : Int) (HX : Hid (Ans 20 #[.pointer (some ⟨pb, 0, none⟩), .int .i64 x] w (.bool true))) (HY : Hid (Ans 20 #[.pointer (some ⟨pb, 0, none⟩), .int .i64 y] w (.bool false))) : Ans 39 #[.pointer (some ⟨pb, 0, none⟩), .int .i64 x, .int .i64 y, .int .u64 wt, .int .i64 via] w (.iface 73 (.int .i64 7)) := by
  unfold Ans at *
  go_enter Tryz.func39, Tryz.ntmps39
  go_wp2_with fail
  refine HX.out.mono ?_
  rintro e w1 ⟨rfl, hw1⟩
  subst hw1
  go_wp2_with fail
  refine HY.out.mono ?_
  rintro e w2 ⟨rfl, hw2⟩
  subst hw2
  go_wp2
  go_ret
  exact ⟨rfl, rfl⟩
set_option maxRecDepth 100000 in
set_option maxHeartbeats 2000000 in
theorem cp_xy (x y wt via : Int) (HX : Hid (Ans 20 #[.pointer (some ⟨pb, 0, none⟩), .int .i64 x] w (.bool true))) (HY : Hid (Ans 20 #[.pointer (some ⟨pb, 0, none⟩), .int .i64 y] w (.bool true))) (h1 : x = y) : Ans 39 #[.pointer (some ⟨pb, 0, none⟩), .int .i64 x, .int .i64 y, .int .u64 wt, .int .i64 via] w (.iface 73 (.int .i64 1)) := by
  unfold Ans at *
  subst h1
  go_enter Tryz.func39, Tryz.ntmps39
  go_wp2_with fail
  refine HX.out.mono ?_
  rintro e w1 ⟨rfl, hw1⟩
  subst hw1
  go_wp2_with fail
  refine HY.out.mono ?_
  rintro e w2 ⟨rfl, hw2⟩
  subst hw2
  go_wp2
  go_ret
  exact ⟨rfl, rfl⟩
set_option maxRecDepth 100000 in
set_option maxHeartbeats 2000000 in
theorem cp_wt (x y wt via : Int) (HX : Hid (Ans 20 #[.pointer (some ⟨pb, 0, none⟩), .int .i64 x] w (.bool true))) (HY : Hid (Ans 20 #[.pointer (some ⟨pb, 0, none⟩), .int .i64 y] w (.bool true))) (h1 : ¬ x = y) (h2 : 140737488355328 < wt) : Ans 39 #[.pointer (some ⟨pb, 0, none⟩), .int .i64 x, .int .i64 y, .int .u64 wt, .int .i64 via] w (.iface 73 (.int .i64 8)) := by
  unfold Ans at *
  go_enter Tryz.func39, Tryz.ntmps39
  go_wp2_with fail
  refine HX.out.mono ?_
  rintro e w1 ⟨rfl, hw1⟩
  subst hw1
  go_wp2_with fail
  refine HY.out.mono ?_
  rintro e w2 ⟨rfl, hw2⟩
  subst hw2
  go_wp2
  go_ret
  exact ⟨rfl, rfl⟩
set_option maxRecDepth 100000 in
set_option maxHeartbeats 2000000 in
theorem cp_ok1 (x y wt via : Int) (HX : Hid (Ans 20 #[.pointer (some ⟨pb, 0, none⟩), .int .i64 x] w (.bool true))) (HY : Hid (Ans 20 #[.pointer (some ⟨pb, 0, none⟩), .int .i64 y] w (.bool true))) (h1 : ¬ x = y) (h2 : ¬ 140737488355328 < wt) (h3 : via = -1) : Ans 39 #[.pointer (some ⟨pb, 0, none⟩), .int .i64 x, .int .i64 y, .int .u64 wt, .int .i64 via] w .nilIface := by
  unfold Ans at *
  subst h3
  go_enter Tryz.func39, Tryz.ntmps39
  go_wp2_with fail
  refine HX.out.mono ?_
  rintro e w1 ⟨rfl, hw1⟩
  subst hw1
  go_wp2_with fail
  refine HY.out.mono ?_
  rintro e w2 ⟨rfl, hw2⟩
  subst hw2
  go_wp2
  go_ret
  exact ⟨rfl, rfl⟩
set_option maxRecDepth 100000 in
set_option maxHeartbeats 2000000 in
theorem cp_ok2 (x y wt via : Int) (HX : Hid (Ans 20 #[.pointer (some ⟨pb, 0, none⟩), .int .i64 x] w (.bool true))) (HY : Hid (Ans 20 #[.pointer (some ⟨pb, 0, none⟩), .int .i64 y] w (.bool true))) (h1 : ¬ x = y) (h2 : ¬ 140737488355328 < wt) (h3 : ¬ via = -1) (HG : Hid (Ans 60 #[.pointer (some ⟨pb, 0, none⟩), .int .i64 via] w (.bool true))) : Ans 39 #[.pointer (some ⟨pb, 0, none⟩), .int .i64 x, .int .i64 y, .int .u64 wt, .int .i64 via] w .nilIface := by
  unfold Ans at *
  go_enter Tryz.func39, Tryz.ntmps39
  go_wp2_with fail
  refine HX.out.mono ?_
  rintro e w1 ⟨rfl, hw1⟩
  subst hw1
  go_wp2_with fail
  refine HY.out.mono ?_
  rintro e w2 ⟨rfl, hw2⟩
  subst hw2
  go_wp2_with fail
  refine HG.out.mono ?_
  rintro e w3 ⟨rfl, hw3⟩
  subst hw3
  go_wp2
  go_ret
  exact ⟨rfl, rfl⟩
set_option maxRecDepth 100000 in
set_option maxHeartbeats 2000000 in
theorem cp_via (x y wt via : Int) (HX : Hid (Ans 20 #[.pointer (some ⟨pb, 0, none⟩), .int .i64 x] w (.bool true))) (HY : Hid (Ans 20 #[.pointer (some ⟨pb, 0, none⟩), .int .i64 y] w (.bool true))) (h1 : ¬ x = y) (h2 : ¬ 140737488355328 < wt) (h3 : ¬ via = -1) (HG : Hid (Ans 60 #[.pointer (some ⟨pb, 0, none⟩), .int .i64 via] w (.bool false))) : Ans 39 #[.pointer (some ⟨pb, 0, none⟩), .int .i64 x, .int .i64 y, .int .u64 wt, .int .i64 via] w (.iface 73 (.int .i64 1)) := by
  unfold Ans at *
  go_enter Tryz.func39, Tryz.ntmps39
  go_wp2_with fail
  refine HX.out.mono ?_
  rintro e w1 ⟨rfl, hw1⟩
  subst hw1
  go_wp2_with fail
  refine HY.out.mono ?_
  rintro e w2 ⟨rfl, hw2⟩
  subst hw2
  go_wp2_with fail
  refine HG.out.mono ?_
  rintro e w3 ⟨rfl, hw3⟩
  subst hw3
  go_wp2
  go_ret
  exact ⟨rfl, rfl⟩
end
section
variable {w w' : World} {PX : Nat → Option Obj} {B pb ab n : Nat} {sb : Bool → Nat} {bs : List Bool} {R : Bool → Nat → Rw} {nodes arcs : Int}
theorem checkPut_calls (h : OvMem PX w B pb ab sb n bs R nodes arcs) (x y wt via : Int) : Calls Tryz.prog 39 #[.pointer (some ⟨pb, 0, none⟩), .int .i64 x, .int .i64 y, .int .u64 wt, .int .i64 via] w fun e w' => e = .returned (errV (putErr n bs x y wt via)) ∧ w' = w := by
  have HX := alive_calls h x
  have HY := alive_calls h y
  have HG := gone_calls h via
  show Ans 39 _ w _
  unfold putErr
  cases hx : aliveB n bs x with
  | false => rw [hx] at HX; exact cp_x x y wt via HX
  | true =>
    rw [hx] at HX
    cases hy : aliveB n bs y with
    | false => rw [hy] at HY; exact cp_y x y wt via HX HY
    | true =>
      rw [hy] at HY
      rw [if_pos ⟨rfl, rfl⟩]
      by_cases h1 : x = y
      · rw [if_pos h1]; exact cp_xy x y wt via HX HY h1
      · rw [if_neg h1]
        by_cases h2 : 140737488355328 < wt
        · rw [if_pos h2]; exact cp_wt x y wt via HX HY h1 h2
        · rw [if_neg h2]
          by_cases h3 : via = -1
          · rw [if_pos h3]; exact cp_ok1 x y wt via HX HY h1 h2 h3
          · rw [if_neg h3]
            cases h4 : goneB n bs via with
            | true => rw [h4] at HG; exact cp_ok2 x y wt via HX HY h1 h2 h3 HG
            | false => rw [h4] at HG; exact cp_via x y wt via HX HY h1 h2 h3 HG
end
end Go.Proofs.YtnclegldhafaeaaGreatDoor
