/- an overlay that is nil. -/
import Derived.Test.YtgfhmciolmgogaaDoorOvU
namespace Go.Proofs.YtgfhmciolmgogaaDoor
open Go.RowKit Go.Extern Go.Sort

attribute [local go_sem] Oper.semAt_some

section
variable {w : World}
set_option maxHeartbeats 1000000 in
theorem isNode_nil (x : Int) : Ans 28 #[.pointer none, .int .i64 x] w (.bool false) := by
  unfold Ans
  go_enter Tryd.func28, Tryd.ntmps28
  go_wp2
  go_ret
  exact ⟨rfl, rfl⟩
set_option maxHeartbeats 1000000 in
theorem alive_nil (x : Int) : Ans 15 #[.pointer none, .int .i64 x] w (.bool false) := by
  have HN : Hid (Ans 28 #[.pointer none, .int .i64 x] w (.bool false)) := isNode_nil x
  unfold Ans at *
  go_enter Tryd.func15, Tryd.ntmps15
  go_wp2_with fail
  refine HN.out.mono ?_
  rintro e w1 ⟨rfl, hw1⟩
  subst hw1
  go_wp2
  go_ret
  exact ⟨rfl, rfl⟩
set_option maxHeartbeats 1000000 in
theorem len_nil : Ans 16 #[.pointer none] w (.int .i64 0) := by
  unfold Ans
  go_enter Tryd.func16, Tryd.ntmps16
  go_wp2
  go_ret
  exact ⟨rfl, rfl⟩
set_option maxHeartbeats 1000000 in
theorem arcs_nil : Ans 9 #[.pointer none] w (.int .i64 0) := by
  unfold Ans
  go_enter Tryd.func9, Tryd.ntmps9
  go_wp2
  go_ret
  exact ⟨rfl, rfl⟩
set_option maxHeartbeats 1000000 in
theorem out_nil (x : Int) : Ans 7 #[.pointer none, .int .i64 x] w (.slice none 0 0) := by
  have HN : Hid (Ans 15 #[.pointer none, .int .i64 x] w (.bool false)) := alive_nil x
  unfold Ans at *
  go_enter Tryd.func7, Tryd.ntmps7
  go_wp2_with fail
  refine HN.out.mono ?_
  rintro e w1 ⟨rfl, hw1⟩
  subst hw1
  go_wp2
  go_ret
  exact ⟨rfl, rfl⟩
set_option maxHeartbeats 1000000 in
theorem in_nil (x : Int) : Ans 8 #[.pointer none, .int .i64 x] w (.slice none 0 0) := by
  have HN : Hid (Ans 15 #[.pointer none, .int .i64 x] w (.bool false)) := alive_nil x
  unfold Ans at *
  go_enter Tryd.func8, Tryd.ntmps8
  go_wp2_with fail
  refine HN.out.mono ?_
  rintro e w1 ⟨rfl, hw1⟩
  subst hw1
  go_wp2
  go_ret
  exact ⟨rfl, rfl⟩
set_option maxHeartbeats 2000000 in
theorem weight_nil (x y : Int) : Ans 14 #[.pointer none, .int .i64 x, .int .i64 y] w (.tuple #[.int .u64 0, .bool false]) := by
  have HN : Hid (Ans 15 #[.pointer none, .int .i64 x] w (.bool false)) := alive_nil x
  unfold Ans at *
  go_enter Tryd.func14, Tryd.ntmps14
  go_wp2_with fail
  refine HN.out.mono ?_
  rintro e w1 ⟨rfl, hw1⟩
  subst hw1
  go_wp2
  go_ret2
  exact ⟨rfl, rfl⟩
set_option maxRecDepth 100000 in
set_option maxHeartbeats 2000000 in
theorem checkPut_nil (x y wt via : Int) : Ans 22 #[.pointer none, .int .i64 x, .int .i64 y, .int .u64 wt, .int .i64 via] w (.iface 49 (.int .i64 19)) := by
  unfold Ans
  go_enter Tryd.func22, Tryd.ntmps22
  go_wp2
  go_ret
  exact ⟨rfl, rfl⟩
set_option maxRecDepth 100000 in
set_option maxHeartbeats 2000000 in
theorem put_nil (x y wt via : Int) : Ans 11 #[.pointer none, .int .i64 x, .int .i64 y, .int .u64 wt, .int .i64 via] w (.tuple #[.bool false, .iface 49 (.int .i64 19)]) := by
  have HN : Hid (Ans 22 #[.pointer none, .int .i64 x, .int .i64 y, .int .u64 wt, .int .i64 via] w (.iface 49 (.int .i64 19))) := checkPut_nil x y wt via
  unfold Ans at *
  go_enter Tryd.func11, Tryd.ntmps11
  go_wp2_with fail
  refine HN.out.mono ?_
  rintro e w1 ⟨rfl, hw1⟩
  subst hw1
  go_wp2
  go_ret2
  exact ⟨rfl, rfl⟩
set_option maxRecDepth 100000 in
set_option maxHeartbeats 2000000 in
theorem remove_nil (x : Int) : Ans 10 #[.pointer none, .int .i64 x] w (.iface 49 (.int .i64 19)) := by
  unfold Ans
  go_enter Tryd.func10, Tryd.ntmps10
  go_wp2
  go_ret
  exact ⟨rfl, rfl⟩
end
end Go.Proofs.YtgfhmciolmgogaaDoor
