/- an overlay that is nil. an overlay's New refused, and a bare error seen. -/
import Derived.Test.YtcfpkbmeblfhoaaGreatDoorQcX
import Derived.Test.YtcfpkbmeblfhoaaGreatDoorQfX
import Derived.Test.YtcfpkbmeblfhoaaGreatDoorSeen
import Derived.Test.YtcfpkbmeblfhoaaGreatDoorDocCheck
import Derived.Test.YtcfpkbmeblfhoaaGreatDoorQnX
namespace Go.Proofs.YtcfpkbmeblfhoaaGreatDoor
open Go.RowKit Go.Extern Go.Sort

attribute [local go_sem] Oper.semAt_some

section
variable {w : World}
set_option maxHeartbeats 1000000 in
theorem isNode_nil (x : Int) : Ans 75 #[.pointer none, .int .i64 x] w (.bool false) := by
  unfold Ans
  go_enter Tryz.func75, Tryz.ntmps75
  go_wp2
  go_ret
  exact ⟨rfl, rfl⟩
set_option maxHeartbeats 1000000 in
theorem alive_nil (x : Int) : Ans 45 #[.pointer none, .int .i64 x] w (.bool false) := by
  have HN : Hid (Ans 75 #[.pointer none, .int .i64 x] w (.bool false)) := isNode_nil x
  unfold Ans at *
  go_enter Tryz.func45, Tryz.ntmps45
  go_wp2_with fail
  refine HN.out.mono ?_
  rintro e w1 ⟨rfl, hw1⟩
  subst hw1
  go_wp2
  go_ret
  exact ⟨rfl, rfl⟩
set_option maxHeartbeats 1000000 in
theorem len_nil : Ans 12 #[.pointer none] w (.int .i64 0) := by
  unfold Ans
  go_enter Tryz.func12, Tryz.ntmps12
  go_wp2
  go_ret
  exact ⟨rfl, rfl⟩
set_option maxHeartbeats 1000000 in
theorem arcs_nil : Ans 14 #[.pointer none] w (.int .i64 0) := by
  unfold Ans
  go_enter Tryz.func14, Tryz.ntmps14
  go_wp2
  go_ret
  exact ⟨rfl, rfl⟩
set_option maxHeartbeats 1000000 in
theorem out_nil (x : Int) : Ans 83 #[.pointer none, .int .i64 x] w (.slice none 0 0) := by
  have HN : Hid (Ans 45 #[.pointer none, .int .i64 x] w (.bool false)) := alive_nil x
  unfold Ans at *
  go_enter Tryz.func83, Tryz.ntmps83
  go_wp2_with fail
  refine HN.out.mono ?_
  rintro e w1 ⟨rfl, hw1⟩
  subst hw1
  go_wp2
  go_ret
  exact ⟨rfl, rfl⟩
set_option maxHeartbeats 2000000 in
theorem weight_nil (x y : Int) : Ans 43 #[.pointer none, .int .i64 x, .int .i64 y] w (.tuple #[.int .u64 0, .bool false]) := by
  have HN : Hid (Ans 45 #[.pointer none, .int .i64 x] w (.bool false)) := alive_nil x
  unfold Ans at *
  go_enter Tryz.func43, Tryz.ntmps43
  go_wp2_with fail
  refine HN.out.mono ?_
  rintro e w1 ⟨rfl, hw1⟩
  subst hw1
  go_wp2
  go_ret2
  exact ⟨rfl, rfl⟩
set_option maxRecDepth 100000 in
set_option maxHeartbeats 2000000 in
theorem checkPut_nil (x y wt via : Int) : Ans 42 #[.pointer none, .int .i64 x, .int .i64 y, .int .u64 wt, .int .i64 via] w (.iface 60 (.int .i64 19)) := by
  unfold Ans
  go_enter Tryz.func42, Tryz.ntmps42
  go_wp2
  go_ret
  exact ⟨rfl, rfl⟩
set_option maxRecDepth 100000 in
set_option maxHeartbeats 2000000 in
theorem put_nil (x y wt via : Int) : Ans 22 #[.pointer none, .int .i64 x, .int .i64 y, .int .u64 wt, .int .i64 via] w (.tuple #[.bool false, .iface 60 (.int .i64 19)]) := by
  have HN : Hid (Ans 42 #[.pointer none, .int .i64 x, .int .i64 y, .int .u64 wt, .int .i64 via] w (.iface 60 (.int .i64 19))) := checkPut_nil x y wt via
  unfold Ans at *
  go_enter Tryz.func22, Tryz.ntmps22
  go_wp2_with fail
  refine HN.out.mono ?_
  rintro e w1 ⟨rfl, hw1⟩
  subst hw1
  go_wp2
  go_ret2
  exact ⟨rfl, rfl⟩
set_option maxRecDepth 100000 in
set_option maxHeartbeats 2000000 in
theorem remove_nil (x : Int) : Ans 26 #[.pointer none, .int .i64 x] w (.iface 60 (.int .i64 19)) := by
  unfold Ans
  go_enter Tryz.func26, Tryz.ntmps26
  go_wp2
  go_ret
  exact ⟨rfl, rfl⟩
end
end Go.Proofs.YtcfpkbmeblfhoaaGreatDoor

namespace Go.Proofs.YtcfpkbmeblfhoaaGreatDoor
open Go.RowKit Go.Extern Go.Sort

attribute [local go_sem] Oper.semAt_some

theorem told_bare (w : World) {c : Int} (hc : c ≠ 0) : IsTold w (c, []) (.iface 60 (.int .i64 c)) := Or.inr ⟨hc, rfl⟩
theorem places_none (w : World) : HasPlaces w (.slice none 0 0) [] := ⟨none, 0, rfl, fun j p hj => by simp at hj⟩
theorem seen_bare (c : Int) (hc : c ≠ 0) (w : World) (hg : HasType w) : Calls Tryz.prog 11 #[.iface 60 (.int .i64 c), .agg #[.int .i64 c, .slice none 0 0]] w fun r w' => r = .returned (.bool true) ∧ Below w.heap.size w w' := seen_told (c, []) _ none 0 w (told_bare w hc) (places_none w) (by simp) hg
theorem told_iff {w : World} {E : Int × List (Int × Int)} {v : Value} (h : IsTold w E v) (hE : E ≠ (0, [])) : ∃ T x, v = .iface T x := by
  rcases h with ⟨h, _⟩ | ⟨_, h⟩
  · exact absurd h hE
  · obtain ⟨c, ps⟩ := E
    cases ps with
    | nil => exact ⟨_, _, h⟩
    | cons p ps =>
      obtain ⟨b, u, h, _⟩ := h
      exact ⟨_, _, h⟩
set_option maxRecDepth 100000 in
set_option maxHeartbeats 4000000 in
theorem onew_bad (N : Int) (ao : Option Addr) (cap : Nat) (xs : List (Int × Int × Int)) (w : World) (hl : HasArcs w (.slice ao xs.length cap) xs) (hm : xs.length ≤ maxLen) (hg : graphErr N xs ≠ (0, [])) :
    Calls Tryz.prog 15 #[.agg #[.int .i64 N, .slice ao xs.length cap]] w fun e w' => ∃ v, e = .returned (.tuple #[.pointer none, v]) ∧ IsTold w' (graphErr N xs) v ∧ Below w.heap.size w w' := by
  obtain ⟨W0, hW0⟩ : ∃ W0, w.alloc (.cells #[.int .i64 N, .slice ao xs.length cap] 24) = W0 := ⟨_, rfl⟩
  have HW0 : Hid (w.alloc (.cells #[.int .i64 N, .slice ao xs.length cap] 24) = W0) := hW0
  have hB0 : Below w.heap.size w W0 := by rw [← hW0]; exact (Below.refl _ w).alloc (Nat.le_refl _) _
  have k1 : W0.heap[w.heap.size]? = some (.cells #[.int .i64 N, .slice ao xs.length cap] 24) := by rw [← hW0]; exact heap_new _ _
  have HOF : Hid (Calls Tryz.prog 36 #[.agg #[.int .i64 N, .slice ao xs.length cap]] W0 fun e w' => ∃ lo lc T x, e = .returned (.tuple #[.agg #[.int .i64 0, .slice lo 0 lc], .iface T x]) ∧ IsTold w' (graphErr N xs) (.iface T x) ∧ Below W0.heap.size W0 w') := by
    refine (of_all N ao cap xs W0 (hl.keep hB0) hm).mono ?_
    rintro e w' ⟨M, lo, k, lc, v, ys, rfl, hA, _, hT, h | h, hB⟩
    · exact absurd h.1 hg
    · obtain ⟨_, rfl, rfl⟩ := h
      obtain rfl : k = 0 := arcs_len hA
      obtain ⟨T, x, rfl⟩ := told_iff hT hg
      exact ⟨lo, lc, T, x, rfl, hT, hB⟩
  have HB0 : Hid (Below w.heap.size w W0) := hB0
  obtain ⟨c0, c1⟩ : W0.cell? ⟨w.heap.size, 0, none⟩ = some (.int .i64 N) ∧ W0.cell? ⟨w.heap.size, 1, none⟩ = some (.slice ao xs.length cap) := by simp [World.cell?, k1]
  generalize graphErr N xs = E at *
  generalize xs.length = k0 at *
  clear hl hg hW0 hB0 k1 hm
  go_enter Tryz.func15, Tryz.ntmps15
  go_wp2_with fail
  rw [HW0.out]
  refine HOF.out.mono ?_
  rintro e w1 ⟨lo, lc, T, x, rfl, hT1, hb1⟩
  have HB1 : Hid (Below w.heap.size w w1) := HB0.out.trans (hb1.mono HB0.out.size)
  have HT1 : Hid (IsTold w1 E (.iface T x)) := hT1
  clear hT1 hb1 c0 c1
  go_wp2
  go_ret2
  have hbA : Below w1.heap.size w1 (w1.alloc (.cells #[.int .i64 0, .slice lo 0 lc] 24)) := (Below.refl _ w1).alloc (Nat.le_refl _) _
  exact ⟨_, rfl, HT1.out.keep (Below.keeps hbA), HB1.out.trans (hbA.mono HB1.out.size)⟩
section
variable {PX : Nat → Option Obj} {w w' : World} {B0 pb n : Nat} {bs : List Bool} {R : Bool → Nat → Rw} {nodes arcs : Int}
theorem IsOv.putNo (h : IsOv PX B0 w pb n bs R nodes arcs) (x y wt via c : Int) (hc : putErr n bs x y wt via = c) (h0 : c ≠ 0) : Ans 22 #[.pointer (some ⟨pb, 0, none⟩), .int .i64 x, .int .i64 y, .int .u64 wt, .int .i64 via] w (.tuple #[.bool false, .iface 60 (.int .i64 c)]) := by
  obtain ⟨B, ab, sb, _, h1, h2⟩ := h
  subst hc
  exact oPutErr h1 x y wt via h0
theorem IsOv.removeNo (h : IsOv PX B0 w pb n bs R nodes arcs) (x : Int) (hx : aliveB n bs x = false) : Ans 26 #[.pointer (some ⟨pb, 0, none⟩), .int .i64 x] w (.iface 60 (.int .i64 7)) := by
  obtain ⟨B, ab, sb, _, h1, h2⟩ := h
  exact remove_err h1 x hx
end
end Go.Proofs.YtcfpkbmeblfhoaaGreatDoor
