/- viaductref03's SameArcs and Same at lists and graphs that are one: they say so. -/
import Derived.Test.YtlhblkahnenjcaaDoorHrO
import Derived.Deep.QuietTactic
import Derived.BigQuiet
namespace Go.Proofs.YtlhblkahnenjcaaDoor.Hi
open Go.RowKit Go.Extern

attribute [local go_sem] Oper.semAt_some

set_option maxRecDepth 100000 in
set_option maxHeartbeats 1000000 in
theorem sameArcs_yes (av bv : Value) (xs : List (Int × Int × Int)) (w : World) (ha : HasArcs w av xs) (hb : HasArcs w bv xs) (hm : xs.length ≤ maxLen) :
    Calls Tryd.prog 38 #[av, bv] w fun e w' => e = .returned (.bool true) ∧ Below w.heap.size w w' := by
  unfold maxLen at hm
  obtain ⟨ao, cap, hlv⟩ : ∃ ao cap, av = .slice ao xs.length cap := by
    obtain ⟨ao, cap, e, _⟩ := ha
    exact ⟨ao, cap, e⟩
  obtain ⟨bo, cbp, hlb⟩ : ∃ bo cap, bv = .slice bo xs.length cap := by
    obtain ⟨ao, cap, e, _⟩ := hb
    exact ⟨ao, cap, e⟩
  subst hlv
  subst hlb
  have HA : Hid (HasArcs w (.slice ao xs.length cap) xs) := ha
  have HB : Hid (HasArcs w (.slice bo xs.length cbp) xs) := hb
  clear ha hb
  go_enter Tryd.func38, Tryd.ntmps38
  go_wp2_with fail
  go_loopw [13] (fun iv wr => ∃ k : Nat, k ≤ xs.length ∧ iv = .int .i64 k ∧ Below w.heap.size w wr) (fun iv _ => xs.length - (intOf iv).toNat)
  case atStart => exact ⟨0, Nat.zero_le _, rfl, Below.refl _ _⟩
  case round =>
    obtain ⟨k, hk, rfl, hbw⟩ := hrel
    by_cases hlt : k < xs.length
    · obtain ⟨p, hp⟩ : ∃ p, xs[k]? = some p := ⟨xs[k], List.getElem?_eq_getElem hlt⟩
      obtain ⟨b, off, hao, hl1, q0, q1, q2⟩ := HA.out.at hp
      obtain ⟨b', off', hbo, hl2, r0, r1, r2⟩ := HB.out.at hp
      subst hao
      subst hbo
      have a0 := (hbw.cell (p := ⟨b, off + k * 3, none⟩) hl1).trans q0
      have a1 := (hbw.cell (p := ⟨b, off + k * 3 + 1, none⟩) hl1).trans q1
      have a2 := (hbw.cell (p := ⟨b, off + k * 3 + 2, none⟩) hl1).trans q2
      have b0 := (hbw.cell (p := ⟨b', off' + k * 3, none⟩) hl2).trans r0
      have b1 := (hbw.cell (p := ⟨b', off' + k * 3 + 1, none⟩) hl2).trans r1
      have b2 := (hbw.cell (p := ⟨b', off' + k * 3 + 2, none⟩) hl2).trans r2
      have HBW : Hid (Below w.heap.size w wr) := hbw
      clear q0 q1 q2 r0 r1 r2 hp hbw
      go_wp2
      go_quiet (fail)
      go_wp2
      go_roundw
      case rel => exact ⟨k + 1, by omega, by go_num, ⟨HBW.out.os, HBW.out.tape, HBW.out.output, HBW.out.size, HBW.out.block⟩⟩
      case measure => simp [intOf]; omega
    · go_wp2
      go_ret
      exact ⟨rfl, hbw⟩

set_option maxRecDepth 100000 in
set_option maxHeartbeats 1000000 in
theorem gsame_yes (N : Int) (ao bo : Option Addr) (ac bc : Nat) (xs : List (Int × Int × Int)) (w : World) (ha : HasArcs w (.slice ao xs.length ac) xs) (hb : HasArcs w (.slice bo xs.length bc) xs) (hm : xs.length ≤ maxLen) :
    Calls Tryd.prog 17 #[.agg #[.int .i64 N, .slice ao xs.length ac], .agg #[.int .i64 N, .slice bo xs.length bc]] w fun e w' => e = .returned (.bool true) ∧ Below w.heap.size w w' := by
  obtain ⟨z, hz⟩ : ∃ z, w.heap.size = z := ⟨_, rfl⟩
  obtain ⟨W0, hW0⟩ : ∃ W0, (w.alloc (.cells #[.int .i64 N, .slice ao xs.length ac] 55)).alloc (.cells #[.int .i64 N, .slice bo xs.length bc] 55) = W0 := ⟨_, rfl⟩
  have hB0 : Below w.heap.size w W0 := by rw [← hW0]; exact ((Below.refl _ w).alloc (Nat.le_refl _) _).alloc (by simp) _
  have h0 : W0.heap[z]? = some (.cells #[.int .i64 N, .slice ao xs.length ac] 55) := by
    rw [← hW0, ← hz]; exact (Below.heap_alloc _ _ _ (by simp)).trans (heap_newW _ _)
  have h1 : W0.heap[z + 1]? = some (.cells #[.int .i64 N, .slice bo xs.length bc] 55) := by
    have g := heap_newW (w.alloc (.cells #[.int .i64 N, .slice ao xs.length ac] 55)) (.cells #[.int .i64 N, .slice bo xs.length bc] 55)
    rw [World.size_alloc, hW0, hz] at g
    exact g
  have c0 : W0.cell? ⟨z, 0, none⟩ = some (.int .i64 N) := by simp [World.cell?, h0]
  have c1 : W0.cell? ⟨z, 1, none⟩ = some (.slice ao xs.length ac) := by simp [World.cell?, h0]
  have d0 : W0.cell? ⟨z + 1, 0, none⟩ = some (.int .i64 N) := by simp [World.cell?, h1]
  have d1 : W0.cell? ⟨z + 1, 1, none⟩ = some (.slice bo xs.length bc) := by simp [World.cell?, h1]
  have HS : Hid (Calls Tryd.prog 38 #[.slice ao xs.length ac, .slice bo xs.length bc] W0 fun e w' => e = .returned (.bool true) ∧ Below W0.heap.size W0 w') := sameArcs_yes _ _ xs W0 (ha.keep hB0) (hb.keep hB0) hm
  have HB : Hid (Below w.heap.size w W0) := hB0
  have HW0 : Hid ((w.alloc (.cells #[.int .i64 N, .slice ao xs.length ac] 55)).alloc (.cells #[.int .i64 N, .slice bo xs.length bc] 55) = W0) := hW0
  clear hB0 hW0 h0 h1 ha hb
  go_enter Tryd.func17, Tryd.ntmps17
  go_upto_region 1 with fail
  rw [HW0.out]
  go_wp2_with (go_at_call 38; refine HS.out.mono ?_; rintro e w1 ⟨rfl, hb1⟩)
  go_ret
  exact ⟨rfl, HB.out.trans (hb1.mono HB.out.size)⟩
end Go.Proofs.YtlhblkahnenjcaaDoor.Hi
