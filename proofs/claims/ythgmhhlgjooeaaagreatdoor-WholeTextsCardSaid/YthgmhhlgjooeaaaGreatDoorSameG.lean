/- viaductref03's SameArcs and Same at lists and graphs that are one: they say so. -/
import Derived.Test.YthgmhhlgjooeaaaGreatDoorCheck
import Derived.Deep.QuietTactic
import Derived.BigQuiet
namespace Go.Proofs.YthgmhhlgjooeaaaGreatDoor
open Go.RowKit Go.Extern

attribute [local go_sem] Oper.semAt_some

set_option maxRecDepth 100000 in
set_option maxHeartbeats 1000000 in
theorem sameArcs_yes (av bv : Value) (xs : List (Int × Int × Int)) (w : World) (ha : HasArcs w av xs) (hb : HasArcs w bv xs) (hm : xs.length ≤ maxLen) :
    Calls Tryz.prog 34 #[av, bv] w fun e w' => e = .returned (.bool true) ∧ Below w.heap.size w w' := by
  unfold maxLen at hm
  obtain ⟨ao, cap, hlv⟩ : ∃ ao cap, av = .slice ao xs.length cap := by
    obtain ⟨ao, cap, e, _⟩ := ha
    exact ⟨ao, cap, e⟩
  obtain ⟨bo, cbp, hlb⟩ : ∃ bo cap, bv = .slice bo xs.length cap := by
    obtain ⟨ao, cap, e, _⟩ := hb
    exact ⟨ao, cap, e⟩
  subst hlv
  subst hlb
  have HA : Hid (HasArcs w (.slice ao xs.length cap) xs) := ha
  have HB : Hid (HasArcs w (.slice bo xs.length cbp) xs) := hb
  clear ha hb
  go_enter Tryz.func34, Tryz.ntmps34
  go_wp2_with fail
  go_loopw [13] (fun iv wr => ∃ k : Nat, k ≤ xs.length ∧ iv = .int .i64 k ∧ Below w.heap.size w wr) (fun iv _ => xs.length - (intOf iv).toNat)
  case atStart => exact ⟨0, Nat.zero_le _, rfl, Below.refl _ _⟩
  case round =>
    obtain ⟨k, hk, rfl, hbw⟩ := hrel
    by_cases hlt : k < xs.length
    · obtain ⟨p, hp⟩ : ∃ p, xs[k]? = some p := ⟨xs[k], List.getElem?_eq_getElem hlt⟩
      obtain ⟨b, off, hao, hl1, q0, q1, q2⟩ := HA.out.at hp
      obtain ⟨b', off', hbo, hl2, r0, r1, r2⟩ := HB.out.at hp
      subst hao
      subst hbo
      have a0 := (hbw.cell (p := ⟨b, off + k * 3, none⟩) hl1).trans q0
      have a1 := (hbw.cell (p := ⟨b, off + k * 3 + 1, none⟩) hl1).trans q1
      have a2 := (hbw.cell (p := ⟨b, off + k * 3 + 2, none⟩) hl1).trans q2
      have b0 := (hbw.cell (p := ⟨b', off' + k * 3, none⟩) hl2).trans r0
      have b1 := (hbw.cell (p := ⟨b', off' + k * 3 + 1, none⟩) hl2).trans r1
      have b2 := (hbw.cell (p := ⟨b', off' + k * 3 + 2, none⟩) hl2).trans r2
      have HBW : Hid (Below w.heap.size w wr) := hbw
      clear q0 q1 q2 r0 r1 r2 hp hbw
      go_wp2
      go_quiet (fail)
      go_wp2
      go_roundw
      case rel => exact ⟨k + 1, by omega, by go_num, ⟨HBW.out.os, HBW.out.tape, HBW.out.output, HBW.out.size, HBW.out.block⟩⟩
      case measure => simp [intOf]; omega
    · go_wp2
      go_ret
      exact ⟨rfl, hbw⟩

set_option maxHeartbeats 1000000 in
theorem same_yes (N : Int) (ao bo : Option Addr) (al bl ac bc : Nat) (xs : List (Int × Int × Int)) (w : World) (ha : HasArcs w (.slice ao al ac) xs) (hb : HasArcs w (.slice bo bl bc) xs) (hm : xs.length ≤ maxLen) :
    Calls Tryz.prog 9 #[.agg #[.int .i64 N, .slice ao al ac], .agg #[.int .i64 N, .slice bo bl bc]] w fun e w' => e = .returned (.bool true) ∧ Below w.heap.size w w' := by
  have HB0 : Hid (Below w.heap.size w ((w.alloc (.cells #[.int .i64 N, .slice ao al ac] 24)).alloc (.cells #[.int .i64 N, .slice bo bl bc] 24))) := ((Below.refl _ w).alloc (Nat.le_refl _) _).alloc (by simp) _
  have HS : Hid (∀ wx, Below w.heap.size w wx → Calls Tryz.prog 34 #[.slice ao al ac, .slice bo bl bc] wx fun e w' => e = .returned (.bool true) ∧ Below wx.heap.size wx w') := fun wx h => sameArcs_yes _ _ xs wx (ha.keep h) (hb.keep h) hm
  clear ha hb
  have hN : (N == N) = true := by simp
  go_enter Tryz.func9, Tryz.ntmps9
  go_wp2_with fail
  refine (HS.out _ HB0.out).mono ?_
  rintro e w1 ⟨rfl, hb1⟩
  have HB1 : Hid (Below w.heap.size w w1) := HB0.out.trans (hb1.mono HB0.out.size)
  clear hb1
  go_wp2
  go_ret
  exact ⟨rfl, HB1.out⟩
end Go.Proofs.YthgmhhlgjooeaaaGreatDoor
