/- lists of whole numbers in memory; viaductref02's SameInts at lists that are one: it says so. -/
import Derived.Test.YtodilocmfdeehaaGreatDoorCheck
namespace Go.Proofs.YtodilocmfdeehaaGreatDoor
open Go.RowKit Go.Extern

attribute [local go_sem] Oper.semAt_some

def HasInts (w : World) (lv : Value) (xs : List Int) : Prop :=
  ∃ ao cap, lv = .slice ao xs.length cap ∧ ∀ j a, xs[j]? = some a → ∃ b off, ao = some ⟨b, off, none⟩ ∧ b < w.heap.size ∧ w.cell? ⟨b, off + j, none⟩ = some (.int .i64 a)
theorem HasInts.keep {w w' : World} {lv : Value} {xs : List Int} (h : HasInts w lv xs) (hb : Below w.heap.size w w') : HasInts w' lv xs := by
  obtain ⟨ao, cap, e, hc⟩ := h
  refine ⟨ao, cap, e, fun j a hj => ?_⟩
  obtain ⟨b, off, ea, hl, h0⟩ := hc j a hj
  exact ⟨b, off, ea, Nat.lt_of_lt_of_le hl hb.size, (hb.cell (p := ⟨b, _, none⟩) hl).trans h0⟩
theorem HasInts.at {w : World} {ao : Option Addr} {n cap : Nat} {xs : List Int} (h : HasInts w (.slice ao n cap) xs) {k : Nat} {a : Int} (hp : xs[k]? = some a) :
    ∃ b off, ao = some ⟨b, off, none⟩ ∧ b < w.heap.size ∧ w.cell? ⟨b, off + k, none⟩ = some (.int .i64 a) := by
  obtain ⟨ao', cap', e, hc⟩ := h
  injection e with e1 e2 e3
  subst e1
  exact hc k a hp

set_option maxRecDepth 100000 in
set_option maxHeartbeats 1000000 in
theorem sameInts_yes (av bv : Value) (xs : List Int) (w : World) (ha : HasInts w av xs) (hb : HasInts w bv xs) (hm : xs.length ≤ maxLen) :
    Calls Tryz.prog 12 #[av, bv] w fun e w' => e = .returned (.bool true) ∧ Below w.heap.size w w' := by
  unfold maxLen at hm
  obtain ⟨ao, cap, hlv⟩ : ∃ ao cap, av = .slice ao xs.length cap := by
    obtain ⟨ao, cap, e, _⟩ := ha
    exact ⟨ao, cap, e⟩
  obtain ⟨bo, cbp, hlb⟩ : ∃ bo cap, bv = .slice bo xs.length cap := by
    obtain ⟨ao, cap, e, _⟩ := hb
    exact ⟨ao, cap, e⟩
  subst hlv
  subst hlb
  have HA : Hid (HasInts w (.slice ao xs.length cap) xs) := ha
  have HB : Hid (HasInts w (.slice bo xs.length cbp) xs) := hb
  clear ha hb
  go_enter Tryz.func12, Tryz.ntmps12
  go_wp2_with fail
  go_loopw [13] (fun iv wr => ∃ k : Nat, k ≤ xs.length ∧ iv = .int .i64 k ∧ Below w.heap.size w wr) (fun iv _ => xs.length - (intOf iv).toNat)
  case atStart => exact ⟨0, Nat.zero_le _, rfl, Below.refl _ _⟩
  case round =>
    obtain ⟨k, hk, rfl, hbw⟩ := hrel
    by_cases hlt : k < xs.length
    · obtain ⟨p, hp⟩ : ∃ p, xs[k]? = some p := ⟨xs[k], List.getElem?_eq_getElem hlt⟩
      obtain ⟨b, off, hao, hl1, q0⟩ := HA.out.at hp
      obtain ⟨b', off', hbo, hl2, r0⟩ := HB.out.at hp
      subst hao
      subst hbo
      have a0 := (hbw.cell (p := ⟨b, off + k, none⟩) hl1).trans q0
      have b0 := (hbw.cell (p := ⟨b', off' + k, none⟩) hl2).trans r0
      have HBW : Hid (Below w.heap.size w wr) := hbw
      clear q0 r0 hp hbw
      go_wp2
      go_quiet (fail)
      go_wp2
      go_roundw
      case rel => exact ⟨k + 1, by omega, by go_num, ⟨HBW.out.os, HBW.out.tape, HBW.out.output, HBW.out.size, HBW.out.block⟩⟩
      case measure => simp [intOf]; omega
    · go_wp2
      go_ret
      exact ⟨rfl, hbw⟩
end Go.Proofs.YtodilocmfdeehaaGreatDoor
