/- ref01.AlikePlaces: are two lists of places one? It only reads. -/
import Derived.Test.YtkmbffdjgpjojabDoorChain
import Derived.Deep.QuietTactic
import Derived.BigQuiet
namespace Go.Proofs.YtkmbffdjgpjojabDoor
open Go.RowKit Go.Extern

/-- the first k places are one. -/
def sameTo (ps qs : List (Int × Int)) (k : Nat) : Prop := ∀ j, j < k → ps[j]? = qs[j]?
theorem same_all {ps qs : List (Int × Int)} (hl : ps.length = qs.length) (h : sameTo ps qs ps.length) : ps = qs := by
  apply List.ext_getElem? 
  intro j
  by_cases hj : j < ps.length
  · exact h j hj
  · rw [List.getElem?_eq_none (by omega), List.getElem?_eq_none (by omega)]

set_option maxRecDepth 100000 in
set_option maxHeartbeats 1000000 in
theorem alike_yes (av bv : Value) (ps : List (Int × Int)) (w : World) (ha : HasPlaces w av ps) (hb : HasPlaces w bv ps) (hm : ps.length ≤ maxLen) :
    Calls Tryd.prog 17 #[av, bv] w fun e w' => e = .returned (.bool true) ∧ Below w.heap.size w w' := by
  unfold maxLen at hm
  obtain ⟨ao, cap, hlv⟩ : ∃ ao cap, av = .slice ao ps.length cap := by
    obtain ⟨ao, cap, e, _⟩ := ha
    exact ⟨ao, cap, e⟩
  obtain ⟨bo, cbp, hlb⟩ : ∃ bo cap, bv = .slice bo ps.length cap := by
    obtain ⟨ao, cap, e, _⟩ := hb
    exact ⟨ao, cap, e⟩
  subst hlv
  subst hlb
  have HA : Hid (HasPlaces w (.slice ao ps.length cap) ps) := ha
  have HB : Hid (HasPlaces w (.slice bo ps.length cbp) ps) := hb
  clear ha hb
  go_enter Tryd.func17, Tryd.ntmps17
  go_wp2_with fail
  go_loopw [13] (fun iv wr => ∃ k : Nat, k ≤ ps.length ∧ iv = .int .i64 k ∧ Below w.heap.size w wr) (fun iv _ => ps.length - (intOf iv).toNat)
  case atStart => exact ⟨0, Nat.zero_le _, rfl, Below.refl _ _⟩
  case round =>
    obtain ⟨k, hk, rfl, hbw⟩ := hrel
    by_cases hlt : k < ps.length
    · obtain ⟨p, hp⟩ : ∃ p, ps[k]? = some p := ⟨ps[k], List.getElem?_eq_getElem hlt⟩
      obtain ⟨b, off, hao, hl1, q0, q1⟩ : ∃ b off, ao = some ⟨b, off, none⟩ ∧ b < w.heap.size ∧ w.cell? ⟨b, off + k * 2, none⟩ = some (.int .i64 p.1) ∧ w.cell? ⟨b, off + k * 2 + 1, none⟩ = some (.int .i64 p.2) := by
        obtain ⟨ao', cap', e, hc⟩ := HA.out
        cases e
        exact hc k p hp
      obtain ⟨b', off', hbo, hl2, q2, q3⟩ : ∃ b off, bo = some ⟨b, off, none⟩ ∧ b < w.heap.size ∧ w.cell? ⟨b, off + k * 2, none⟩ = some (.int .i64 p.1) ∧ w.cell? ⟨b, off + k * 2 + 1, none⟩ = some (.int .i64 p.2) := by
        obtain ⟨ao', cap', e, hc⟩ := HB.out
        cases e
        exact hc k p hp
      subst hao
      subst hbo
      have a0 := (hbw.cell (p := ⟨b, off + k * 2, none⟩) hl1).trans q0
      have a1 := (hbw.cell (p := ⟨b, off + k * 2 + 1, none⟩) hl1).trans q1
      have b0 := (hbw.cell (p := ⟨b', off' + k * 2, none⟩) hl2).trans q2
      have b1 := (hbw.cell (p := ⟨b', off' + k * 2 + 1, none⟩) hl2).trans q3
      have HBW : Hid (Below w.heap.size w wr) := hbw
      clear q0 q1 q2 q3 hp hbw
      go_wp2
      go_quiet (fail)
      go_wp2
      go_roundw
      case rel => exact ⟨k + 1, by omega, by go_num, ⟨HBW.out.os, HBW.out.tape, HBW.out.output, HBW.out.size, HBW.out.block⟩⟩
      case measure => simp [intOf]; omega
    · go_wp2
      go_ret
      exact ⟨rfl, hbw⟩
end Go.Proofs.YtkmbffdjgpjojabDoor
