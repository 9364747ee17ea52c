/- the law's compare of halves; the overlay that it wakes with. -/
import Derived.Test.YtgfhmciolmgogaaDoorOwD
import Derived.BigQuiet
namespace Go.Proofs.YtgfhmciolmgogaaDoor
open Go.RowKit Go.Extern Go.Sort

attribute [local go_sem] Oper.semAt_some

set_option maxRecDepth 100000 in
set_option maxHeartbeats 2000000 in
theorem same11_yes (ao bo : Option Addr) (ac bc : Nat) (l : List H3) (w : World) (ha : HasHs w (.slice ao l.length ac) l) (hb : HasHs w (.slice bo l.length bc) l) (hl : l.length ≤ 262144) :
    Calls Tryd.prog 6 #[.slice ao l.length ac, .slice bo l.length bc] w fun e w' => e = .returned (.bool true) ∧ Below w.heap.size w w' := by
  have HA : Hid (HasHs w (.slice ao l.length ac) l ∧ HasHs w (.slice bo l.length bc) l) := ⟨ha, hb⟩
  clear ha hb
  go_enter Tryd.func6, Tryd.ntmps6
  go_wp2_with fail
  go_loopw [13] (fun iv wr => ∃ k : Nat, k ≤ l.length ∧ iv = .int .i64 (k : Nat) ∧ Below w.heap.size w wr) (fun iv _ => l.length - (intOf iv).toNat)
  case atStart => exact ⟨0, Nat.zero_le _, rfl, Below.refl _ _⟩
  case round =>
    obtain ⟨k, hk, rfl, hB⟩ := hrel
    have HB : Hid (Below w.heap.size w wr) := hB
    clear hB
    by_cases hlt : k < l.length
    · obtain ⟨a, hal⟩ : ∃ a, l[k]? = some a := ⟨l[k], List.getElem?_eq_getElem hlt⟩
      obtain ⟨b1, o1, rfl, l1, c0, c1, c2⟩ := (HA.out.1.keep HB.out).at hal
      obtain ⟨b2, o2, rfl, l2, d0, d1, d2⟩ := (HA.out.2.keep HB.out).at hal
      have i1 : (k : Int) < (l.length : Int) := by omega
      have i2 : (0 : Int) ≤ (k : Int) := by omega
      clear hal
      go_wp2_with fail
      go_quiet (fail)
      go_wp2
      go_roundw
      case rel => exact ⟨k + 1, by omega, by go_num, HB.out.os, HB.out.tape, HB.out.output, HB.out.size, HB.out.block⟩
      case measure => simp [intOf]; omega
    · obtain rfl : k = l.length := by omega
      go_wp2
      go_ret
      exact ⟨rfl, HB.out⟩
end Go.Proofs.YtgfhmciolmgogaaDoor
