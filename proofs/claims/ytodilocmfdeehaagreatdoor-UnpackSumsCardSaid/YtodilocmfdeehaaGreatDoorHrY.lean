/- slices.Equal at words and links, and the reference's SameWords and SameLinks: whatever the two lists. (geneq.py) -/
import Derived.Test.YtodilocmfdeehaaGreatDoorHrG
import Derived.Deep.QuietTactic
import Derived.BigQuiet
namespace Go.Proofs.YtodilocmfdeehaaGreatDoor.Hi
open Go.RowKit Go.Extern

attribute [local go_sem] Oper.semAt_some

/-- the first place where two lists differ. -/
theorem differ_at {α : Type} [DecidableEq α] : ∀ {xs ys : List α}, xs.length = ys.length → xs ≠ ys → ∃ (m : Nat) (x y : α), (∀ j : Nat, j < m → xs[j]? = ys[j]?) ∧ xs[m]? = some x ∧ ys[m]? = some y ∧ x ≠ y
  | [], [], _, h => absurd rfl h
  | [], _ :: _, h, _ => by simp at h
  | _ :: _, [], h, _ => by simp at h
  | x :: xs, y :: ys, hl, h => by
    by_cases e : x = y
    · subst e
      obtain ⟨m, u, v, h1, h2, h3, h4⟩ := differ_at (xs := xs) (ys := ys) (by simpa using hl) (fun e => h (by rw [e]))
      refine ⟨m + 1, u, v, fun j hj => ?_, by simpa using h2, by simpa using h3, h4⟩
      cases j with
      | zero => rfl
      | succ j => simpa using h1 j (by omega)
    · exact ⟨0, x, y, fun j hj => by omega, rfl, rfl, e⟩
theorem HasWs.at {w : World} {ao : Option Addr} {n cap : Nat} {L : List Nat} (h : HasWs w (.slice ao n cap) L) {j : Nat} {l : Nat} (hj : L[j]? = some l) : l < 4294967296 ∧ ∃ b off, ao = some ⟨b, off, none⟩ ∧ b < w.heap.size ∧ w.cell? ⟨b, off + j, none⟩ = some (.int .u32 (l : Int)) := by
  obtain ⟨ao', cap', e, _, hc⟩ := h
  injection e with e1 e2 e3
  subst e1
  exact hc j l hj

set_option maxRecDepth 100000 in
set_option maxHeartbeats 1000000 in
theorem sameW_yes (ao bo : Option Addr) (ac bc : Nat) (xs : List Nat) (w : World) (ha : HasWs w (.slice ao xs.length ac) xs) (hb : HasWs w (.slice bo xs.length bc) xs) (hm : xs.length ≤ 1152921504606846976) :
    Calls Tryz.prog 53 #[.slice ao xs.length ac, .slice bo xs.length bc] w fun e w' => e = .returned (.bool true) ∧ Below w.heap.size w w' := by
  have HA : Hid (HasWs w (.slice ao xs.length ac) xs ∧ HasWs w (.slice bo xs.length bc) xs) := ⟨ha, hb⟩
  clear ha hb
  go_enter Tryz.func53, Tryz.ntmps53
  go_wp2_with fail
  go_loopw [13] (fun iv wr => ∃ k : Nat, k ≤ xs.length ∧ iv = .int .i64 k ∧ Below w.heap.size w wr) (fun iv _ => xs.length - (intOf iv).toNat)
  case atStart => exact ⟨0, Nat.zero_le _, rfl, Below.refl _ _⟩
  case round =>
    obtain ⟨k, hk, rfl, hB⟩ := hrel
    have HB : Hid (Below w.heap.size w wr) := hB
    clear hB
    by_cases hlt : k < xs.length
    · obtain ⟨a, hal⟩ : ∃ a, xs[k]? = some a := ⟨xs[k], List.getElem?_eq_getElem hlt⟩
      obtain ⟨_, b1, o1, rfl, l1, c0⟩ := (HA.out.1.keep HB.out).at hal
      obtain ⟨_, b2, o2, rfl, l2, d0⟩ := (HA.out.2.keep HB.out).at hal
      have i1 : (k : Int) < (xs.length : Int) := by omega
      have i2 : (0 : Int) ≤ (k : Int) := by omega
      clear hal
      go_wp2_with fail
      go_quiet (fail)
      go_wp2
      go_roundw
      case rel => exact ⟨k + 1, by omega, by go_num, HB.out.os, HB.out.tape, HB.out.output, HB.out.size, HB.out.block⟩
      case measure => simp [intOf]; omega
    · obtain rfl : k = xs.length := by omega
      go_wp2
      go_ret
      exact ⟨rfl, HB.out⟩

set_option maxRecDepth 100000 in
set_option maxHeartbeats 2000000 in
theorem sameW_no (ao bo : Option Addr) (ac bc : Nat) (xs ys : List Nat) (w : World) (ha : HasWs w (.slice ao xs.length ac) xs) (hb : HasWs w (.slice bo ys.length bc) ys) (hm : xs.length ≤ 1152921504606846976) (hne : xs ≠ ys) :
    Calls Tryz.prog 53 #[.slice ao xs.length ac, .slice bo ys.length bc] w fun e w' => e = .returned (.bool false) ∧ Below w.heap.size w w' := by
  have HA : Hid (HasWs w (.slice ao xs.length ac) xs ∧ HasWs w (.slice bo ys.length bc) ys) := ⟨ha, hb⟩
  clear ha hb
  by_cases hl : (xs.length : Int) = (ys.length : Int)
  · obtain ⟨m, x, y, h1, h2, h3, h4⟩ := differ_at (by omega) hne
    have HE : Hid (∀ j, j < m → xs[j]? = ys[j]?) := h1
    have HX : Hid (xs[m]? = some x ∧ ys[m]? = some y) := ⟨h2, h3⟩
    have hml : m < xs.length := (List.getElem?_eq_some_iff.1 h2).1
    clear h1 h2 h3 hne
    go_enter Tryz.func53, Tryz.ntmps53
    go_wp2_with fail
    go_loopw [13] (fun iv wr => ∃ k : Nat, k ≤ m ∧ iv = .int .i64 k ∧ Below w.heap.size w wr) (fun iv _ => m - (intOf iv).toNat)
    case atStart => exact ⟨0, Nat.zero_le _, rfl, Below.refl _ _⟩
    case round =>
      obtain ⟨k, hk, rfl, hB⟩ := hrel
      have HB : Hid (Below w.heap.size w wr) := hB
      clear hB
      have i1 : (k : Int) < (xs.length : Int) := by omega
      have i2 : (0 : Int) ≤ (k : Int) := by omega
      by_cases hlt : k < m
      · obtain ⟨a, hal⟩ : ∃ a, xs[k]? = some a := ⟨xs[k], List.getElem?_eq_getElem (by omega)⟩
        obtain ⟨_, b1, o1, rfl, l1, c0⟩ := (HA.out.1.keep HB.out).at hal
        obtain ⟨_, b2, o2, rfl, l2, d0⟩ := (HA.out.2.keep HB.out).at ((HE.out k hlt).symm.trans hal)
        clear hal
        go_wp2
        go_quiet (fail)
        go_wp2
        go_roundw
        case rel => exact ⟨k + 1, by omega, by go_num, HB.out.os, HB.out.tape, HB.out.output, HB.out.size, HB.out.block⟩
        case measure => simp [intOf]; omega
      · obtain rfl : k = m := by omega
        obtain ⟨_, b1, o1, rfl, l1, c0⟩ := (HA.out.1.keep HB.out).at HX.out.1
        obtain ⟨_, b2, o2, rfl, l2, d0⟩ := (HA.out.2.keep HB.out).at HX.out.2
        clear HX
        have hne' : (x : Int) ≠ (y : Int) := by omega
        go_wp2
        go_quiet (fail)
        go_wp2
        go_ret
        exact ⟨rfl, HB.out.os, HB.out.tape, HB.out.output, HB.out.size, HB.out.block⟩
  · go_enter Tryz.func53, Tryz.ntmps53
    go_wp2
    go_ret
    exact ⟨rfl, Below.refl _ _⟩
theorem sameW_calls (ao bo : Option Addr) (ac bc : Nat) (xs ys : List Nat) (w : World) (ha : HasWs w (.slice ao xs.length ac) xs) (hb : HasWs w (.slice bo ys.length bc) ys) (hm : xs.length ≤ 1152921504606846976) :
    Calls Tryz.prog 53 #[.slice ao xs.length ac, .slice bo ys.length bc] w fun e w' => e = .returned (.bool (decide (xs = ys))) ∧ Below w.heap.size w w' := by
  by_cases h : xs = ys
  · subst h
    rw [decide_eq_true rfl]
    exact sameW_yes ao bo ac bc xs w ha hb hm
  · rw [decide_eq_false h]
    exact sameW_no ao bo ac bc xs ys w ha hb hm h

set_option maxRecDepth 100000 in
set_option maxHeartbeats 1000000 in
theorem sameL_yes (ao bo : Option Addr) (ac bc : Nat) (xs : List Lk) (w : World) (ha : HasLs w (.slice ao xs.length ac) xs) (hb : HasLs w (.slice bo xs.length bc) xs) (hm : xs.length ≤ 1152921504606846976) :
    Calls Tryz.prog 54 #[.slice ao xs.length ac, .slice bo xs.length bc] w fun e w' => e = .returned (.bool true) ∧ Below w.heap.size w w' := by
  have HA : Hid (HasLs w (.slice ao xs.length ac) xs ∧ HasLs w (.slice bo xs.length bc) xs) := ⟨ha, hb⟩
  clear ha hb
  go_enter Tryz.func54, Tryz.ntmps54
  go_wp2_with fail
  go_loopw [13] (fun iv wr => ∃ k : Nat, k ≤ xs.length ∧ iv = .int .i64 k ∧ Below w.heap.size w wr) (fun iv _ => xs.length - (intOf iv).toNat)
  case atStart => exact ⟨0, Nat.zero_le _, rfl, Below.refl _ _⟩
  case round =>
    obtain ⟨k, hk, rfl, hB⟩ := hrel
    have HB : Hid (Below w.heap.size w wr) := hB
    clear hB
    by_cases hlt : k < xs.length
    · obtain ⟨a, hal⟩ : ∃ a, xs[k]? = some a := ⟨xs[k], List.getElem?_eq_getElem hlt⟩
      obtain ⟨_, b1, o1, rfl, l1, c0, c1, c2, c3⟩ := (HA.out.1.keep HB.out).at hal
      obtain ⟨_, b2, o2, rfl, l2, d0, d1, d2, d3⟩ := (HA.out.2.keep HB.out).at hal
      have i1 : (k : Int) < (xs.length : Int) := by omega
      have i2 : (0 : Int) ≤ (k : Int) := by omega
      clear hal
      go_wp2_with fail
      go_quiet (fail)
      go_wp2
      go_roundw
      case rel => exact ⟨k + 1, by omega, by go_num, HB.out.os, HB.out.tape, HB.out.output, HB.out.size, HB.out.block⟩
      case measure => simp [intOf]; omega
    · obtain rfl : k = xs.length := by omega
      go_wp2
      go_ret
      exact ⟨rfl, HB.out⟩

set_option maxRecDepth 100000 in
set_option maxHeartbeats 2000000 in
theorem sameL_no (ao bo : Option Addr) (ac bc : Nat) (xs ys : List Lk) (w : World) (ha : HasLs w (.slice ao xs.length ac) xs) (hb : HasLs w (.slice bo ys.length bc) ys) (hm : xs.length ≤ 1152921504606846976) (hne : xs ≠ ys) :
    Calls Tryz.prog 54 #[.slice ao xs.length ac, .slice bo ys.length bc] w fun e w' => e = .returned (.bool false) ∧ Below w.heap.size w w' := by
  have HA : Hid (HasLs w (.slice ao xs.length ac) xs ∧ HasLs w (.slice bo ys.length bc) ys) := ⟨ha, hb⟩
  clear ha hb
  by_cases hl : (xs.length : Int) = (ys.length : Int)
  · obtain ⟨m, x, y, h1, h2, h3, h4⟩ := differ_at (by omega) hne
    have HE : Hid (∀ j, j < m → xs[j]? = ys[j]?) := h1
    have HX : Hid (xs[m]? = some x ∧ ys[m]? = some y) := ⟨h2, h3⟩
    have hml : m < xs.length := (List.getElem?_eq_some_iff.1 h2).1
    clear h1 h2 h3 hne
    go_enter Tryz.func54, Tryz.ntmps54
    go_wp2_with fail
    go_loopw [13] (fun iv wr => ∃ k : Nat, k ≤ m ∧ iv = .int .i64 k ∧ Below w.heap.size w wr) (fun iv _ => m - (intOf iv).toNat)
    case atStart => exact ⟨0, Nat.zero_le _, rfl, Below.refl _ _⟩
    case round =>
      obtain ⟨k, hk, rfl, hB⟩ := hrel
      have HB : Hid (Below w.heap.size w wr) := hB
      clear hB
      have i1 : (k : Int) < (xs.length : Int) := by omega
      have i2 : (0 : Int) ≤ (k : Int) := by omega
      by_cases hlt : k < m
      · obtain ⟨a, hal⟩ : ∃ a, xs[k]? = some a := ⟨xs[k], List.getElem?_eq_getElem (by omega)⟩
        obtain ⟨_, b1, o1, rfl, l1, c0, c1, c2, c3⟩ := (HA.out.1.keep HB.out).at hal
        obtain ⟨_, b2, o2, rfl, l2, d0, d1, d2, d3⟩ := (HA.out.2.keep HB.out).at ((HE.out k hlt).symm.trans hal)
        clear hal
        go_wp2
        go_quiet (fail)
        go_wp2
        go_roundw
        case rel => exact ⟨k + 1, by omega, by go_num, HB.out.os, HB.out.tape, HB.out.output, HB.out.size, HB.out.block⟩
        case measure => simp [intOf]; omega
      · obtain rfl : k = m := by omega
        obtain ⟨_, b1, o1, rfl, l1, c0, c1, c2, c3⟩ := (HA.out.1.keep HB.out).at HX.out.1
        obtain ⟨_, b2, o2, rfl, l2, d0, d1, d2, d3⟩ := (HA.out.2.keep HB.out).at HX.out.2
        clear HX
        obtain ⟨x0, x1, x2, x3⟩ := x
        obtain ⟨y0, y1, y2, y3⟩ := y
        simp only at c0 c1 c2 c3 d0 d1 d2 d3
        by_cases g0 : x0 = y0
        · by_cases g1 : x1 = y1
          · by_cases g2 : x2 = y2
            · have g3 : x3 ≠ y3 := fun e => h4 (by rw [g0, g1, g2, e])
              subst g0 g1 g2
              have g3' : (x3 : Int) ≠ (y3 : Int) := by omega
              go_wp2
              go_quiet (fail)
              go_wp2
              go_ret
              exact ⟨rfl, HB.out.os, HB.out.tape, HB.out.output, HB.out.size, HB.out.block⟩
            · have g2' : (x2 : Int) ≠ (y2 : Int) := by omega
              subst g0 g1
              go_wp2
              go_quiet (fail)
              go_wp2
              go_ret
              exact ⟨rfl, HB.out.os, HB.out.tape, HB.out.output, HB.out.size, HB.out.block⟩
          · have g1' : (x1 : Int) ≠ (y1 : Int) := by omega
            subst g0
            go_wp2
            go_quiet (fail)
            go_wp2
            go_ret
            exact ⟨rfl, HB.out.os, HB.out.tape, HB.out.output, HB.out.size, HB.out.block⟩
        · have g0' : (x0 : Int) ≠ (y0 : Int) := by omega
          go_wp2
          go_quiet (fail)
          go_wp2
          go_ret
          exact ⟨rfl, HB.out.os, HB.out.tape, HB.out.output, HB.out.size, HB.out.block⟩
  · go_enter Tryz.func54, Tryz.ntmps54
    go_wp2
    go_ret
    exact ⟨rfl, Below.refl _ _⟩
theorem sameL_calls (ao bo : Option Addr) (ac bc : Nat) (xs ys : List Lk) (w : World) (ha : HasLs w (.slice ao xs.length ac) xs) (hb : HasLs w (.slice bo ys.length bc) ys) (hm : xs.length ≤ 1152921504606846976) :
    Calls Tryz.prog 54 #[.slice ao xs.length ac, .slice bo ys.length bc] w fun e w' => e = .returned (.bool (decide (xs = ys))) ∧ Below w.heap.size w w' := by
  by_cases h : xs = ys
  · subst h
    rw [decide_eq_true rfl]
    exact sameL_yes ao bo ac bc xs w ha hb hm
  · rw [decide_eq_false h]
    exact sameL_no ao bo ac bc xs ys w ha hb hm h
end Go.Proofs.YtodilocmfdeehaaGreatDoor.Hi
