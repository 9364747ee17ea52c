/- viaductref03's SameArcs and Same at lists that are not one: they say so. -/
import Derived.Test.YtgfmalimnbgdeaaSameG
namespace Go.Proofs.Ytgfmalimnbgdeaa
open Go.RowKit Go.Extern

attribute [local go_sem] Oper.semAt_some

/-- the first place where two lists differ. -/
theorem differ_at : ∀ {xs ys : List (Int × Int × Int)}, xs.length = ys.length → xs ≠ ys → ∃ (m : Nat) (x y : Int × Int × Int), (∀ j : Nat, j < m → xs[j]? = ys[j]?) ∧ xs[m]? = some x ∧ ys[m]? = some y ∧ x ≠ y
  | [], [], _, h => absurd rfl h
  | [], _ :: _, h, _ => by simp at h
  | _ :: _, [], h, _ => by simp at h
  | x :: xs, y :: ys, hl, h => by
    by_cases e : x = y
    · subst e
      obtain ⟨m, u, v, h1, h2, h3, h4⟩ := differ_at (xs := xs) (ys := ys) (by simpa using hl) (fun e => h (by rw [e]))
      refine ⟨m + 1, u, v, fun j hj => ?_, by simpa using h2, by simpa using h3, h4⟩
      cases j with
      | zero => rfl
      | succ j => simpa using h1 j (by omega)
    · exact ⟨0, x, y, fun j hj => by omega, rfl, rfl, e⟩

set_option maxRecDepth 100000 in
set_option maxHeartbeats 1000000 in
theorem sameArcs_no (av bv : Value) (xs ys : List (Int × Int × Int)) (w : World) (ha : HasArcs w av xs) (hb : HasArcs w bv ys) (hm : xs.length ≤ maxLen) (hne : xs ≠ ys) :
    Calls Try.prog 37 #[av, bv] w fun e w' => e = .returned (.bool false) ∧ Below w.heap.size w w' := by
  unfold maxLen at hm
  obtain ⟨ao, cap, hlv⟩ : ∃ ao cap, av = .slice ao xs.length cap := by
    obtain ⟨ao, cap, e, _⟩ := ha
    exact ⟨ao, cap, e⟩
  obtain ⟨bo, cbp, hlb⟩ : ∃ bo cap, bv = .slice bo ys.length cap := by
    obtain ⟨ao, cap, e, _⟩ := hb
    exact ⟨ao, cap, e⟩
  subst hlv
  subst hlb
  have HA : Hid (HasArcs w (.slice ao xs.length cap) xs) := ha
  have HB : Hid (HasArcs w (.slice bo ys.length cbp) ys) := hb
  clear ha hb
  by_cases hl : (xs.length : Int) = ys.length
  · obtain ⟨m, x, y, h1, h2, h3, h4⟩ := differ_at (by omega) hne
    have HE : Hid (∀ j, j < m → xs[j]? = ys[j]?) := h1
    have HX : Hid (xs[m]? = some x ∧ ys[m]? = some y) := ⟨h2, h3⟩
    have hml : m < xs.length := (List.getElem?_eq_some_iff.1 h2).1
    clear h1 h2 h3 hne
    go_enter Try.func37, Try.ntmps37
    go_wp2_with fail
    go_loopw [13] (fun iv wr => ∃ k : Nat, k ≤ m ∧ iv = .int .i64 k ∧ Below w.heap.size w wr) (fun iv _ => m - (intOf iv).toNat)
    case atStart => exact ⟨0, Nat.zero_le _, rfl, Below.refl _ _⟩
    case round =>
      obtain ⟨k, hk, rfl, hbw⟩ := hrel
      have b0' : (0 : Int) ≤ k := by omega
      have b1' : (k : Int) < xs.length := by omega
      by_cases hlt : k < m
      · obtain ⟨p, hp⟩ : ∃ p, xs[k]? = some p := ⟨xs[k], List.getElem?_eq_getElem (by omega)⟩
        obtain ⟨b, off, hao, hl1, q0, q1, q2⟩ := HA.out.at hp
        obtain ⟨b', off', hbo, hl2, r0, r1, r2⟩ := HB.out.at ((HE.out k hlt).symm.trans hp)
        subst hao
        subst hbo
        have a0 := (hbw.cell (p := ⟨b, off + k * 3, none⟩) hl1).trans q0
        have a1 := (hbw.cell (p := ⟨b, off + k * 3 + 1, none⟩) hl1).trans q1
        have a2 := (hbw.cell (p := ⟨b, off + k * 3 + 2, none⟩) hl1).trans q2
        have b0 := (hbw.cell (p := ⟨b', off' + k * 3, none⟩) hl2).trans r0
        have b1 := (hbw.cell (p := ⟨b', off' + k * 3 + 1, none⟩) hl2).trans r1
        have b2 := (hbw.cell (p := ⟨b', off' + k * 3 + 2, none⟩) hl2).trans r2
        have HBW : Hid (Below w.heap.size w wr) := hbw
        clear q0 q1 q2 r0 r1 r2 hp hbw
        go_wp2
        go_quiet (fail)
        go_wp2
        go_roundw
        case rel => exact ⟨k + 1, by omega, by go_num, ⟨HBW.out.os, HBW.out.tape, HBW.out.output, HBW.out.size, HBW.out.block⟩⟩
        case measure => simp [intOf]; omega
      · obtain rfl : k = m := by omega
        obtain ⟨b, off, hao, hl1, q0, q1, q2⟩ := HA.out.at HX.out.1
        obtain ⟨b', off', hbo, hl2, r0, r1, r2⟩ := HB.out.at HX.out.2
        subst hao
        subst hbo
        have a0 := (hbw.cell (p := ⟨b, off + k * 3, none⟩) hl1).trans q0
        have a1 := (hbw.cell (p := ⟨b, off + k * 3 + 1, none⟩) hl1).trans q1
        have a2 := (hbw.cell (p := ⟨b, off + k * 3 + 2, none⟩) hl1).trans q2
        have b0 := (hbw.cell (p := ⟨b', off' + k * 3, none⟩) hl2).trans r0
        have b1 := (hbw.cell (p := ⟨b', off' + k * 3 + 1, none⟩) hl2).trans r1
        have b2 := (hbw.cell (p := ⟨b', off' + k * 3 + 2, none⟩) hl2).trans r2
        have HBW : Hid (Below w.heap.size w wr) := hbw
        clear q0 q1 q2 r0 r1 r2 hbw
        obtain ⟨x0, x1, x2⟩ := x
        obtain ⟨y0, y1, y2⟩ := y
        simp only at a0 a1 a2 b0 b1 b2
        by_cases c0 : x0 = y0
        · by_cases c1 : x1 = y1
          · have c2 : ¬ x2 = y2 := fun c2 => h4 (by rw [c0, c1, c2])
            clear h4 HX HE
            go_wp2
            go_quiet (fail)
            go_wp2
            go_ret
            exact ⟨rfl, ⟨HBW.out.os, HBW.out.tape, HBW.out.output, HBW.out.size, HBW.out.block⟩⟩
          · clear h4 HX HE
            go_wp2
            go_quiet (fail)
            go_wp2
            go_ret
            exact ⟨rfl, ⟨HBW.out.os, HBW.out.tape, HBW.out.output, HBW.out.size, HBW.out.block⟩⟩
        · clear h4 HX HE
          go_wp2
          go_quiet (fail)
          go_wp2
          go_ret
          exact ⟨rfl, ⟨HBW.out.os, HBW.out.tape, HBW.out.output, HBW.out.size, HBW.out.block⟩⟩
  · go_enter Try.func37, Try.ntmps37
    go_wp2
    go_ret
    exact ⟨rfl, Below.refl _ _⟩

set_option maxHeartbeats 1000000 in
theorem same_no (N : Int) (ao bo : Option Addr) (al bl ac bc : Nat) (xs ys : List (Int × Int × Int)) (w : World) (ha : HasArcs w (.slice ao al ac) xs) (hb : HasArcs w (.slice bo bl bc) ys) (hm : xs.length ≤ maxLen) (hne : xs ≠ ys) :
    Calls Try.prog 12 #[.agg #[.int .i64 N, .slice ao al ac], .agg #[.int .i64 N, .slice bo bl bc]] w fun e w' => e = .returned (.bool false) ∧ Below w.heap.size w w' := by
  have HB0 : Hid (Below w.heap.size w ((w.alloc (.cells #[.int .i64 N, .slice ao al ac] 24)).alloc (.cells #[.int .i64 N, .slice bo bl bc] 24))) := ((Below.refl _ w).alloc (Nat.le_refl _) _).alloc (by simp) _
  have HS : Hid (∀ wx, Below w.heap.size w wx → Calls Try.prog 37 #[.slice ao al ac, .slice bo bl bc] wx fun e w' => e = .returned (.bool false) ∧ Below wx.heap.size wx w') := fun wx h => sameArcs_no _ _ xs ys wx (ha.keep h) (hb.keep h) hm hne
  clear ha hb
  have hN : (N == N) = true := by simp
  go_enter Try.func12, Try.ntmps12
  go_wp2_with fail
  refine (HS.out _ HB0.out).mono ?_
  rintro e w1 ⟨rfl, hb1⟩
  have HB1 : Hid (Below w.heap.size w w1) := HB0.out.trans (hb1.mono HB0.out.size)
  clear hb1
  go_wp2
  go_ret
  exact ⟨rfl, HB1.out⟩
end Go.Proofs.Ytgfmalimnbgdeaa
