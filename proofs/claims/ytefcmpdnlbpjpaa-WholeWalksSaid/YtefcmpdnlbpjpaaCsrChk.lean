/- csr.Check at right arrays: no error. -/
import Derived.Test.YtefcmpdnlbpjpaaCsrArcs
import Derived.Test.YtefcmpdnlbpjpaaCsrM
import Derived.Deep.QuietTactic
import Derived.BigQuiet
namespace Go.Proofs.Ytefcmpdnlbpjpaa
open Go.RowKit Go.Extern

attribute [local go_sem] Oper.semAt_some

/-- the arrays of a normal list lie in memory. -/
structure CsrIn (w : World) (n : Nat) (zs : List (Int × Int × Int)) (fo to wo : Option Addr) (fc tc wc : Nat) : Prop where
  f : HasInts w (.slice fo (n + 1) fc) (firsts n zs)
  t : HasInts w (.slice to zs.length tc) (tos zs)
  w : HasInts w (.slice wo zs.length wc) (weights zs)
theorem CsrIn.keep {w w' : World} {n : Nat} {zs : List (Int × Int × Int)} {fo to wo : Option Addr} {fc tc wc : Nat} (h : CsrIn w n zs fo to wo fc tc wc) (hb : Below w.heap.size w w') : CsrIn w' n zs fo to wo fc tc wc := ⟨h.f.keep hb, h.t.keep hb, h.w.keep hb⟩
theorem CsrIn.first {w : World} {n : Nat} {zs : List (Int × Int × Int)} {fo to wo : Option Addr} {fc tc wc : Nat} (h : CsrIn w n zs fo to wo fc tc wc) : ∃ fb fof, fo = some ⟨fb, fof, none⟩ ∧ fb < w.heap.size ∧ ∀ v, v ≤ n → w.cell? ⟨fb, fof + v, none⟩ = some (.int .i64 (firstAt zs v)) := by
  obtain ⟨b, off, e, hl, hc⟩ := h.f.cells (by omega)
  exact ⟨b, off, e, hl, fun v hv => hc v _ (firsts_at zs hv)⟩
theorem CsrIn.arc {w : World} {n : Nat} {zs : List (Int × Int × Int)} {fo to wo : Option Addr} {fc tc wc : Nat} (h : CsrIn w n zs fo to wo fc tc wc) (h0 : 0 < zs.length) : ∃ tb tof wb wof, to = some ⟨tb, tof, none⟩ ∧ wo = some ⟨wb, wof, none⟩ ∧ tb < w.heap.size ∧ wb < w.heap.size ∧ ∀ i a, zs[i]? = some a → w.cell? ⟨tb, tof + i, none⟩ = some (.int .i64 a.2.1) ∧ w.cell? ⟨wb, wof + i, none⟩ = some (.int .i64 a.2.2) := by
  obtain ⟨b, off, e, hl, hc⟩ := h.t.cells h0
  obtain ⟨b', off', e', hl', hc'⟩ := h.w.cells h0
  exact ⟨b, off, b', off', e, e', hl, hl', fun i a ha => ⟨hc i _ (tos_at ha), hc' i _ (weights_at ha)⟩⟩
/-- checkArc at an arc of a normal list: no error. -/
theorem arc_good {w : World} {n : Nat} {zs : List (Int × Int × Int)} {fb fof : Nat} {to wo : Option Addr} {fc tc wc : Nat} (hz : Fine n zs) (h : CsrIn w n zs (some ⟨fb, fof, none⟩) to wo fc tc wc) {v i : Nat} (hv : v < n) (h1 : firstAt zs v ≤ i) (h2 : i < firstAt zs (v + 1)) :
    Calls Try.prog 63 #[.agg #[.slice (some ⟨fb, fof, none⟩) (n + 1) fc, .slice to zs.length tc, .slice wo zs.length wc], .int .i64 v, .int .i64 i] w fun e w' => e = .returned .nilIface ∧ Below w.heap.size w w' := by
  have hi : i < zs.length := Nat.lt_of_lt_of_le h2 (firstAt_le _ _)
  obtain ⟨a, ha⟩ : ∃ a, zs[i]? = some a := ⟨zs[i], List.getElem?_eq_getElem hi⟩
  obtain ⟨fb', fof', e, hl, hc⟩ := h.first
  injection e with e
  injection e with e1 e2
  subst e1 e2
  obtain ⟨tb, tof, wb, wof, rfl, rfl, ht, hw, hA⟩ := h.arc (by omega)
  have hr := hz.row ha h1 h2
  have hg := hz.at ha
  obtain ⟨j, tp, hj, hlt⟩ : ∃ (j : Nat) (tp : Int), ((i : Int) ≠ (firstAt zs v : Int) → i = j + 1 ∧ w.cell? ⟨tb, tof + j, none⟩ = some (.int .i64 tp)) ∧ ((i : Int) ≠ (firstAt zs v : Int) → tp < a.2.1) := by
    cases i with
    | zero => exact ⟨0, 0, fun e => absurd (by omega) e, fun e => absurd (by omega) e⟩
    | succ i =>
      obtain ⟨b, hb⟩ : ∃ b, zs[i]? = some b := ⟨zs[i], List.getElem?_eq_getElem (by omega)⟩
      refine ⟨i, b.2.1, fun _ => ⟨rfl, (hA i b hb).1⟩, fun e => hz.row_rise hb ha ?_ h2⟩
      omega
  refine (checkArc_csr fb fof tb tof wb wof n fc zs.length tc zs.length wc v i j (firstAt zs v) a.2.1 tp a.2.2 w (by have := hz.few; omega) hz.short hv hi hi hj (hc v (by omega)) (hA i a ha).1 (hA i a ha).2 hl ht hw).mono ?_
  rintro e w' ⟨rfl, hb⟩
  refine ⟨?_, hb⟩
  have : arcNo n v i (firstAt zs v) a.2.1 tp a.2.2 = 0 := by
    unfold arcNo
    rw [if_neg (fun h => h ⟨hg.2.2.1, hg.2.2.2.1⟩), if_neg (fun h => ?_), if_neg (by omega)]
    rcases h with h | ⟨h, h'⟩
    · exact hg.2.2.2.2.1 (by omega)
    · have := hlt h
      omega
  rw [this]
  rfl

set_option maxRecDepth 100000 in
set_option maxHeartbeats 4000000 in
theorem check_good (n : Nat) (zs : List (Int × Int × Int)) (fo to wo : Option Addr) (fc tc wc : Nat) (w : World) (hz : Fine n zs) (h : CsrIn w n zs fo to wo fc tc wc) :
    Calls Try.prog 41 #[.agg #[.slice fo (n + 1) fc, .slice to zs.length tc, .slice wo zs.length wc]] w fun e w' => e = .returned .nilIface ∧ Below w.heap.size w w' := by
  obtain ⟨fb, fof, rfl, hl, hc⟩ := h.first
  obtain ⟨W0, hW0⟩ : ∃ W0, w.alloc (.cells #[.slice (some ⟨fb, fof, none⟩) (n + 1) fc, .slice to zs.length tc, .slice wo zs.length wc] 27) = W0 := ⟨_, rfl⟩
  have HW0 : Hid (w.alloc (.cells #[.slice (some ⟨fb, fof, none⟩) (n + 1) fc, .slice to zs.length tc, .slice wo zs.length wc] 27) = W0) := hW0
  have hB0 : Below w.heap.size w W0 := by rw [← hW0]; exact (Below.refl _ w).alloc (Nat.le_refl _) _
  have hbx : W0.heap[w.heap.size]? = some (.cells #[.slice (some ⟨fb, fof, none⟩) (n + 1) fc, .slice to zs.length tc, .slice wo zs.length wc] 27) := by rw [← hW0]; exact heap_new _ _
  have HK : Hid (∀ wx, Below W0.heap.size W0 wx → (wx.cell? ⟨w.heap.size, 0, none⟩ = some (.slice (some ⟨fb, fof, none⟩) (n + 1) fc) ∧ wx.cell? ⟨w.heap.size, 1, none⟩ = some (.slice to zs.length tc) ∧ wx.cell? ⟨w.heap.size, 2, none⟩ = some (.slice wo zs.length wc)) ∧ w.heap.size < wx.heap.size ∧ fb < wx.heap.size ∧ CsrIn wx n zs (some ⟨fb, fof, none⟩) to wo fc tc wc ∧ Below w.heap.size w wx ∧ ∀ v, v ≤ n → wx.cell? ⟨fb, fof + v, none⟩ = some (.int .i64 (firstAt zs v))) := fun wx hx => by
    have hg := (hx.block _ (lt_of_get hbx)).trans hbx
    have hb := hB0.trans (hx.mono hB0.size)
    exact ⟨box3 hg, lt_of_get hg, Nat.lt_of_lt_of_le hl hb.size, h.keep hb, hb, fun v hv => (hb.cell (p := ⟨fb, _, none⟩) hl).trans (hc v hv)⟩
  have hN := hz.few
  have hM := hz.short
  have HLE : Hid (∀ wx, Below W0.heap.size W0 wx → Calls Try.prog 61 #[.agg #[.slice (some ⟨fb, fof, none⟩) (n + 1) fc, .slice to zs.length tc, .slice wo zs.length wc]] wx fun e w' => e = .returned .nilIface ∧ Below W0.heap.size W0 w') := fun wx hx =>
    (lengths_good fb fof to wo n fc zs.length tc wc (firsts n zs) wx (HK.out wx hx).2.2.2.1.f (by rw [firsts_at zs (Nat.zero_le _), hz.zero]; rfl) (by rw [firsts_at zs (Nat.le_refl _), hz.top]) hN hM).mono fun e w' ⟨he, hb⟩ => ⟨he, hx.trans (hb.mono hx.size)⟩
  have HNC : Hid (∀ wx, Below W0.heap.size W0 wx → Calls Try.prog 62 #[.agg #[.slice (some ⟨fb, fof, none⟩) (n + 1) fc, .slice to zs.length tc, .slice wo zs.length wc]] wx fun e w' => e = .returned (.int .i64 n) ∧ Below W0.heap.size W0 w') := fun wx hx =>
    (nodes_calls _ to wo n fc zs.length tc zs.length wc (by omega) wx).mono fun e w' ⟨he, hb⟩ => ⟨he, hx.trans (hb.mono hx.size)⟩
  have HAR : Hid (∀ wx, Below W0.heap.size W0 wx → ∀ v i : Nat, v < n → firstAt zs v ≤ i → i < firstAt zs (v + 1) → Calls Try.prog 63 #[.agg #[.slice (some ⟨fb, fof, none⟩) (n + 1) fc, .slice to zs.length tc, .slice wo zs.length wc], .int .i64 v, .int .i64 i] wx fun e w' => e = .returned .nilIface ∧ Below W0.heap.size W0 w') := fun wx hx v i hv h1 h2 =>
    (arc_good hz (HK.out wx hx).2.2.2.1 hv h1 h2).mono fun e w' ⟨he, hb⟩ => ⟨he, hx.trans (hb.mono hx.size)⟩
  have HFL : Hid (∀ v, firstAt zs v ≤ 262144) := fun v => Nat.le_trans (firstAt_le zs v) hM
  clear h hc hW0 hB0 hbx hl
  go_enter Try.func41, Try.ntmps41
  go_wp2_with fail
  rw [HW0.out]
  refine (HLE.out W0 (Below.refl _ _)).mono ?_
  rintro e w1 ⟨rfl, hb1⟩
  have HB1 : Hid (Below W0.heap.size W0 w1) := hb1
  obtain ⟨⟨c0, c1, c2⟩, cs, cf, _, _, _⟩ := HK.out w1 hb1
  clear hb1
  go_wp2_with fail
  refine (HNC.out w1 HB1.out).mono ?_
  rintro e w2 ⟨rfl, hb2⟩
  have HB2 : Hid (Below W0.heap.size W0 w2) := hb2
  clear hb2 c0 c1 c2 cs cf
  go_wp2_with fail
  go_loopw [15] (fun iv wr => ∃ k : Nat, k ≤ n ∧ iv = .int .i64 k ∧ Below W0.heap.size W0 wr) (fun iv _ => n - (intOf iv).toNat)
  case atStart => exact ⟨0, Nat.zero_le _, rfl, HB2.out⟩
  case round =>
    obtain ⟨k, hk, rfl, hb⟩ := hrel
    have HBR : Hid (Below W0.heap.size W0 wr) := hb
    obtain ⟨⟨c0, c1, c2⟩, cs, cf, _, _, hc⟩ := HK.out wr hb
    by_cases hlt : k < n
    · obtain ⟨x, hx⟩ : ∃ x, firstAt zs k = x := ⟨_, rfl⟩
      obtain ⟨y, hy⟩ : ∃ y, firstAt zs (k + 1) = y := ⟨_, rfl⟩
      have q0 := hc k (by omega)
      have q1 := hc (k + 1) (by omega)
      have hxy : ¬ (y : Int) < (x : Int) := by have := firstAt_mono zs (show k ≤ k + 1 by omega); omega
      rw [hx] at q0
      rw [hy] at q1
      have e1 : (k : Int) < (n : Int) + 1 := by omega
      have e2 : (k : Int) + 1 < (n : Int) + 1 := by omega
      have e3 : (0 : Int) ≤ (k : Int) := by omega
      have e4 : (0 : Int) ≤ (k : Int) + 1 := by omega
      have e5 : IntKind.i64.wrap ((k : Int) + 1) = (k : Int) + 1 := by rw [IntKind.wrap_i64] <;> omega
      clear hc hb hx hy
      go_wp2
      go_quiet (fail)
      go_wp2
      go_roundw
      case rel => exact ⟨k + 1, by omega, by go_num, ⟨HBR.out.os, HBR.out.tape, HBR.out.output, HBR.out.size, HBR.out.block⟩⟩
      case measure => simp [intOf]; omega
    · clear hc hb
      generalize hwr : wr = w3 at *
      clear hwr
      go_wp2_with fail
      refine (HNC.out w3 HBR.out).mono ?_
      rintro e w4 ⟨rfl, hb4⟩
      have HB4 : Hid (Below W0.heap.size W0 w4) := hb4
      clear hb4 c0 c1 c2 cs cf
      go_wp2_with fail
      go_loopw [36] (fun iv wr => ∃ k : Nat, k ≤ n ∧ iv = .int .i64 k ∧ Below W0.heap.size W0 wr) (fun iv _ => n - (intOf iv).toNat)
      case atStart => exact ⟨0, Nat.zero_le _, rfl, HB4.out⟩
      case round =>
        obtain ⟨k, hk, rfl, hb⟩ := hrel
        have HBR : Hid (Below W0.heap.size W0 wr) := hb
        obtain ⟨⟨c0, c1, c2⟩, cs, cf, _, _, hc⟩ := HK.out wr hb
        by_cases hlt : k < n
        · obtain ⟨x, hx⟩ : ∃ x, firstAt zs k = x := ⟨_, rfl⟩
          obtain ⟨y, hy⟩ : ∃ y, firstAt zs (k + 1) = y := ⟨_, rfl⟩
          have q0 := hc k (by omega)
          rw [hx] at q0
          have HX : Hid (firstAt zs k = x ∧ firstAt zs (k + 1) = y ∧ x ≤ y ∧ y ≤ 262144) := ⟨hx, hy, by have := firstAt_mono zs (show k ≤ k + 1 by omega); omega, by have := HFL.out (k + 1); omega⟩
          have e1 : (k : Int) < (n : Int) + 1 := by omega
          have e2 : (k : Int) + 1 < (n : Int) + 1 := by omega
          have e3 : (0 : Int) ≤ (k : Int) := by omega
          have e4 : (0 : Int) ≤ (k : Int) + 1 := by omega
          have e5 : IntKind.i64.wrap ((k : Int) + 1) = (k : Int) + 1 := by rw [IntKind.wrap_i64] <;> omega
          clear hc hb hx hy
          generalize hwr : wr = w5 at *
          clear hwr
          go_wp2_with fail
          go_loopw [6] (fun iv wr => ∃ i : Nat, x ≤ i ∧ i ≤ y ∧ iv = .int .i64 i ∧ Below W0.heap.size W0 wr) (fun iv _ => y - (intOf iv).toNat)
          case atStart => exact ⟨x, Nat.le_refl _, HX.out.2.2.1, rfl, HBR.out⟩
          case round =>
            obtain ⟨i, hi1, hi2, rfl, hb⟩ := hrel
            have HBI : Hid (Below W0.heap.size W0 wr) := hb
            clear c0 c1 c2 cs cf q0
            obtain ⟨⟨c0, c1, c2⟩, cs, cf, _, _, hc⟩ := HK.out wr hb
            have q1 := hc (k + 1) (by omega)
            rw [HX.out.2.1] at q1
            have hy6 := HX.out.2.2.2
            clear hc hb
            by_cases hiy : i < y
            · have HAI : Hid (type_of% (HAR.out wr HBI.out k i hlt (by rw [HX.out.1]; exact hi1) (by rw [HX.out.2.1]; exact hiy))) := HAR.out wr HBI.out k i hlt (by rw [HX.out.1]; exact hi1) (by rw [HX.out.2.1]; exact hiy)
              go_wp2_with (go_at_call 63; refine HAI.out.mono ?_; rintro e w6 ⟨rfl, hb6⟩; have HB6 : Hid (Below W0.heap.size W0 w6) := hb6; clear hb6)
              go_roundw
              case rel => exact ⟨i + 1, by omega, by omega, by go_num, HB6.out⟩
              case measure => simp [intOf]; omega
            · go_wp2
              go_roundw
              case rel => exact ⟨k + 1, by omega, by go_num, HBI.out⟩
              case measure => simp [intOf]; omega
        · have HBF := (HK.out wr HBR.out).2.2.2.2.1
          have HBG : Hid (Below w.heap.size w wr) := HBF
          clear HBF hc hb
          go_wp2
          go_ret
          exact ⟨rfl, HBG.out⟩
end Go.Proofs.Ytefcmpdnlbpjpaa
