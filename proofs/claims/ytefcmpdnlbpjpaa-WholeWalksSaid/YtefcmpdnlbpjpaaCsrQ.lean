/- csr.Check where the numbers of First fall: the error's number and place. csr.Check where the firsts rise and an arc is wrong: the error's number and place. csr's Check where the lengths are wrong; Graph, Row and Find where Check tells an error; Row at no node. -/
import Derived.Test.YtefcmpdnlbpjpaaCsrChk
import Derived.Test.YtefcmpdnlbpjpaaCsrLen
namespace Go.Proofs.Ytefcmpdnlbpjpaa
open Go.RowKit Go.Extern

attribute [local go_sem] Oper.semAt_some

set_option maxRecDepth 100000 in
set_option maxHeartbeats 4000000 in
theorem check_falls (n m : Nat) (F : List Int) (fb fof : Nat) (uo wo : Option Addr) (fc tc wc : Nat) (w : World) (hF : HasInts w (.slice (some ⟨fb, fof, none⟩) (n + 1) fc) F) (h0 : F[0]? = some 0) (hn : F[n]? = some (m : Int)) (hN : n ≤ 65536) (hM : m ≤ 262144)
    (k0 : Nat) (hk0 : k0 < n) (x y : Int) (hx : F[k0]? = some x) (hy : F[k0 + 1]? = some y) (hxy : y < x) (hmono : ∀ (u : Nat) (a b : Int), u < k0 → F[u]? = some a → F[u + 1]? = some b → a ≤ b) :
    Calls Try.prog 41 #[.agg #[.slice (some ⟨fb, fof, none⟩) (n + 1) fc, .slice uo m tc, .slice wo m wc]] w fun e w' => ∃ v, e = .returned v ∧ IsTold w' (14, [(3, (k0 : Int))]) v ∧ Below w.heap.size w w' := by
  obtain ⟨fb', fof', e, hl, hc⟩ := hF.cells (by omega)
  injection e with e
  injection e with e1 e2
  subst e1 e2
  have hlen : F.length = n + 1 := by obtain ⟨_, _, e, _⟩ := hF; injection e with _ e _; exact e.symm
  obtain ⟨W0, hW0⟩ : ∃ W0, w.alloc (.cells #[.slice (some ⟨fb, fof, none⟩) (n + 1) fc, .slice uo m tc, .slice wo m wc] 27) = W0 := ⟨_, rfl⟩
  have HW0 : Hid (w.alloc (.cells #[.slice (some ⟨fb, fof, none⟩) (n + 1) fc, .slice uo m tc, .slice wo m wc] 27) = W0) := hW0
  have hB0 : Below w.heap.size w W0 := by rw [← hW0]; exact (Below.refl _ w).alloc (Nat.le_refl _) _
  have hbx : W0.heap[w.heap.size]? = some (.cells #[.slice (some ⟨fb, fof, none⟩) (n + 1) fc, .slice uo m tc, .slice wo m wc] 27) := by rw [← hW0]; exact heap_new _ _
  have HK : Hid (∀ wx, Below W0.heap.size W0 wx → (wx.cell? ⟨w.heap.size, 0, none⟩ = some (.slice (some ⟨fb, fof, none⟩) (n + 1) fc) ∧ wx.cell? ⟨w.heap.size, 1, none⟩ = some (.slice uo m tc) ∧ wx.cell? ⟨w.heap.size, 2, none⟩ = some (.slice wo m wc)) ∧ w.heap.size < wx.heap.size ∧ fb < wx.heap.size ∧ Below w.heap.size w wx ∧ ∀ (v : Nat) (a : Int), F[v]? = some a → wx.cell? ⟨fb, fof + v, none⟩ = some (.int .i64 a)) := fun wx hx => by
    have hg := (hx.block _ (lt_of_get hbx)).trans hbx
    have hb := hB0.trans (hx.mono hB0.size)
    exact ⟨box3 hg, lt_of_get hg, Nat.lt_of_lt_of_le hl hb.size, hb, fun v a hv => (hb.cell (p := ⟨fb, _, none⟩) hl).trans (hc v a hv)⟩
  have HLE : Hid (∀ wx, Below W0.heap.size W0 wx → Calls Try.prog 61 #[.agg #[.slice (some ⟨fb, fof, none⟩) (n + 1) fc, .slice uo m tc, .slice wo m wc]] wx fun e w' => e = .returned .nilIface ∧ Below W0.heap.size W0 w') := fun wx hx =>
    (lengths_good fb fof uo wo n fc m tc wc F wx (hF.keep (HK.out wx hx).2.2.2.1) h0 hn hN hM).mono fun e w' ⟨he, hb⟩ => ⟨he, hx.trans (hb.mono hx.size)⟩
  have HNC : Hid (∀ wx, Below W0.heap.size W0 wx → Calls Try.prog 62 #[.agg #[.slice (some ⟨fb, fof, none⟩) (n + 1) fc, .slice uo m tc, .slice wo m wc]] wx fun e w' => e = .returned (.int .i64 n) ∧ Below W0.heap.size W0 w') := fun wx hx =>
    (nodes_calls _ uo wo n fc m tc m wc (by omega) wx).mono fun e w' ⟨he, hb⟩ => ⟨he, hx.trans (hb.mono hx.size)⟩
  have HMO : Hid (type_of% hmono) := hmono
  have HXY : Hid (F[k0]? = some x ∧ F[k0 + 1]? = some y) := ⟨hx, hy⟩
  have HLN : Hid (F.length = n + 1) := hlen
  clear hF hc hW0 hB0 hbx hl h0 hn hx hy hmono hlen
  go_enter Try.func41, Try.ntmps41
  go_wp2_with fail
  rw [HW0.out]
  refine (HLE.out W0 (Below.refl _ _)).mono ?_
  rintro e w1 ⟨rfl, hb1⟩
  have HB1 : Hid (Below W0.heap.size W0 w1) := hb1
  obtain ⟨⟨c0, c1, c2⟩, cs, cf, _, _⟩ := HK.out w1 hb1
  clear hb1
  go_wp2_with fail
  refine (HNC.out w1 HB1.out).mono ?_
  rintro e w2 ⟨rfl, hb2⟩
  have HB2 : Hid (Below W0.heap.size W0 w2) := hb2
  clear hb2 c0 c1 c2 cs cf
  go_wp2_with fail
  go_loopw [15] (fun iv wr => ∃ k : Nat, k ≤ k0 ∧ iv = .int .i64 k ∧ Below W0.heap.size W0 wr) (fun iv _ => n - (intOf iv).toNat)
  case atStart => exact ⟨0, Nat.zero_le _, rfl, HB2.out⟩
  case round =>
    obtain ⟨k, hk, rfl, hb⟩ := hrel
    have HBR : Hid (Below W0.heap.size W0 wr) := hb
    obtain ⟨⟨c0, c1, c2⟩, cs, cf, _, hc⟩ := HK.out wr hb
    have e1 : (k : Int) < (n : Int) + 1 := by omega
    have e2 : (k : Int) + 1 < (n : Int) + 1 := by omega
    have e3 : (0 : Int) ≤ (k : Int) := by omega
    have e4 : (0 : Int) ≤ (k : Int) + 1 := by omega
    have e5 : IntKind.i64.wrap ((k : Int) + 1) = (k : Int) + 1 := by rw [IntKind.wrap_i64] <;> omega
    have e6 : (k : Int) < (n : Int) := by omega
    by_cases hlt : k < k0
    · obtain ⟨a, ha⟩ : ∃ a, F[k]? = some a := ⟨F[k]'(by have := HLN.out; omega), List.getElem?_eq_getElem _⟩
      obtain ⟨b, hbb⟩ : ∃ b, F[k + 1]? = some b := ⟨F[k + 1]'(by have := HLN.out; omega), List.getElem?_eq_getElem _⟩
      have q0 := hc k a ha
      have q1 := hc (k + 1) b hbb
      have hab : ¬ b < a := by have := HMO.out k a b hlt ha hbb; omega
      clear hc hb ha hbb
      go_wp2
      go_quiet (fail)
      go_wp2
      go_roundw
      case rel => exact ⟨k + 1, by omega, by go_num, ⟨HBR.out.os, HBR.out.tape, HBR.out.output, HBR.out.size, HBR.out.block⟩⟩
      case measure => simp [intOf]; omega
    · obtain rfl : k = k0 := by omega
      have q0 := hc k x HXY.out.1
      have q1 := hc (k + 1) y HXY.out.2
      have HBW : Hid (∀ q, Below w.heap.size w (wr.drewN q)) := fun q => by
        have h := (HK.out wr HBR.out).2.2.2.1
        exact ⟨h.os, h.tape, h.output, h.size, h.block⟩
      clear hc hb
      go_wp2
      go_quiet (fail)
      go_wp2_with (go_at_call 19; refine (at_some _ _ _ _ _).mono ?_; rintro e w3 ⟨rfl, hw3⟩)
      go_ret
      subst hw3
      refine ⟨_, rfl, ?_, (HBW.out _).alloc (HBW.out _).size _⟩
      exact Or.inr ⟨by simp, isErr_new (p := (3, (k : Int))) (show IsErr _ (.iface 59 (.int .i64 14)) [] (.iface 59 (.int .i64 14)) from rfl)⟩
end Go.Proofs.Ytefcmpdnlbpjpaa

namespace Go.Proofs.Ytefcmpdnlbpjpaa
open Go.RowKit Go.Extern

attribute [local go_sem] Oper.semAt_some

/-- what is wrong with the arc at i in the row of v: nought where nothing is. -/
def arcAt (n : Nat) (fa : Nat → Nat) (T W : List Int) (v i : Nat) : Int := arcNo n v i (fa v) (T.getD i 0) (T.getD (i - 1) 0) (W.getD i 0)
/-- the firsts as natural numbers that rise. -/
structure Ups (n m : Nat) (F : List Int) (fa : Nat → Nat) : Prop where
  at' : ∀ v, v ≤ n → F[v]? = some (fa v : Int)
  up : ∀ v, v < n → fa v ≤ fa (v + 1)
  zero : fa 0 = 0
  top : fa n = m
theorem Ups.mono {n m : Nat} {F : List Int} {fa : Nat → Nat} (h : Ups n m F fa) {v u : Nat} (hvu : v ≤ u) (hu : u ≤ n) : fa v ≤ fa u := by
  induction u with
  | zero => obtain rfl : v = 0 := by omega
            exact Nat.le_refl _
  | succ u ih =>
    by_cases e : v = u + 1
    · rw [e]; exact Nat.le_refl _
    · exact Nat.le_trans (ih (by omega) (by omega)) (h.up u (by omega))
theorem Ups.le {n m : Nat} {F : List Int} {fa : Nat → Nat} (h : Ups n m F fa) {v : Nat} (hv : v ≤ n) : fa v ≤ m := by
  have := h.mono hv (Nat.le_refl _)
  rw [h.top] at this
  exact this
/-- checkArc at any arc of arrays in memory. -/
theorem arc_any {w : World} {n m : Nat} {F T W : List Int} {fa : Nat → Nat} {fb fof : Nat} {uo wo : Option Addr} {fc tc wc : Nat} (hF : HasInts w (.slice (some ⟨fb, fof, none⟩) (n + 1) fc) F) (hT : HasInts w (.slice uo m tc) T) (hW : HasInts w (.slice wo m wc) W) (hu : Ups n m F fa) (hN : n ≤ 65536) (hM : m ≤ 262144) {v i : Nat} (hv : v < n) (h1 : fa v ≤ i) (h2 : i < fa (v + 1)) :
    Calls Try.prog 63 #[.agg #[.slice (some ⟨fb, fof, none⟩) (n + 1) fc, .slice uo m tc, .slice wo m wc], .int .i64 v, .int .i64 i] w fun e w' => e = .returned (numV (arcAt n fa T W v i)) ∧ Below w.heap.size w w' := by
  have hi : i < m := Nat.lt_of_lt_of_le h2 (hu.le (by omega))
  obtain ⟨fb', fof', e, hl, hc⟩ := hF.cells (by omega)
  injection e with e
  injection e with e1 e2
  subst e1 e2
  obtain ⟨tb, tof, rfl, ht, hTc⟩ := hT.cells (by omega)
  obtain ⟨wb, wof, rfl, hwl, hWc⟩ := hW.cells (by omega)
  have lT : T.length = m := by obtain ⟨_, _, e, _⟩ := hT; injection e with _ e _; exact e.symm
  have lW : W.length = m := by obtain ⟨_, _, e, _⟩ := hW; injection e with _ e _; exact e.symm
  have gT : ∀ j, j < m → T[j]? = some (T.getD j 0) := fun j hj => by rw [List.getD_eq_getElem?_getD, List.getElem?_eq_getElem (by omega)]; rfl
  have gW : ∀ j, j < m → W[j]? = some (W.getD j 0) := fun j hj => by rw [List.getD_eq_getElem?_getD, List.getElem?_eq_getElem (by omega)]; rfl
  exact checkArc_csr fb fof tb tof wb wof n fc m tc m wc v i (i - 1) (fa v) (T.getD i 0) (T.getD (i - 1) 0) (W.getD i 0) w (by omega) hM hv hi hi (fun hne => ⟨by omega, hTc _ _ (gT _ (by omega))⟩) (hc v _ (hu.at' v (by omega))) (hTc _ _ (gT _ hi)) (hWc _ _ (gW _ hi)) hl ht hwl

set_option maxRecDepth 100000 in
set_option maxHeartbeats 4000000 in
theorem check_arcbad (n m : Nat) (F T W : List Int) (fa : Nat → Nat) (fb fof : Nat) (uo wo : Option Addr) (fc tc wc : Nat) (w : World) (hF : HasInts w (.slice (some ⟨fb, fof, none⟩) (n + 1) fc) F) (hT : HasInts w (.slice uo m tc) T) (hW : HasInts w (.slice wo m wc) W) (hu : Ups n m F fa) (hN : n ≤ 65536) (hM : m ≤ 262144)
    (v0 i0 : Nat) (hv0 : v0 < n) (hi1 : fa v0 ≤ i0) (hi2 : i0 < fa (v0 + 1)) (hok : ∀ v i, v < n → fa v ≤ i → i < fa (v + 1) → i < i0 → arcAt n fa T W v i = 0) (hbad : arcAt n fa T W v0 i0 ≠ 0) :
    Calls Try.prog 41 #[.agg #[.slice (some ⟨fb, fof, none⟩) (n + 1) fc, .slice uo m tc, .slice wo m wc]] w fun e w' => ∃ v, e = .returned v ∧ IsTold w' (arcAt n fa T W v0 i0, [(4, (i0 : Int))]) v ∧ Below w.heap.size w w' := by
  obtain ⟨fb', fof', e, hl, hc⟩ := hF.cells (by omega)
  injection e with e
  injection e with e1 e2
  subst e1 e2
  obtain ⟨W0, hW0⟩ : ∃ W0, w.alloc (.cells #[.slice (some ⟨fb, fof, none⟩) (n + 1) fc, .slice uo m tc, .slice wo m wc] 27) = W0 := ⟨_, rfl⟩
  have HW0 : Hid (w.alloc (.cells #[.slice (some ⟨fb, fof, none⟩) (n + 1) fc, .slice uo m tc, .slice wo m wc] 27) = W0) := hW0
  have hB0 : Below w.heap.size w W0 := by rw [← hW0]; exact (Below.refl _ w).alloc (Nat.le_refl _) _
  have hbx : W0.heap[w.heap.size]? = some (.cells #[.slice (some ⟨fb, fof, none⟩) (n + 1) fc, .slice uo m tc, .slice wo m wc] 27) := by rw [← hW0]; exact heap_new _ _
  have HK : Hid (∀ wx, Below W0.heap.size W0 wx → (wx.cell? ⟨w.heap.size, 0, none⟩ = some (.slice (some ⟨fb, fof, none⟩) (n + 1) fc) ∧ wx.cell? ⟨w.heap.size, 1, none⟩ = some (.slice uo m tc) ∧ wx.cell? ⟨w.heap.size, 2, none⟩ = some (.slice wo m wc)) ∧ w.heap.size < wx.heap.size ∧ fb < wx.heap.size ∧ Below w.heap.size w wx ∧ ∀ v, v ≤ n → wx.cell? ⟨fb, fof + v, none⟩ = some (.int .i64 (fa v))) := fun wx hx => by
    have hg := (hx.block _ (lt_of_get hbx)).trans hbx
    have hb := hB0.trans (hx.mono hB0.size)
    exact ⟨box3 hg, lt_of_get hg, Nat.lt_of_lt_of_le hl hb.size, hb, fun v hv => (hb.cell (p := ⟨fb, _, none⟩) hl).trans (hc v _ (hu.at' v hv))⟩
  have HLE : Hid (∀ wx, Below W0.heap.size W0 wx → Calls Try.prog 61 #[.agg #[.slice (some ⟨fb, fof, none⟩) (n + 1) fc, .slice uo m tc, .slice wo m wc]] wx fun e w' => e = .returned .nilIface ∧ Below W0.heap.size W0 w') := fun wx hx =>
    (lengths_good fb fof uo wo n fc m tc wc F wx (hF.keep (HK.out wx hx).2.2.2.1) (by rw [hu.at' 0 (Nat.zero_le _), hu.zero]; rfl) (by rw [hu.at' n (Nat.le_refl _), hu.top]) hN hM).mono fun e w' ⟨he, hb⟩ => ⟨he, hx.trans (hb.mono hx.size)⟩
  have HNC : Hid (∀ wx, Below W0.heap.size W0 wx → Calls Try.prog 62 #[.agg #[.slice (some ⟨fb, fof, none⟩) (n + 1) fc, .slice uo m tc, .slice wo m wc]] wx fun e w' => e = .returned (.int .i64 n) ∧ Below W0.heap.size W0 w') := fun wx hx =>
    (nodes_calls _ uo wo n fc m tc m wc (by omega) wx).mono fun e w' ⟨he, hb⟩ => ⟨he, hx.trans (hb.mono hx.size)⟩
  have HAR : Hid (∀ wx, Below W0.heap.size W0 wx → ∀ v i : Nat, v < n → fa v ≤ i → i < fa (v + 1) → ∀ c, arcAt n fa T W v i = c → Calls Try.prog 63 #[.agg #[.slice (some ⟨fb, fof, none⟩) (n + 1) fc, .slice uo m tc, .slice wo m wc], .int .i64 v, .int .i64 i] wx fun e w' => e = .returned (numV c) ∧ Below W0.heap.size W0 w') := fun wx hx v i hv h1 h2 c hc =>
    (arc_any (hF.keep (HK.out wx hx).2.2.2.1) (hT.keep (HK.out wx hx).2.2.2.1) (hW.keep (HK.out wx hx).2.2.2.1) hu hN hM hv h1 h2).mono fun e w' ⟨he, hb⟩ => ⟨by rw [he, hc], hx.trans (hb.mono hx.size)⟩
  have HFL : Hid (∀ v, v ≤ n → fa v ≤ 262144) := fun v hv => Nat.le_trans (hu.le hv) hM
  have HUP : Hid (Ups n m F fa) := hu
  have HOK : Hid (type_of% hok) := hok
  obtain ⟨c, hcc⟩ : ∃ c, arcAt n fa T W v0 i0 = c := ⟨_, rfl⟩
  rw [hcc] at hbad ⊢
  have HC : Hid (arcAt n fa T W v0 i0 = c) := hcc
  have HI : Hid (fa v0 ≤ i0 ∧ i0 < fa (v0 + 1)) := ⟨hi1, hi2⟩
  have HNV : Hid (numV c = .iface 59 (.int .i64 c)) := if_neg hbad
  have HN0 : Hid (numV 0 = .nilIface) := rfl
  clear hF hT hW hc hW0 hB0 hbx hl hu hok hcc hi1 hi2
  go_enter Try.func41, Try.ntmps41
  go_wp2_with fail
  rw [HW0.out]
  refine (HLE.out W0 (Below.refl _ _)).mono ?_
  rintro e w1 ⟨rfl, hb1⟩
  have HB1 : Hid (Below W0.heap.size W0 w1) := hb1
  obtain ⟨⟨c0, c1, c2⟩, cs, cf, _, _⟩ := HK.out w1 hb1
  clear hb1
  go_wp2_with fail
  refine (HNC.out w1 HB1.out).mono ?_
  rintro e w2 ⟨rfl, hb2⟩
  have HB2 : Hid (Below W0.heap.size W0 w2) := hb2
  clear hb2 c0 c1 c2 cs cf
  go_wp2_with fail
  go_loopw [15] (fun iv wr => ∃ k : Nat, k ≤ n ∧ iv = .int .i64 k ∧ Below W0.heap.size W0 wr) (fun iv _ => n - (intOf iv).toNat)
  case atStart => exact ⟨0, Nat.zero_le _, rfl, HB2.out⟩
  case round =>
    obtain ⟨k, hk, rfl, hb⟩ := hrel
    have HBR : Hid (Below W0.heap.size W0 wr) := hb
    obtain ⟨⟨c0, c1, c2⟩, cs, cf, _, hc⟩ := HK.out wr hb
    by_cases hlt : k < n
    · obtain ⟨x, hx⟩ : ∃ x, fa k = x := ⟨_, rfl⟩
      obtain ⟨y, hy⟩ : ∃ y, fa (k + 1) = y := ⟨_, rfl⟩
      have q0 := hc k (by omega)
      have q1 := hc (k + 1) (by omega)
      have hxy : ¬ (y : Int) < (x : Int) := by have := HUP.out.up k hlt; omega
      rw [hx] at q0
      rw [hy] at q1
      have e1 : (k : Int) < (n : Int) + 1 := by omega
      have e2 : (k : Int) + 1 < (n : Int) + 1 := by omega
      have e3 : (0 : Int) ≤ (k : Int) := by omega
      have e4 : (0 : Int) ≤ (k : Int) + 1 := by omega
      have e5 : IntKind.i64.wrap ((k : Int) + 1) = (k : Int) + 1 := by rw [IntKind.wrap_i64] <;> omega
      clear hc hb hx hy
      go_wp2
      go_quiet (fail)
      go_wp2
      go_roundw
      case rel => exact ⟨k + 1, by omega, by go_num, ⟨HBR.out.os, HBR.out.tape, HBR.out.output, HBR.out.size, HBR.out.block⟩⟩
      case measure => simp [intOf]; omega
    · clear hc hb
      generalize hwr : wr = w3 at *
      clear hwr
      go_wp2_with fail
      refine (HNC.out w3 HBR.out).mono ?_
      rintro e w4 ⟨rfl, hb4⟩
      have HB4 : Hid (Below W0.heap.size W0 w4) := hb4
      clear hb4 c0 c1 c2 cs cf
      go_wp2_with fail
      go_loopw [36] (fun iv wr => ∃ k : Nat, k ≤ v0 ∧ iv = .int .i64 k ∧ Below W0.heap.size W0 wr) (fun iv _ => n - (intOf iv).toNat)
      case atStart => exact ⟨0, Nat.zero_le _, rfl, HB4.out⟩
      case round =>
        obtain ⟨k, hk, rfl, hb⟩ := hrel
        have HBR : Hid (Below W0.heap.size W0 wr) := hb
        obtain ⟨⟨c0, c1, c2⟩, cs, cf, _, hc⟩ := HK.out wr hb
        have hlt : k < n := by omega
        obtain ⟨x, hx⟩ : ∃ x, fa k = x := ⟨_, rfl⟩
        obtain ⟨y, hy⟩ : ∃ y, fa (k + 1) = y := ⟨_, rfl⟩
        have q0 := hc k (by omega)
        rw [hx] at q0
        have hyi : k < v0 → y ≤ i0 := fun hkv => by have h1 := HUP.out.mono (show k + 1 ≤ v0 by omega) (by omega); have h2 := HI.out.1; omega
        have hxi : x ≤ i0 := by have h1 := HUP.out.mono hk (by omega); have h2 := HI.out.1; omega
        have HX : Hid (fa k = x ∧ fa (k + 1) = y ∧ x ≤ y ∧ y ≤ 262144 ∧ (k < v0 → y ≤ i0) ∧ x ≤ i0) := ⟨hx, hy, by have := HUP.out.up k hlt; omega, by have := HFL.out (k + 1) (by omega); omega, hyi, hxi⟩
        have e1 : (k : Int) < (n : Int) + 1 := by omega
        have e2 : (k : Int) + 1 < (n : Int) + 1 := by omega
        have e3 : (0 : Int) ≤ (k : Int) := by omega
        have e4 : (0 : Int) ≤ (k : Int) + 1 := by omega
        have e5 : IntKind.i64.wrap ((k : Int) + 1) = (k : Int) + 1 := by rw [IntKind.wrap_i64] <;> omega
        have e6 : (k : Int) < (n : Int) := by omega
        clear hc hb hx hy hyi hxi
        generalize hwr : wr = w5 at *
        clear hwr
        go_wp2_with fail
        go_loopw [6] (fun iv wr => ∃ i : Nat, x ≤ i ∧ i ≤ y ∧ i ≤ i0 ∧ iv = .int .i64 i ∧ Below W0.heap.size W0 wr) (fun iv _ => y - (intOf iv).toNat)
        case atStart => exact ⟨x, Nat.le_refl _, HX.out.2.2.1, HX.out.2.2.2.2.2, rfl, HBR.out⟩
        case round =>
          obtain ⟨i, hi1, hi2, hi3, rfl, hb⟩ := hrel
          have HBI : Hid (Below W0.heap.size W0 wr) := hb
          clear c0 c1 c2 cs cf q0
          obtain ⟨⟨c0, c1, c2⟩, cs, cf, _, hc⟩ := HK.out wr hb
          have q1 := hc (k + 1) (by omega)
          rw [HX.out.2.1] at q1
          have hy6 := HX.out.2.2.2.1
          clear hc hb
          by_cases hiy : i < y
          · by_cases hi0 : i < i0
            · have HAI : Hid (type_of% (HAR.out wr HBI.out k i hlt (by rw [HX.out.1]; exact hi1) (by rw [HX.out.2.1]; exact hiy) 0 (HOK.out k i hlt (by rw [HX.out.1]; exact hi1) (by rw [HX.out.2.1]; exact hiy) hi0))) := HAR.out wr HBI.out k i hlt (by rw [HX.out.1]; exact hi1) (by rw [HX.out.2.1]; exact hiy) 0 (HOK.out k i hlt (by rw [HX.out.1]; exact hi1) (by rw [HX.out.2.1]; exact hiy) hi0)
              go_wp2_with (go_at_call 63; refine HAI.out.mono ?_; rintro e w6 ⟨he, hb6⟩; rw [HN0.out] at he; subst he; have HB6 : Hid (Below W0.heap.size W0 w6) := hb6; clear hb6)
              go_roundw
              case rel => exact ⟨i + 1, by omega, by omega, by omega, by go_num, HB6.out⟩
              case measure => simp [intOf]; omega
            · obtain rfl : i = i0 := by omega
              have hkv : k = v0 := by
                rcases Nat.lt_or_ge k v0 with h | h
                · have := HX.out.2.2.2.2.1 h; omega
                · omega
              subst hkv
              have HAI : Hid (type_of% (HAR.out wr HBI.out k i hlt (by rw [HX.out.1]; exact hi1) (by rw [HX.out.2.1]; exact hiy) c HC.out)) := HAR.out wr HBI.out k i hlt (by rw [HX.out.1]; exact hi1) (by rw [HX.out.2.1]; exact hiy) c HC.out
              go_wp2_with (first
                | (go_at_call 63; refine HAI.out.mono ?_; rintro e w6 ⟨he, hb6⟩; rw [HNV.out] at he; subst he; have HB6 : Hid (Below W0.heap.size W0 w6) := hb6; clear hb6)
                | (go_at_call 19; refine (at_some _ _ _ _ _).mono ?_; rintro e w7 ⟨rfl, hw7⟩))
              have HBW := (HK.out w6 HB6.out).2.2.2.1
              go_ret
              subst hw7
              refine ⟨_, rfl, ?_, HBW.alloc HBW.size _⟩
              exact Or.inr ⟨hbad, isErr_new (p := (4, (i : Int))) (show IsErr _ (.iface 59 (.int .i64 c)) [] (.iface 59 (.int .i64 c)) from rfl)⟩
          · have hkv : k < v0 := by
              rcases Nat.lt_or_ge k v0 with h | h
              · exact h
              · obtain rfl : k = v0 := by omega
                have h1 := HI.out.2
                rw [HX.out.2.1] at h1
                omega
            go_wp2
            go_roundw
            case rel => exact ⟨k + 1, by omega, by go_num, HBI.out⟩
            case measure => simp [intOf]; omega
end Go.Proofs.Ytefcmpdnlbpjpaa

namespace Go.Proofs.Ytefcmpdnlbpjpaa
open Go.RowKit Go.Extern

attribute [local go_sem] Oper.semAt_some

set_option maxRecDepth 100000 in
set_option maxHeartbeats 2000000 in
theorem check_len (fo uo wo : Option Addr) (fl fc tl tc wl wc : Nat) (w : World) (c : Int) (h : ∀ wx, Below w.heap.size w wx → Calls Try.prog 61 #[.agg #[.slice fo fl fc, .slice uo tl tc, .slice wo wl wc]] wx fun e w' => e = .returned (.iface 59 (.int .i64 c)) ∧ Below wx.heap.size wx w') :
    Calls Try.prog 41 #[.agg #[.slice fo fl fc, .slice uo tl tc, .slice wo wl wc]] w fun e w' => e = .returned (.iface 59 (.int .i64 c)) ∧ Below w.heap.size w w' := by
  obtain ⟨W0, hW0⟩ : ∃ W0, w.alloc (.cells #[.slice fo fl fc, .slice uo tl tc, .slice wo wl wc] 27) = W0 := ⟨_, rfl⟩
  have HW0 : Hid (w.alloc (.cells #[.slice fo fl fc, .slice uo tl tc, .slice wo wl wc] 27) = W0) := hW0
  have hB0 : Below w.heap.size w W0 := by rw [← hW0]; exact (Below.refl _ w).alloc (Nat.le_refl _) _
  have HL : Hid (type_of% (h W0 hB0)) := h W0 hB0
  have HB0 : Hid (Below w.heap.size w W0) := hB0
  clear h hW0 hB0
  go_enter Try.func41, Try.ntmps41
  go_wp2_with fail
  rw [HW0.out]
  refine HL.out.mono ?_
  rintro e w1 ⟨rfl, hb1⟩
  have HB1 : Hid (Below w.heap.size w w1) := HB0.out.trans (hb1.mono HB0.out.size)
  clear hb1
  go_wp2
  go_ret
  exact ⟨rfl, HB1.out⟩

end Go.Proofs.Ytefcmpdnlbpjpaa
