/- csr.Check where the numbers of First fall: the error's number and place. -/
import Derived.Test.YtnkfggccahohpaaDoorCsrChk
namespace Go.Proofs.YtnkfggccahohpaaDoor
open Go.RowKit Go.Extern

attribute [local go_sem] Oper.semAt_some

set_option maxRecDepth 100000 in
set_option maxHeartbeats 4000000 in
theorem check_falls (n m : Nat) (F : List Int) (fb fof : Nat) (uo wo : Option Addr) (fc tc wc : Nat) (w : World) (hF : HasInts w (.slice (some ⟨fb, fof, none⟩) (n + 1) fc) F) (h0 : F[0]? = some 0) (hn : F[n]? = some (m : Int)) (hN : n ≤ 65536) (hM : m ≤ 262144)
    (k0 : Nat) (hk0 : k0 < n) (x y : Int) (hx : F[k0]? = some x) (hy : F[k0 + 1]? = some y) (hxy : y < x) (hmono : ∀ (u : Nat) (a b : Int), u < k0 → F[u]? = some a → F[u + 1]? = some b → a ≤ b) :
    Calls Tryd.prog 44 #[.agg #[.slice (some ⟨fb, fof, none⟩) (n + 1) fc, .slice uo m tc, .slice wo m wc]] w fun e w' => ∃ v, e = .returned v ∧ IsTold w' (14, [(3, (k0 : Int))]) v ∧ Below w.heap.size w w' := by
  obtain ⟨fb', fof', e, hl, hc⟩ := hF.cells (by omega)
  injection e with e
  injection e with e1 e2
  subst e1 e2
  have hlen : F.length = n + 1 := by obtain ⟨_, _, e, _⟩ := hF; injection e with _ e _; exact e.symm
  obtain ⟨W0, hW0⟩ : ∃ W0, w.alloc (.cells #[.slice (some ⟨fb, fof, none⟩) (n + 1) fc, .slice uo m tc, .slice wo m wc] 32) = W0 := ⟨_, rfl⟩
  have HW0 : Hid (w.alloc (.cells #[.slice (some ⟨fb, fof, none⟩) (n + 1) fc, .slice uo m tc, .slice wo m wc] 32) = W0) := hW0
  have hB0 : Below w.heap.size w W0 := by rw [← hW0]; exact (Below.refl _ w).alloc (Nat.le_refl _) _
  have hbx : W0.heap[w.heap.size]? = some (.cells #[.slice (some ⟨fb, fof, none⟩) (n + 1) fc, .slice uo m tc, .slice wo m wc] 32) := by rw [← hW0]; exact heap_new _ _
  have HK : Hid (∀ wx, Below W0.heap.size W0 wx → (wx.cell? ⟨w.heap.size, 0, none⟩ = some (.slice (some ⟨fb, fof, none⟩) (n + 1) fc) ∧ wx.cell? ⟨w.heap.size, 1, none⟩ = some (.slice uo m tc) ∧ wx.cell? ⟨w.heap.size, 2, none⟩ = some (.slice wo m wc)) ∧ w.heap.size < wx.heap.size ∧ fb < wx.heap.size ∧ Below w.heap.size w wx ∧ ∀ (v : Nat) (a : Int), F[v]? = some a → wx.cell? ⟨fb, fof + v, none⟩ = some (.int .i64 a)) := fun wx hx => by
    have hg := (hx.block _ (lt_of_get hbx)).trans hbx
    have hb := hB0.trans (hx.mono hB0.size)
    exact ⟨box3 hg, lt_of_get hg, Nat.lt_of_lt_of_le hl hb.size, hb, fun v a hv => (hb.cell (p := ⟨fb, _, none⟩) hl).trans (hc v a hv)⟩
  have HLE : Hid (∀ wx, Below W0.heap.size W0 wx → Calls Tryd.prog 69 #[.agg #[.slice (some ⟨fb, fof, none⟩) (n + 1) fc, .slice uo m tc, .slice wo m wc]] wx fun e w' => e = .returned .nilIface ∧ Below W0.heap.size W0 w') := fun wx hx =>
    (lengths_good fb fof uo wo n fc m tc wc F wx (hF.keep (HK.out wx hx).2.2.2.1) h0 hn hN hM).mono fun e w' ⟨he, hb⟩ => ⟨he, hx.trans (hb.mono hx.size)⟩
  have HNC : Hid (∀ wx, Below W0.heap.size W0 wx → Calls Tryd.prog 70 #[.agg #[.slice (some ⟨fb, fof, none⟩) (n + 1) fc, .slice uo m tc, .slice wo m wc]] wx fun e w' => e = .returned (.int .i64 n) ∧ Below W0.heap.size W0 w') := fun wx hx =>
    (nodes_calls _ uo wo n fc m tc m wc (by omega) wx).mono fun e w' ⟨he, hb⟩ => ⟨he, hx.trans (hb.mono hx.size)⟩
  have HMO : Hid (type_of% hmono) := hmono
  have HXY : Hid (F[k0]? = some x ∧ F[k0 + 1]? = some y) := ⟨hx, hy⟩
  have HLN : Hid (F.length = n + 1) := hlen
  clear hF hc hW0 hB0 hbx hl h0 hn hx hy hmono hlen
  go_enter Tryd.func44, Tryd.ntmps44
  go_wp2_with fail
  rw [HW0.out]
  refine (HLE.out W0 (Below.refl _ _)).mono ?_
  rintro e w1 ⟨rfl, hb1⟩
  have HB1 : Hid (Below W0.heap.size W0 w1) := hb1
  obtain ⟨⟨c0, c1, c2⟩, cs, cf, _, _⟩ := HK.out w1 hb1
  clear hb1
  go_wp2_with fail
  refine (HNC.out w1 HB1.out).mono ?_
  rintro e w2 ⟨rfl, hb2⟩
  have HB2 : Hid (Below W0.heap.size W0 w2) := hb2
  clear hb2 c0 c1 c2 cs cf
  go_wp2_with fail
  go_loopw [15] (fun iv wr => ∃ k : Nat, k ≤ k0 ∧ iv = .int .i64 k ∧ Below W0.heap.size W0 wr) (fun iv _ => n - (intOf iv).toNat)
  case atStart => exact ⟨0, Nat.zero_le _, rfl, HB2.out⟩
  case round =>
    obtain ⟨k, hk, rfl, hb⟩ := hrel
    have HBR : Hid (Below W0.heap.size W0 wr) := hb
    obtain ⟨⟨c0, c1, c2⟩, cs, cf, _, hc⟩ := HK.out wr hb
    have e1 : (k : Int) < (n : Int) + 1 := by omega
    have e2 : (k : Int) + 1 < (n : Int) + 1 := by omega
    have e3 : (0 : Int) ≤ (k : Int) := by omega
    have e4 : (0 : Int) ≤ (k : Int) + 1 := by omega
    have e5 : IntKind.i64.wrap ((k : Int) + 1) = (k : Int) + 1 := by rw [IntKind.wrap_i64] <;> omega
    have e6 : (k : Int) < (n : Int) := by omega
    by_cases hlt : k < k0
    · obtain ⟨a, ha⟩ : ∃ a, F[k]? = some a := ⟨F[k]'(by have := HLN.out; omega), List.getElem?_eq_getElem _⟩
      obtain ⟨b, hbb⟩ : ∃ b, F[k + 1]? = some b := ⟨F[k + 1]'(by have := HLN.out; omega), List.getElem?_eq_getElem _⟩
      have q0 := hc k a ha
      have q1 := hc (k + 1) b hbb
      have hab : ¬ b < a := by have := HMO.out k a b hlt ha hbb; omega
      clear hc hb ha hbb
      go_wp2
      go_quiet (fail)
      go_wp2
      go_roundw
      case rel => exact ⟨k + 1, by omega, by go_num, ⟨HBR.out.os, HBR.out.tape, HBR.out.output, HBR.out.size, HBR.out.block⟩⟩
      case measure => simp [intOf]; omega
    · obtain rfl : k = k0 := by omega
      have q0 := hc k x HXY.out.1
      have q1 := hc (k + 1) y HXY.out.2
      have HBW : Hid (∀ q, Below w.heap.size w (wr.drewN q)) := fun q => by
        have h := (HK.out wr HBR.out).2.2.2.1
        exact ⟨h.os, h.tape, h.output, h.size, h.block⟩
      clear hc hb
      go_wp2
      go_quiet (fail)
      go_wp2_with (go_at_call 71; refine (at_some _ _ _ _ _).mono ?_; rintro e w3 ⟨rfl, hw3⟩)
      go_ret
      subst hw3
      refine ⟨_, rfl, ?_, (HBW.out _).alloc (HBW.out _).size _⟩
      exact Or.inr ⟨by simp, isErr_new (p := (3, (k : Int))) (show IsErr _ (.iface 82 (.int .i64 14)) [] (.iface 82 (.int .i64 14)) from rfl)⟩
end Go.Proofs.YtnkfggccahohpaaDoor
