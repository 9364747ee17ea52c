/- walk.step, whatever the right arrays; walk.checkList where it errs. -/
import Derived.Test.YtdfjmfgbdnpkbaaDoorWkH
import Derived.Test.YtdfjmfgbdnpkbaaDoorCsrCk
namespace Go.Proofs.YtdfjmfgbdnpkbaaDoor
open Go.RowKit Go.Extern

attribute [local go_sem] Oper.semAt_some

set_option maxRecDepth 100000 in
set_option maxHeartbeats 4000000 in
theorem bs_none (o : Option Addr) (c : Nat) (x : Int) (w : World) : Calls Tryd.prog 42 #[.slice o 0 c, .int .i64 x] w fun e w' => e = .returned (.tuple #[.int .i64 0, .bool false]) ∧ w' = w := by
  go_enter Tryd.func42, Tryd.ntmps42
  go_wp2_with fail
  go_loopw [7, 8] (fun a b wr => a = .int .i64 0 ∧ b = .int .i64 0 ∧ wr = w) (fun _ _ _ => 0)
  case atStart => exact ⟨rfl, rfl, rfl⟩
  case round =>
    obtain ⟨rfl, rfl, rfl⟩ := hrel
    go_wp2
    go_ret2
    exact ⟨rfl, rfl⟩

theorem cut_none (o : Option Addr) (c : Nat) : ∃ o', ∀ w, (Instr.slice 22 (.slice o 0 c) (some (.int .i64 0)) (some (.int .i64 0)) none).run Tryd.prog w = .ok (.slice o' 0 c) w := by
  refine ⟨if c = 0 then o else o.map (·.add 0), fun w => ?_⟩
  rw [run_slice_lh (ht := Tryd.elemI) (h0 := by omega) (h1 := by omega) (h2 := by omega), Tryd.sizeI]
  simp [sliced]

set_option maxRecDepth 100000 in
set_option maxHeartbeats 4000000 in
theorem step_none (n : Nat) (fo uo wo : Option Addr) (fc tc wc : Nat) (w : World) (hN : n ≤ 65536) (h : CsrIn w n [] fo uo wo fc tc wc) (p : Nat) (hp : p < n) (u : Int) :
    Calls Tryd.prog 28 #[.agg #[.slice fo (n + 1) fc, .slice uo 0 tc, .slice wo 0 wc], .int .i64 (p : Int), .int .i64 u] w fun e w' => e = .returned (.tuple #[.int .u64 0, .bool false]) ∧ Below w.heap.size w w' := by
  obtain ⟨fb, fof, rfl, hl, hc⟩ := h.first
  obtain ⟨W0, hW0⟩ : ∃ W0, w.alloc (.cells #[.slice (some ⟨fb, fof, none⟩) (n + 1) fc, .slice uo 0 tc, .slice wo 0 wc] 32) = W0 := ⟨_, rfl⟩
  have HW0 : Hid (w.alloc (.cells #[.slice (some ⟨fb, fof, none⟩) (n + 1) fc, .slice uo 0 tc, .slice wo 0 wc] 32) = W0) := hW0
  have hB0 : Below w.heap.size w W0 := by rw [← hW0]; exact (Below.refl _ w).alloc (Nat.le_refl _) _
  have k1 : W0.heap[w.heap.size]? = some (.cells #[.slice (some ⟨fb, fof, none⟩) (n + 1) fc, .slice uo 0 tc, .slice wo 0 wc] 32) := by rw [← hW0]; exact heap_new _ _
  obtain ⟨c0, c1, c2⟩ := box3 k1
  have cs := lt_of_get k1
  have cf : fb < W0.heap.size := Nat.lt_of_lt_of_le hl hB0.size
  have f0 : ∀ v, firstAt [] v = 0 := fun v => rfl
  have q0 : W0.cell? ⟨fb, fof + p, none⟩ = some (.int .i64 0) := (hB0.cell (p := ⟨fb, _, none⟩) hl).trans (hc p (by omega))
  have q1 : W0.cell? ⟨fb, fof + (p + 1), none⟩ = some (.int .i64 0) := (hB0.cell (p := ⟨fb, _, none⟩) hl).trans (hc (p + 1) (by omega))
  obtain ⟨o', ho'⟩ := cut_none uo tc
  have HB0 : Hid (Below w.heap.size w W0) := hB0
  have e1 : (p : Int) < (n : Int) + 1 := by omega
  have e2 : (p : Int) + 1 < (n : Int) + 1 := by omega
  have e3 : (0 : Int) ≤ (p : Int) := by omega
  have e4 : (0 : Int) ≤ (p : Int) + 1 := by omega
  have e5 : IntKind.i64.wrap ((p : Int) + 1) = (p : Int) + 1 := by rw [IntKind.wrap_i64] <;> omega
  clear h hc hW0 hB0 k1 hl f0
  go_enter Tryd.func28, Tryd.ntmps28
  go_wp2_with fail
  rw [HW0.out]
  go_quiet (fail)
  have HBQ : Hid (Below w.heap.size w (W0.drewN nq)) := below_drewN HB0.out nq
  clear q0 q1
  go_wp2_with (go_at_call 42; refine (bs_none _ _ _ _).mono ?_; rintro e w2 ⟨rfl, rfl⟩)
  go_ret2
  exact ⟨rfl, HBQ.out⟩

theorem step_any (n : Nat) (zs : List (Int × Int × Int)) (fo uo wo : Option Addr) (fc tc wc : Nat) (w : World) (hz : Fine n zs) (h : CsrIn w n zs fo uo wo fc tc wc) (htc : zs.length ≤ tc) (p : Nat) (hp : p < n) (u r : Int) (ok : Bool) (hr : 0 ≤ r ∧ r ≤ 2147483647) (hF : StepIs zs p u r ok) :
    Calls Tryd.prog 28 #[.agg #[.slice fo (n + 1) fc, .slice uo zs.length tc, .slice wo zs.length wc], .int .i64 (p : Int), .int .i64 u] w fun e w' => e = .returned (.tuple #[.int .u64 r, .bool ok]) ∧ Below w.heap.size w w' := by
  cases zs with
  | nil =>
    rcases hF with ⟨_, hm⟩ | ⟨rfl, rfl, _⟩
    · cases hm
    · exact step_none n fo uo wo fc tc wc w hz.few h p hp u
  | cons z r' =>
    obtain ⟨tb, tof, wb, wof, rfl, _⟩ := h.arc (by simp)
    exact step_good n _ fo wo tb tof fc tc wc w hz h htc p hp u r ok hr hF

set_option maxRecDepth 100000 in
set_option maxHeartbeats 4000000 in
theorem checkList_empty (n : Nat) (zs : List (Int × Int × Int)) (fo uo wo : Option Addr) (fc tc wc : Nat) (w : World) (hz : Fine n zs) (h : CsrIn w n zs fo uo wo fc tc wc) (no : Option Addr) (nc : Nat) :
    Calls Tryd.prog 27 #[.agg #[.slice fo (n + 1) fc, .slice uo zs.length tc, .slice wo zs.length wc], .slice no 0 nc] w fun e w' => e = .returned (.iface 52 (.int .i64 5)) ∧ Below w.heap.size w w' := by
  obtain ⟨W0, hW0⟩ : ∃ W0, w.alloc (.cells #[.slice fo (n + 1) fc, .slice uo zs.length tc, .slice wo zs.length wc] 32) = W0 := ⟨_, rfl⟩
  have HW0 : Hid (w.alloc (.cells #[.slice fo (n + 1) fc, .slice uo zs.length tc, .slice wo zs.length wc] 32) = W0) := hW0
  have hB0 : Below w.heap.size w W0 := by rw [← hW0]; exact (Below.refl _ w).alloc (Nat.le_refl _) _
  have HB0 : Hid (Below w.heap.size w W0) := hB0
  have HCK : Hid (Calls Tryd.prog 41 #[.agg #[.slice fo (n + 1) fc, .slice uo zs.length tc, .slice wo zs.length wc]] W0 fun e w' => e = .returned .nilIface ∧ Below W0.heap.size W0 w') := check_good n zs fo uo wo fc tc wc W0 hz (h.keep hB0)
  clear h hW0 hB0 hz
  go_enter Tryd.func27, Tryd.ntmps27
  go_wp2_with fail
  rw [HW0.out]
  refine HCK.out.mono ?_
  rintro e w1 ⟨rfl, hb1⟩
  have HB1 : Hid (Below w.heap.size w w1) := btr HB0.out hb1
  clear hb1
  go_wp2
  go_ret
  exact ⟨rfl, HB1.out⟩

set_option maxRecDepth 100000 in
set_option maxHeartbeats 4000000 in
theorem checkList_node (n : Nat) (zs : List (Int × Int × Int)) (fo uo wo : Option Addr) (fc tc wc : Nat) (w : World) (hz : Fine n zs) (h : CsrIn w n zs fo uo wo fc tc wc) (no : Option Addr) (nc : Nat) (vs : List Int) (hv : HasInts w (.slice no vs.length nc) vs) (hvl : vs.length ≤ 1000000) (k0 : Nat) (v0 : Int) (hk0 : vs[k0]? = some v0) (hbad : ¬ (0 ≤ v0 ∧ v0 < (n : Int))) (hn : ∀ j v, j < k0 → vs[j]? = some v → 0 ≤ v ∧ v < (n : Int)) :
    Calls Tryd.prog 27 #[.agg #[.slice fo (n + 1) fc, .slice uo zs.length tc, .slice wo zs.length wc], .slice no vs.length nc] w fun e w' => ∃ v, e = .returned v ∧ IsTold w' (7, [(3, (k0 : Int))]) v ∧ Below w.heap.size w w' := by
  obtain ⟨W0, hW0⟩ : ∃ W0, w.alloc (.cells #[.slice fo (n + 1) fc, .slice uo zs.length tc, .slice wo zs.length wc] 32) = W0 := ⟨_, rfl⟩
  have HW0 : Hid (w.alloc (.cells #[.slice fo (n + 1) fc, .slice uo zs.length tc, .slice wo zs.length wc] 32) = W0) := hW0
  have hB0 : Below w.heap.size w W0 := by rw [← hW0]; exact (Below.refl _ w).alloc (Nat.le_refl _) _
  have hbx : W0.heap[w.heap.size]? = some (.cells #[.slice fo (n + 1) fc, .slice uo zs.length tc, .slice wo zs.length wc] 32) := by rw [← hW0]; exact heap_new _ _
  have hN := hz.few
  have hkl := (List.getElem?_eq_some_iff.1 hk0).1
  have hp : ((vs.length : Int) == 0) = false := by
    rw [beq_eq_false_iff_ne]
    omega
  have HK : Hid (∀ wx, Below W0.heap.size W0 wx → (wx.cell? ⟨w.heap.size, 0, none⟩ = some (.slice fo (n + 1) fc) ∧ wx.cell? ⟨w.heap.size, 1, none⟩ = some (.slice uo zs.length tc) ∧ wx.cell? ⟨w.heap.size, 2, none⟩ = some (.slice wo zs.length wc)) ∧ w.heap.size < wx.heap.size ∧ Below w.heap.size w wx ∧ HasInts wx (.slice no vs.length nc) vs) := fun wx hx => by
    have hg := (hx.block _ (lt_of_get hbx)).trans hbx
    have hb := hB0.trans (hx.mono hB0.size)
    exact ⟨box3 hg, lt_of_get hg, hb, hv.keep hb⟩
  have HCK : Hid (Calls Tryd.prog 41 #[.agg #[.slice fo (n + 1) fc, .slice uo zs.length tc, .slice wo zs.length wc]] W0 fun e w' => e = .returned .nilIface ∧ Below W0.heap.size W0 w') := check_good n zs fo uo wo fc tc wc W0 hz (h.keep hB0)
  have HN : Hid (type_of% hn) := hn
  have HK0 : Hid (vs[k0]? = some v0) := hk0
  have hw : IntKind.i64.wrap ((n : Int) + 1 - 1) = (n : Int) := by rw [IntKind.wrap_i64] <;> omega
  clear h hW0 hB0 hbx hz hv hn hk0
  go_enter Tryd.func27, Tryd.ntmps27
  go_wp2_with fail
  rw [HW0.out]
  refine HCK.out.mono ?_
  rintro e w1 ⟨rfl, hb1⟩
  have HB1 : Hid (Below W0.heap.size W0 w1) := hb1
  clear hb1
  go_wp2_with fail
  go_loopw [19] (fun iv wr => ∃ k : Nat, k ≤ k0 ∧ iv = .int .i64 k ∧ wr = w1) (fun iv _ => vs.length - (intOf iv).toNat)
  case atStart => exact ⟨0, Nat.zero_le _, rfl, rfl⟩
  case round =>
    obtain ⟨k, hk, rfl, rfl⟩ := hrel
    obtain ⟨⟨c0, c1, c2⟩, cs, hbw, hV⟩ := HK.out wr HB1.out
    have HBZ : Hid (Below w.heap.size w wr) := hbw
    clear hbw
    by_cases hlt : k < k0
    · obtain ⟨v, hv⟩ : ∃ v, vs[k]? = some v := ⟨vs[k], List.getElem?_eq_getElem (by omega)⟩
      obtain ⟨b, off, hno, hbl, q0⟩ := hV.at hv
      subst hno
      have i1 : (k : Int) < (vs.length : Int) := by omega
      have i2 : (0 : Int) ≤ (k : Int) := by omega
      obtain ⟨v1, v2⟩ := HN.out k v hlt hv
      have v3 : ¬ v < 0 := by omega
      have v4 : ¬ (n : Int) ≤ v := by omega
      clear hV hv
      go_wp2
      go_roundw
      case rel => exact ⟨k + 1, by omega, by go_num, trivial⟩
      case measure => simp [intOf]; omega
    · obtain rfl : k = k0 := by omega
      obtain ⟨b, off, hno, hbl, q0⟩ := hV.at HK0.out
      subst hno
      have i1 : (k : Int) < (vs.length : Int) := by omega
      have i2 : (0 : Int) ≤ (k : Int) := by omega
      clear hV hlt
      by_cases v3 : v0 < 0
      · go_wp2_with (go_at_call 29; refine (at_some _ _ _ _ _).mono ?_; rintro e w9 ⟨rfl, rfl⟩)
        go_ret
        exact ⟨_, rfl, Or.inr ⟨by simp, isErr_new (p := (3, (k : Int))) (show IsErr wr (.iface 52 (.int .i64 7)) [] (.iface 52 (.int .i64 7)) from rfl)⟩, HBZ.out.alloc HBZ.out.size _⟩
      · have v4 : (n : Int) ≤ v0 := by omega
        go_wp2_with (go_at_call 29; refine (at_some _ _ _ _ _).mono ?_; rintro e w9 ⟨rfl, rfl⟩)
        go_ret
        exact ⟨_, rfl, Or.inr ⟨by simp, isErr_new (p := (3, (k : Int))) (show IsErr wr (.iface 52 (.int .i64 7)) [] (.iface 52 (.int .i64 7)) from rfl)⟩, HBZ.out.alloc HBZ.out.size _⟩
end Go.Proofs.YtdfjmfgbdnpkbaaDoor
