/- walk.checkList at right arrays and a list of their nodes; walk.Length of a walk. walk.Length of a walk: the sum of its weights. walk.step, whatever the right arrays; walk.checkList where it errs. walk.Length, whatever the arrays and the list. What is simple: it begins and ends as the list, goes by its neighbours, is a walk where the list is one, and no longer. -/
import Derived.Test.YtefcmpdnlbpjpaaWkF
import Derived.Test.YtefcmpdnlbpjpaaWkE
import Derived.Deep.RegionHeld3
import Derived.Test.YtefcmpdnlbpjpaaCsrY
namespace Go.Proofs.Ytefcmpdnlbpjpaa
open Go.RowKit Go.Extern

attribute [local go_sem] Oper.semAt_some

set_option maxRecDepth 100000 in
set_option maxHeartbeats 4000000 in
theorem checkList_good (n : Nat) (zs : List (Int × Int × Int)) (fo uo wo : Option Addr) (fc tc wc : Nat) (w : World) (hz : Fine n zs) (h : CsrIn w n zs fo uo wo fc tc wc) (no : Option Addr) (nc : Nat) (vs : List Int) (hv : HasInts w (.slice no vs.length nc) vs) (hvl : vs.length ≤ 1000000) (h0 : vs ≠ []) (hn : ∀ v ∈ vs, 0 ≤ v ∧ v < (n : Int)) :
    Calls Try.prog 17 #[.agg #[.slice fo (n + 1) fc, .slice uo zs.length tc, .slice wo zs.length wc], .slice no vs.length nc] w fun e w' => e = .returned .nilIface ∧ Below w.heap.size w w' := by
  obtain ⟨W0, hW0⟩ : ∃ W0, w.alloc (.cells #[.slice fo (n + 1) fc, .slice uo zs.length tc, .slice wo zs.length wc] 27) = W0 := ⟨_, rfl⟩
  have HW0 : Hid (w.alloc (.cells #[.slice fo (n + 1) fc, .slice uo zs.length tc, .slice wo zs.length wc] 27) = W0) := hW0
  have hB0 : Below w.heap.size w W0 := by rw [← hW0]; exact (Below.refl _ w).alloc (Nat.le_refl _) _
  have hbx : W0.heap[w.heap.size]? = some (.cells #[.slice fo (n + 1) fc, .slice uo zs.length tc, .slice wo zs.length wc] 27) := by rw [← hW0]; exact heap_new _ _
  have hN := hz.few
  have hp : ((vs.length : Int) == 0) = false := by
    have := List.length_pos_iff.2 h0
    simp
    exact h0
  have HK : Hid (∀ wx, Below W0.heap.size W0 wx → (wx.cell? ⟨w.heap.size, 0, none⟩ = some (.slice fo (n + 1) fc) ∧ wx.cell? ⟨w.heap.size, 1, none⟩ = some (.slice uo zs.length tc) ∧ wx.cell? ⟨w.heap.size, 2, none⟩ = some (.slice wo zs.length wc)) ∧ w.heap.size < wx.heap.size ∧ Below w.heap.size w wx ∧ HasInts wx (.slice no vs.length nc) vs) := fun wx hx => by
    have hg := (hx.block _ (lt_of_get hbx)).trans hbx
    have hb := hB0.trans (hx.mono hB0.size)
    exact ⟨box3 hg, lt_of_get hg, hb, hv.keep hb⟩
  have HCK : Hid (Calls Try.prog 41 #[.agg #[.slice fo (n + 1) fc, .slice uo zs.length tc, .slice wo zs.length wc]] W0 fun e w' => e = .returned .nilIface ∧ Below W0.heap.size W0 w') := check_good n zs fo uo wo fc tc wc W0 hz (h.keep hB0)
  have HN : Hid (type_of% hn) := hn
  have hw : IntKind.i64.wrap ((n : Int) + 1 - 1) = (n : Int) := by rw [IntKind.wrap_i64] <;> omega
  clear h hW0 hB0 hbx hz hv hn h0
  go_enter Try.func17, Try.ntmps17
  go_wp2_with fail
  rw [HW0.out]
  refine HCK.out.mono ?_
  rintro e w1 ⟨rfl, hb1⟩
  have HB1 : Hid (Below W0.heap.size W0 w1) := hb1
  clear hb1
  go_wp2_with fail
  go_loopw [19] (fun iv wr => ∃ k : Nat, k ≤ vs.length ∧ iv = .int .i64 k ∧ wr = w1) (fun iv _ => vs.length - (intOf iv).toNat)
  case atStart => exact ⟨0, Nat.zero_le _, rfl, rfl⟩
  case round =>
    obtain ⟨k, hk, rfl, rfl⟩ := hrel
    obtain ⟨⟨c0, c1, c2⟩, cs, hbw, hV⟩ := HK.out wr HB1.out
    have HBZ : Hid (Below w.heap.size w wr) := hbw
    clear hbw
    by_cases hlt : k < vs.length
    · obtain ⟨v, hv⟩ : ∃ v, vs[k]? = some v := ⟨vs[k], List.getElem?_eq_getElem hlt⟩
      obtain ⟨b, off, hno, hbl, q0⟩ := hV.at hv
      subst hno
      have i1 : (k : Int) < (vs.length : Int) := by omega
      have i2 : (0 : Int) ≤ (k : Int) := by omega
      obtain ⟨v1, v2⟩ := HN.out v (List.mem_of_getElem? hv)
      have v3 : ¬ v < 0 := by omega
      have v4 : ¬ (n : Int) ≤ v := by omega
      clear hV hv
      go_wp2
      go_roundw
      case rel => exact ⟨k + 1, by omega, by go_num, trivial⟩
      case measure => simp [intOf]; omega
    · go_wp2
      go_ret
      exact ⟨rfl, HBZ.out⟩
end Go.Proofs.Ytefcmpdnlbpjpaa

namespace Go.Proofs.Ytefcmpdnlbpjpaa
open Go.RowKit Go.Extern

attribute [local go_sem] Oper.semAt_some

/-- a list is a walk, with these weights. -/
def WalkIs (zs : List (Int × Int × Int)) (xs ws : List Int) : Prop := ws.length + 1 = xs.length ∧ ∀ i r, ws[i]? = some r → ∃ v u, xs[i]? = some v ∧ xs[i + 1]? = some u ∧ (v, u, r) ∈ zs
theorem sum_take {ws : List Int} {k : Nat} {r : Int} (h : ws[k]? = some r) : (ws.take (k + 1)).sum = (ws.take k).sum + r := by
  rw [take_snoc h, List.sum_append]
  simp
theorem sum_le {ws : List Int} (h : ∀ (i : Nat) (r : Int), ws[i]? = some r → 0 ≤ r ∧ r ≤ 2147483647) : ∀ k : Nat, k ≤ ws.length → 0 ≤ (ws.take k).sum ∧ (ws.take k).sum ≤ (k : Int) * 2147483647
  | 0, _ => by simp
  | k + 1, hk => by
    have e : ws[k]? = some ws[k] := List.getElem?_eq_getElem (by omega)
    have ih := sum_le h k (by omega)
    have h1 := h k _ e
    rw [sum_take e]
    omega

set_option maxRecDepth 100000 in
set_option maxHeartbeats 4000000 in
theorem length_walk (n : Nat) (zs : List (Int × Int × Int)) (fo wo : Option Addr) (tb tof fc tc wc : Nat) (w : World) (hz : Fine n zs) (h : CsrIn w n zs fo (some ⟨tb, tof, none⟩) wo fc tc wc) (htc : zs.length ≤ tc) (lb lof lc : Nat) (x : Int) (xs ws : List Int) (hx : HasInts w (.slice (some ⟨lb, lof, none⟩) (xs.length + 1) lc) (x :: xs)) (hlc : xs.length + 1 ≤ lc) (hl1 : lc ≠ 1) (hll : xs.length < 1000000) (hn : ∀ v ∈ x :: xs, 0 ≤ v ∧ v < (n : Int)) (hW : WalkIs zs (x :: xs) ws) :
    Calls Try.prog 5 #[.agg #[.slice fo (n + 1) fc, .slice (some ⟨tb, tof, none⟩) zs.length tc, .slice wo zs.length wc], .slice (some ⟨lb, lof, none⟩) (xs.length + 1) lc] w fun e w' => e = .returned (.tuple #[.int .u64 ws.sum, .nilIface]) ∧ Below w.heap.size w w' := by
  obtain ⟨W0, hW0⟩ : ∃ W0, w.alloc (.cells #[.slice fo (n + 1) fc, .slice (some ⟨tb, tof, none⟩) zs.length tc, .slice wo zs.length wc] 27) = W0 := ⟨_, rfl⟩
  have HW0 : Hid (w.alloc (.cells #[.slice fo (n + 1) fc, .slice (some ⟨tb, tof, none⟩) zs.length tc, .slice wo zs.length wc] 27) = W0) := hW0
  have hB0 : Below w.heap.size w W0 := by rw [← hW0]; exact (Below.refl _ w).alloc (Nat.le_refl _) _
  have hbx : W0.heap[w.heap.size]? = some (.cells #[.slice fo (n + 1) fc, .slice (some ⟨tb, tof, none⟩) zs.length tc, .slice wo zs.length wc] 27) := by rw [← hW0]; exact heap_new _ _
  have HK : Hid (∀ wx, Below W0.heap.size W0 wx → (wx.cell? ⟨w.heap.size, 0, none⟩ = some (.slice fo (n + 1) fc) ∧ wx.cell? ⟨w.heap.size, 1, none⟩ = some (.slice (some ⟨tb, tof, none⟩) zs.length tc) ∧ wx.cell? ⟨w.heap.size, 2, none⟩ = some (.slice wo zs.length wc)) ∧ w.heap.size < wx.heap.size ∧ Below w.heap.size w wx ∧ HasInts wx (.slice (some ⟨lb, lof, none⟩) (xs.length + 1) lc) (x :: xs) ∧ CsrIn wx n zs fo (some ⟨tb, tof, none⟩) wo fc tc wc) := fun wx hwx => by
    have hg := (hwx.block _ (lt_of_get hbx)).trans hbx
    have hb := hB0.trans (hwx.mono hB0.size)
    exact ⟨box3 hg, lt_of_get hg, hb, hx.keep hb, h.keep hb⟩
  have HCL : Hid (Calls Try.prog 17 #[.agg #[.slice fo (n + 1) fc, .slice (some ⟨tb, tof, none⟩) zs.length tc, .slice wo zs.length wc], .slice (some ⟨lb, lof, none⟩) (xs.length + 1) lc] W0 fun e w' => e = .returned .nilIface ∧ Below W0.heap.size W0 w') := checkList_good n zs fo _ wo fc tc wc W0 hz (h.keep hB0) _ lc (x :: xs) (hx.keep hB0) (by simp; omega) (by simp) hn
  have HST : Hid (∀ wx, Below W0.heap.size W0 wx → ∀ (k : Nat) (r : Int), ws[k]? = some r → ∃ v u, (x :: xs)[k]? = some v ∧ (x :: xs)[k + 1]? = some u ∧ (0 ≤ r ∧ r ≤ 2147483647) ∧ Calls Try.prog 18 #[.agg #[.slice fo (n + 1) fc, .slice (some ⟨tb, tof, none⟩) zs.length tc, .slice wo zs.length wc], .int .i64 v, .int .i64 u] wx fun e w' => e = .returned (.tuple #[.int .u64 r, .bool true]) ∧ Below wx.heap.size wx w') := fun wx hwx k r hr => by
    obtain ⟨v, u, h1, h2, h3⟩ := hW.2 k r hr
    obtain ⟨g1, g2, _, _, _, g3, g4⟩ := hz.ends _ h3
    obtain ⟨p, rfl⟩ : ∃ p : Nat, v = (p : Int) := ⟨v.toNat, by simp only at g1; omega⟩
    exact ⟨p, u, h1, h2, ⟨g3, g4⟩, step_good n zs fo wo tb tof fc tc wc wx hz (HK.out wx hwx).2.2.2.2 htc p (by simp only at g2; omega) u r true ⟨g3, g4⟩ (Or.inl ⟨rfl, h3⟩)⟩
  have hwl : ws.length = xs.length := by have := hW.1; simp at this; exact this
  have HSB : Hid (∀ k : Nat, k ≤ ws.length → 0 ≤ (ws.take k).sum ∧ (ws.take k).sum ≤ (k : Int) * 2147483647) := sum_le fun i r hr => by
    obtain ⟨v, u, _, _, h3⟩ := hW.2 i r hr
    exact ⟨(hz.ends _ h3).2.2.2.2.2.1, (hz.ends _ h3).2.2.2.2.2.2⟩
  have hlc1 : (xs.length : Int) + 1 ≤ (lc : Int) := by omega
  clear h hW0 hB0 hbx hz hx hn hW
  go_enter Try.func5, Try.ntmps5
  obtain ⟨⟨c0, c1, c2⟩, cs, _, _, _⟩ := HK.out W0 (Below.refl _ _)
  go_wp2_with fail
  rw [HW0.out]
  refine HCL.out.mono ?_
  rintro e w1 ⟨rfl, hb1⟩
  have HB1 : Hid (Below W0.heap.size W0 w1) := hb1
  clear hb1 c0 c1 c2 cs
  go_wp2_with fail
  go_loopw [7, 21] (fun sv iv wr => ∃ k : Nat, k ≤ xs.length ∧ iv = .int .i64 k ∧ sv = .int .u64 (ws.take k).sum ∧ Below W0.heap.size W0 wr) (fun _ iv _ => xs.length - (intOf iv).toNat)
  case atStart => exact ⟨0, Nat.zero_le _, rfl, by simp, HB1.out⟩
  case round =>
    obtain ⟨k, hk, rfl, rfl, hb⟩ := hrel
    have HBR : Hid (Below W0.heap.size W0 wr) := hb
    obtain ⟨⟨c0, c1, c2⟩, cs, hbw, hV, _⟩ := HK.out wr hb
    have HBZ : Hid (Below w.heap.size w wr) := hbw
    clear hbw hb
    by_cases hlt : k < xs.length
    · obtain ⟨r, hr⟩ : ∃ r, ws[k]? = some r := ⟨ws[k], List.getElem?_eq_getElem (by omega)⟩
      obtain ⟨v, u, hv, hu, ⟨r0, r1⟩, _⟩ := HST.out wr HBR.out k r hr
      have HCS : Hid (∀ wx, Below W0.heap.size W0 wx → Calls Try.prog 18 #[.agg #[.slice fo (n + 1) fc, .slice (some ⟨tb, tof, none⟩) zs.length tc, .slice wo zs.length wc], .int .i64 v, .int .i64 u] wx fun e w' => e = .returned (.tuple #[.int .u64 r, .bool true]) ∧ Below wx.heap.size wx w') := fun wx hwx => by
        obtain ⟨v', u', hv', hu', _, hc⟩ := HST.out wx hwx k r hr
        obtain rfl := Option.some.inj (hv.symm.trans hv')
        obtain rfl := Option.some.inj (hu.symm.trans hu')
        exact hc
      have HQV : Hid (∀ wx, Below W0.heap.size W0 wx → wx.cell? ⟨lb, lof + k, none⟩ = some (.int .i64 v) ∧ lb < wx.heap.size) := fun wx hwx => by
        obtain ⟨b, off, e, hbl, q⟩ := (HK.out wx hwx).2.2.2.1.at hv
        cases e
        exact ⟨q, hbl⟩
      obtain ⟨b, off, e, hbl, q0⟩ := hV.at hv
      cases e
      obtain ⟨b, off, e, hbl', q1⟩ := hV.at hu
      cases e
      have q1' : wr.cell? ⟨lb, lof + 1 + k, none⟩ = some (.int .i64 u) := by rw [show lof + 1 + k = lof + (k + 1) by omega]; exact q1
      have i1 : (k : Int) < (xs.length : Int) := by omega
      have i2 : (0 : Int) ≤ (k : Int) := by omega
      have i3 : (k : Int) < (xs.length : Int) + 1 := by omega
      obtain ⟨s0, s1⟩ := HSB.out k (by omega)
      have HS1 : Hid ((ws.take (k + 1)).sum = (ws.take k).sum + r) := sum_take hr
      generalize (ws.take k).sum = S at *
      have sw : IntKind.u64.wrap (S + r) = S + r := by rw [IntKind.wrap_u64] <;> omega
      clear hV hv hu hr q1
      go_wp2_with fail
      go_region_held3 (fun w' => (w'.cell? ⟨w.heap.size, 0, none⟩ = some (.slice fo (n + 1) fc) ∧ w'.cell? ⟨w.heap.size, 1, none⟩ = some (.slice (some ⟨tb, tof, none⟩) zs.length tc) ∧ w'.cell? ⟨w.heap.size, 2, none⟩ = some (.slice wo zs.length wc)) ∧ w'.cell? ⟨lb, lof + k, none⟩ = some (.int .i64 v)) (go_keep) (first
        | (go_at_call 18; refine (HCS.out _ HBR.out.drew).mono ?_; rintro e w2 ⟨rfl, hb2⟩; have HB2 : Hid (Below W0.heap.size W0 w2) := (HBR.out.drew).trans (hb2.mono HBR.out.size); clear hb2; obtain ⟨⟨d0, d1, d2⟩, ds, _, hV2, _⟩ := HK.out w2 HB2.out; obtain ⟨d3, dl⟩ := HQV.out w2 HB2.out; clear hV2))
      go_wp2
      go_roundw
      case rel => exact ⟨k + 1, by omega, by go_num, by rw [HS1.out], HB2.out⟩
      case measure => simp [intOf]; omega
    · obtain rfl : k = xs.length := by omega
      have HSE : Hid ((ws.take xs.length).sum = ws.sum) := by show _ = _; rw [← hwl, List.take_length]
      rw [HSE.out]
      clear hV
      go_wp2
      go_ret2
      exact ⟨rfl, HBZ.out⟩
end Go.Proofs.Ytefcmpdnlbpjpaa

namespace Go.Proofs.Ytefcmpdnlbpjpaa
open Go.RowKit Go.Extern

attribute [local go_sem] Oper.semAt_some

set_option maxRecDepth 100000 in
set_option maxHeartbeats 4000000 in
theorem bs_none (o : Option Addr) (c : Nat) (x : Int) (w : World) : Calls Try.prog 42 #[.slice o 0 c, .int .i64 x] w fun e w' => e = .returned (.tuple #[.int .i64 0, .bool false]) ∧ w' = w := by
  go_enter Try.func42, Try.ntmps42
  go_wp2_with fail
  go_loopw [7, 8] (fun a b wr => a = .int .i64 0 ∧ b = .int .i64 0 ∧ wr = w) (fun _ _ _ => 0)
  case atStart => exact ⟨rfl, rfl, rfl⟩
  case round =>
    obtain ⟨rfl, rfl, rfl⟩ := hrel
    go_wp2
    go_ret2
    exact ⟨rfl, rfl⟩

theorem cut_none (o : Option Addr) (c : Nat) : ∃ o', ∀ w, (Instr.slice 25 (.slice o 0 c) (some (.int .i64 0)) (some (.int .i64 0)) none).run Try.prog w = .ok (.slice o' 0 c) w := by
  refine ⟨if c = 0 then o else o.map (·.add 0), fun w => ?_⟩
  rw [run_slice_lh (ht := Try.elemI) (h0 := by omega) (h1 := by omega) (h2 := by omega), Try.sizeI]
  simp [sliced]

set_option maxRecDepth 100000 in
set_option maxHeartbeats 4000000 in
theorem step_none (n : Nat) (fo uo wo : Option Addr) (fc tc wc : Nat) (w : World) (hN : n ≤ 65536) (h : CsrIn w n [] fo uo wo fc tc wc) (p : Nat) (hp : p < n) (u : Int) :
    Calls Try.prog 18 #[.agg #[.slice fo (n + 1) fc, .slice uo 0 tc, .slice wo 0 wc], .int .i64 (p : Int), .int .i64 u] w fun e w' => e = .returned (.tuple #[.int .u64 0, .bool false]) ∧ Below w.heap.size w w' := by
  obtain ⟨fb, fof, rfl, hl, hc⟩ := h.first
  obtain ⟨W0, hW0⟩ : ∃ W0, w.alloc (.cells #[.slice (some ⟨fb, fof, none⟩) (n + 1) fc, .slice uo 0 tc, .slice wo 0 wc] 27) = W0 := ⟨_, rfl⟩
  have HW0 : Hid (w.alloc (.cells #[.slice (some ⟨fb, fof, none⟩) (n + 1) fc, .slice uo 0 tc, .slice wo 0 wc] 27) = W0) := hW0
  have hB0 : Below w.heap.size w W0 := by rw [← hW0]; exact (Below.refl _ w).alloc (Nat.le_refl _) _
  have k1 : W0.heap[w.heap.size]? = some (.cells #[.slice (some ⟨fb, fof, none⟩) (n + 1) fc, .slice uo 0 tc, .slice wo 0 wc] 27) := by rw [← hW0]; exact heap_new _ _
  obtain ⟨c0, c1, c2⟩ := box3 k1
  have cs := lt_of_get k1
  have cf : fb < W0.heap.size := Nat.lt_of_lt_of_le hl hB0.size
  have f0 : ∀ v, firstAt [] v = 0 := fun v => rfl
  have q0 : W0.cell? ⟨fb, fof + p, none⟩ = some (.int .i64 0) := (hB0.cell (p := ⟨fb, _, none⟩) hl).trans (hc p (by omega))
  have q1 : W0.cell? ⟨fb, fof + (p + 1), none⟩ = some (.int .i64 0) := (hB0.cell (p := ⟨fb, _, none⟩) hl).trans (hc (p + 1) (by omega))
  obtain ⟨o', ho'⟩ := cut_none uo tc
  have HB0 : Hid (Below w.heap.size w W0) := hB0
  have e1 : (p : Int) < (n : Int) + 1 := by omega
  have e2 : (p : Int) + 1 < (n : Int) + 1 := by omega
  have e3 : (0 : Int) ≤ (p : Int) := by omega
  have e4 : (0 : Int) ≤ (p : Int) + 1 := by omega
  have e5 : IntKind.i64.wrap ((p : Int) + 1) = (p : Int) + 1 := by rw [IntKind.wrap_i64] <;> omega
  clear h hc hW0 hB0 k1 hl f0
  go_enter Try.func18, Try.ntmps18
  go_wp2_with fail
  rw [HW0.out]
  go_quiet (fail)
  have HBQ : Hid (Below w.heap.size w (W0.drewN nq)) := below_drewN HB0.out nq
  clear q0 q1
  go_wp2_with (go_at_call 42; refine (bs_none _ _ _ _).mono ?_; rintro e w2 ⟨rfl, rfl⟩)
  go_ret2
  exact ⟨rfl, HBQ.out⟩

theorem step_any (n : Nat) (zs : List (Int × Int × Int)) (fo uo wo : Option Addr) (fc tc wc : Nat) (w : World) (hz : Fine n zs) (h : CsrIn w n zs fo uo wo fc tc wc) (htc : zs.length ≤ tc) (p : Nat) (hp : p < n) (u r : Int) (ok : Bool) (hr : 0 ≤ r ∧ r ≤ 2147483647) (hF : StepIs zs p u r ok) :
    Calls Try.prog 18 #[.agg #[.slice fo (n + 1) fc, .slice uo zs.length tc, .slice wo zs.length wc], .int .i64 (p : Int), .int .i64 u] w fun e w' => e = .returned (.tuple #[.int .u64 r, .bool ok]) ∧ Below w.heap.size w w' := by
  cases zs with
  | nil =>
    rcases hF with ⟨_, hm⟩ | ⟨rfl, rfl, _⟩
    · cases hm
    · exact step_none n fo uo wo fc tc wc w hz.few h p hp u
  | cons z r' =>
    obtain ⟨tb, tof, wb, wof, rfl, _⟩ := h.arc (by simp)
    exact step_good n _ fo wo tb tof fc tc wc w hz h htc p hp u r ok hr hF

set_option maxRecDepth 100000 in
set_option maxHeartbeats 4000000 in
theorem checkList_empty (n : Nat) (zs : List (Int × Int × Int)) (fo uo wo : Option Addr) (fc tc wc : Nat) (w : World) (hz : Fine n zs) (h : CsrIn w n zs fo uo wo fc tc wc) (no : Option Addr) (nc : Nat) :
    Calls Try.prog 17 #[.agg #[.slice fo (n + 1) fc, .slice uo zs.length tc, .slice wo zs.length wc], .slice no 0 nc] w fun e w' => e = .returned (.iface 59 (.int .i64 5)) ∧ Below w.heap.size w w' := by
  obtain ⟨W0, hW0⟩ : ∃ W0, w.alloc (.cells #[.slice fo (n + 1) fc, .slice uo zs.length tc, .slice wo zs.length wc] 27) = W0 := ⟨_, rfl⟩
  have HW0 : Hid (w.alloc (.cells #[.slice fo (n + 1) fc, .slice uo zs.length tc, .slice wo zs.length wc] 27) = W0) := hW0
  have hB0 : Below w.heap.size w W0 := by rw [← hW0]; exact (Below.refl _ w).alloc (Nat.le_refl _) _
  have HB0 : Hid (Below w.heap.size w W0) := hB0
  have HCK : Hid (Calls Try.prog 41 #[.agg #[.slice fo (n + 1) fc, .slice uo zs.length tc, .slice wo zs.length wc]] W0 fun e w' => e = .returned .nilIface ∧ Below W0.heap.size W0 w') := check_good n zs fo uo wo fc tc wc W0 hz (h.keep hB0)
  clear h hW0 hB0 hz
  go_enter Try.func17, Try.ntmps17
  go_wp2_with fail
  rw [HW0.out]
  refine HCK.out.mono ?_
  rintro e w1 ⟨rfl, hb1⟩
  have HB1 : Hid (Below w.heap.size w w1) := btr HB0.out hb1
  clear hb1
  go_wp2
  go_ret
  exact ⟨rfl, HB1.out⟩

set_option maxRecDepth 100000 in
set_option maxHeartbeats 4000000 in
theorem checkList_node (n : Nat) (zs : List (Int × Int × Int)) (fo uo wo : Option Addr) (fc tc wc : Nat) (w : World) (hz : Fine n zs) (h : CsrIn w n zs fo uo wo fc tc wc) (no : Option Addr) (nc : Nat) (vs : List Int) (hv : HasInts w (.slice no vs.length nc) vs) (hvl : vs.length ≤ 1000000) (k0 : Nat) (v0 : Int) (hk0 : vs[k0]? = some v0) (hbad : ¬ (0 ≤ v0 ∧ v0 < (n : Int))) (hn : ∀ j v, j < k0 → vs[j]? = some v → 0 ≤ v ∧ v < (n : Int)) :
    Calls Try.prog 17 #[.agg #[.slice fo (n + 1) fc, .slice uo zs.length tc, .slice wo zs.length wc], .slice no vs.length nc] w fun e w' => ∃ v, e = .returned v ∧ IsTold w' (7, [(3, (k0 : Int))]) v ∧ Below w.heap.size w w' := by
  obtain ⟨W0, hW0⟩ : ∃ W0, w.alloc (.cells #[.slice fo (n + 1) fc, .slice uo zs.length tc, .slice wo zs.length wc] 27) = W0 := ⟨_, rfl⟩
  have HW0 : Hid (w.alloc (.cells #[.slice fo (n + 1) fc, .slice uo zs.length tc, .slice wo zs.length wc] 27) = W0) := hW0
  have hB0 : Below w.heap.size w W0 := by rw [← hW0]; exact (Below.refl _ w).alloc (Nat.le_refl _) _
  have hbx : W0.heap[w.heap.size]? = some (.cells #[.slice fo (n + 1) fc, .slice uo zs.length tc, .slice wo zs.length wc] 27) := by rw [← hW0]; exact heap_new _ _
  have hN := hz.few
  have hkl := (List.getElem?_eq_some_iff.1 hk0).1
  have hp : ((vs.length : Int) == 0) = false := by
    rw [beq_eq_false_iff_ne]
    omega
  have HK : Hid (∀ wx, Below W0.heap.size W0 wx → (wx.cell? ⟨w.heap.size, 0, none⟩ = some (.slice fo (n + 1) fc) ∧ wx.cell? ⟨w.heap.size, 1, none⟩ = some (.slice uo zs.length tc) ∧ wx.cell? ⟨w.heap.size, 2, none⟩ = some (.slice wo zs.length wc)) ∧ w.heap.size < wx.heap.size ∧ Below w.heap.size w wx ∧ HasInts wx (.slice no vs.length nc) vs) := fun wx hx => by
    have hg := (hx.block _ (lt_of_get hbx)).trans hbx
    have hb := hB0.trans (hx.mono hB0.size)
    exact ⟨box3 hg, lt_of_get hg, hb, hv.keep hb⟩
  have HCK : Hid (Calls Try.prog 41 #[.agg #[.slice fo (n + 1) fc, .slice uo zs.length tc, .slice wo zs.length wc]] W0 fun e w' => e = .returned .nilIface ∧ Below W0.heap.size W0 w') := check_good n zs fo uo wo fc tc wc W0 hz (h.keep hB0)
  have HN : Hid (type_of% hn) := hn
  have HK0 : Hid (vs[k0]? = some v0) := hk0
  have hw : IntKind.i64.wrap ((n : Int) + 1 - 1) = (n : Int) := by rw [IntKind.wrap_i64] <;> omega
  clear h hW0 hB0 hbx hz hv hn hk0
  go_enter Try.func17, Try.ntmps17
  go_wp2_with fail
  rw [HW0.out]
  refine HCK.out.mono ?_
  rintro e w1 ⟨rfl, hb1⟩
  have HB1 : Hid (Below W0.heap.size W0 w1) := hb1
  clear hb1
  go_wp2_with fail
  go_loopw [19] (fun iv wr => ∃ k : Nat, k ≤ k0 ∧ iv = .int .i64 k ∧ wr = w1) (fun iv _ => vs.length - (intOf iv).toNat)
  case atStart => exact ⟨0, Nat.zero_le _, rfl, rfl⟩
  case round =>
    obtain ⟨k, hk, rfl, rfl⟩ := hrel
    obtain ⟨⟨c0, c1, c2⟩, cs, hbw, hV⟩ := HK.out wr HB1.out
    have HBZ : Hid (Below w.heap.size w wr) := hbw
    clear hbw
    by_cases hlt : k < k0
    · obtain ⟨v, hv⟩ : ∃ v, vs[k]? = some v := ⟨vs[k], List.getElem?_eq_getElem (by omega)⟩
      obtain ⟨b, off, hno, hbl, q0⟩ := hV.at hv
      subst hno
      have i1 : (k : Int) < (vs.length : Int) := by omega
      have i2 : (0 : Int) ≤ (k : Int) := by omega
      obtain ⟨v1, v2⟩ := HN.out k v hlt hv
      have v3 : ¬ v < 0 := by omega
      have v4 : ¬ (n : Int) ≤ v := by omega
      clear hV hv
      go_wp2
      go_roundw
      case rel => exact ⟨k + 1, by omega, by go_num, trivial⟩
      case measure => simp [intOf]; omega
    · obtain rfl : k = k0 := by omega
      obtain ⟨b, off, hno, hbl, q0⟩ := hV.at HK0.out
      subst hno
      have i1 : (k : Int) < (vs.length : Int) := by omega
      have i2 : (0 : Int) ≤ (k : Int) := by omega
      clear hV hlt
      by_cases v3 : v0 < 0
      · go_wp2_with (go_at_call 19; refine (at_some _ _ _ _ _).mono ?_; rintro e w9 ⟨rfl, rfl⟩)
        go_ret
        exact ⟨_, rfl, Or.inr ⟨by simp, isErr_new (p := (3, (k : Int))) (show IsErr wr (.iface 59 (.int .i64 7)) [] (.iface 59 (.int .i64 7)) from rfl)⟩, HBZ.out.alloc HBZ.out.size _⟩
      · have v4 : (n : Int) ≤ v0 := by omega
        go_wp2_with (go_at_call 19; refine (at_some _ _ _ _ _).mono ?_; rintro e w9 ⟨rfl, rfl⟩)
        go_ret
        exact ⟨_, rfl, Or.inr ⟨by simp, isErr_new (p := (3, (k : Int))) (show IsErr wr (.iface 59 (.int .i64 7)) [] (.iface 59 (.int .i64 7)) from rfl)⟩, HBZ.out.alloc HBZ.out.size _⟩
end Go.Proofs.Ytefcmpdnlbpjpaa

namespace Go.Proofs.Ytefcmpdnlbpjpaa
open Go.RowKit Go.Extern

attribute [local go_sem] Oper.semAt_some

/-- all are nodes. -/
def Nodes (n : Nat) (xs : List Int) : Prop := ∀ v ∈ xs, 0 ≤ v ∧ v < (n : Int)
/-- there is no arc. -/
def NoArc (zs : List (Int × Int × Int)) (v u : Int) : Prop := ∀ a ∈ zs, ¬ (a.1 = v ∧ a.2.1 = u)
/-- what the document says of a list in right arrays. -/
def LenIs (n : Nat) (zs : List (Int × Int × Int)) (xs : List Int) (L : Int) (E : Int × List (Int × Int)) : Prop :=
  (xs = [] ∧ L = 0 ∧ E = (5, [])) ∨
  (∃ (k : Nat) (v : Int), xs[k]? = some v ∧ ¬ (0 ≤ v ∧ v < (n : Int)) ∧ (∀ (j : Nat) (u : Int), j < k → xs[j]? = some u → 0 ≤ u ∧ u < (n : Int)) ∧ L = 0 ∧ E = (7, [(3, (k : Int))])) ∨
  (Nodes n xs ∧ ∃ (k : Nat) (v u : Int) (ws : List Int), xs[k]? = some v ∧ xs[k + 1]? = some u ∧ NoArc zs v u ∧ WalkIs zs (xs.take (k + 1)) ws ∧ L = 0 ∧ E = (16, [(4, (k : Int))])) ∨
  (Nodes n xs ∧ xs ≠ [] ∧ ∃ ws, WalkIs zs xs ws ∧ L = ws.sum ∧ E = (0, []))
theorem arc_or (zs : List (Int × Int × Int)) (v u : Int) : (∃ r, (v, u, r) ∈ zs) ∨ NoArc zs v u := by
  by_cases h : ∃ a ∈ zs, a.1 = v ∧ a.2.1 = u
  · obtain ⟨⟨a0, a1, a2⟩, ha, h1, h2⟩ := h
    simp only at h1 h2
    subst h1 h2
    exact Or.inl ⟨a2, ha⟩
  · exact Or.inr fun a ha hh => h ⟨a, ha, hh⟩
theorem walk_one (zs : List (Int × Int × Int)) (xs : List Int) (h : xs ≠ []) : WalkIs zs (xs.take 1) [] := by
  refine ⟨?_, fun i r hr => by simp at hr⟩
  have := List.length_pos_iff.2 h
  rw [List.length_take]
  simp
  omega
/-- a walk so far, and the next step. -/
theorem walk_more {zs : List (Int × Int × Int)} {xs ws : List Int} {k : Nat} {v u r : Int} (h : WalkIs zs (xs.take (k + 1)) ws) (hv : xs[k]? = some v) (hu : xs[k + 1]? = some u) (hr : (v, u, r) ∈ zs) : WalkIs zs (xs.take (k + 1 + 1)) (ws ++ [r]) := by
  have hl := (List.getElem?_eq_some_iff.1 hu).1
  obtain ⟨h1, h2⟩ := h
  rw [List.length_take] at h1
  have hw : ws.length = k := by omega
  refine ⟨by rw [List.length_take, List.length_append, List.length_singleton]; omega, fun i x hx => ?_⟩
  rcases Nat.lt_or_ge i k with hi | hi
  · rw [List.getElem?_append_left (by omega)] at hx
    obtain ⟨a, b, g1, g2, g3⟩ := h2 i x hx
    rw [List.getElem?_take] at g1 g2
    split at g1 <;> split at g2
    · exact ⟨a, b, by rw [List.getElem?_take, if_pos (by omega)]; exact g1, by rw [List.getElem?_take, if_pos (by omega)]; exact g2, g3⟩
    all_goals simp at g1 g2
  · have hil := (List.getElem?_eq_some_iff.1 hx).1
    rw [List.length_append, List.length_singleton] at hil
    obtain rfl : i = k := by omega
    rw [List.getElem?_append_right (by omega), hw, Nat.sub_self] at hx
    obtain rfl : r = x := by simpa using hx
    exact ⟨v, u, by rw [List.getElem?_take, if_pos (by omega)]; exact hv, by rw [List.getElem?_take, if_pos (by omega)]; exact hu, hr⟩
theorem walk_till (zs : List (Int × Int × Int)) (xs : List Int) (h : xs ≠ []) : ∀ k, k < xs.length → (∃ ws, WalkIs zs (xs.take (k + 1)) ws) ∨ ∃ j v u ws, j < k ∧ xs[j]? = some v ∧ xs[j + 1]? = some u ∧ NoArc zs v u ∧ WalkIs zs (xs.take (j + 1)) ws
  | 0, _ => Or.inl ⟨[], walk_one zs xs h⟩
  | k + 1, hk => by
    rcases walk_till zs xs h k (by omega) with ⟨ws, hw⟩ | ⟨j, v, u, ws, hj, r⟩
    · have hv : xs[k]? = some xs[k] := List.getElem?_eq_getElem (by omega)
      have hu : xs[k + 1]? = some xs[k + 1] := List.getElem?_eq_getElem hk
      rcases arc_or zs xs[k] xs[k + 1] with ⟨r, hr⟩ | hno
      · exact Or.inl ⟨_, walk_more hw hv hu hr⟩
      · exact Or.inr ⟨k, _, _, ws, by omega, hv, hu, hno, hw⟩
    · exact Or.inr ⟨j, v, u, ws, by omega, r⟩
theorem len_total (n : Nat) (zs : List (Int × Int × Int)) (xs : List Int) : ∃ L E, LenIs n zs xs L E := by
  by_cases h0 : xs = []
  · exact ⟨0, (5, []), Or.inl ⟨h0, rfl, rfl⟩⟩
  · by_cases hb : Nodes n xs
    · have hp := List.length_pos_iff.2 h0
      rcases walk_till zs xs h0 (xs.length - 1) (by omega) with ⟨ws, hw⟩ | ⟨j, v, u, ws, hj, h1, h2, h3, h4⟩
      · rw [show xs.length - 1 + 1 = xs.length by omega, List.take_length] at hw
        exact ⟨_, _, Or.inr (Or.inr (Or.inr ⟨hb, h0, ws, hw, rfl, rfl⟩))⟩
      · exact ⟨_, _, Or.inr (Or.inr (Or.inl ⟨hb, j, v, u, ws, h1, h2, h3, h4, rfl, rfl⟩))⟩
    · rcases first_ex (fun k => ∃ v, xs[k]? = some v ∧ ¬ (0 ≤ v ∧ v < (n : Int))) xs.length with ⟨k, _, ⟨v, hv, hbad⟩, hmin⟩ | hno
      · refine ⟨0, _, Or.inr (Or.inl ⟨k, v, hv, hbad, fun j u hj hu => ?_, rfl, rfl⟩)⟩
        rcases Classical.em (0 ≤ u ∧ u < (n : Int)) with h | h
        · exact h
        · exact absurd ⟨u, hu, h⟩ (hmin j hj)
      · refine absurd (fun v hv => ?_) hb
        obtain ⟨k, hk⟩ := List.getElem?_of_mem hv
        rcases Classical.em (0 ≤ v ∧ v < (n : Int)) with h | h
        · exact h
        · exact absurd ⟨v, hk, h⟩ (hno k (List.getElem?_eq_some_iff.1 hk).1)
/-- how the length of a list of nodes ends. -/
def LenEnd (k0 m : Nat) (ws : List Int) (w' : World) (L : Int) (v : Value) : Prop := (k0 = m ∧ L = ws.sum ∧ IsTold w' (0, []) v) ∨ (k0 < m ∧ L = 0 ∧ IsTold w' (16, [(4, (k0 : Int))]) v)
/-- the tail of a list in memory. -/
theorem isl_tail (b off n lc : Nat) (h : n + 1 ≤ lc) : ∃ off', (∀ w, (Instr.slice 25 (.slice (some ⟨b, off, none⟩) (n + 1) lc) (some (.int .i64 1)) none none).run Try.prog w = .ok (.slice (some ⟨b, off', none⟩) n (lc - 1)) w) ∧ (0 < n → off' = off + 1) := by
  refine ⟨if lc = 1 then off else off + 1, fun w => ?_, fun hl => by rw [if_neg (by omega)]⟩
  rw [run_slice_l (ht := Try.elemI) (h0 := by omega) (h1 := by omega), Try.sizeI]
  simp only [Result.andThen_ok, sliced]
  by_cases e : lc = 1
  · subst e; simp
  · simp [e, Addr.add]

set_option maxRecDepth 100000 in
set_option maxHeartbeats 4000000 in
theorem length_early (Q : World → Value → Prop) (fv : Value) (lv : Value) (f0 f1 f2 : Value) (hfv : fv = .agg #[f0, f1, f2]) (w : World) (hC : ∀ wx, Below w.heap.size w wx → Calls Try.prog 17 #[fv, lv] wx fun e w' => ∃ T x, e = .returned (.iface T x) ∧ Q w' (.iface T x) ∧ Below wx.heap.size wx w') :
    Calls Try.prog 5 #[fv, lv] w fun e w' => ∃ v, e = .returned (.tuple #[.int .u64 0, v]) ∧ Q w' v ∧ Below w.heap.size w w' := by
  subst hfv
  have HC : Hid (∀ wx, Below w.heap.size w wx → Calls Try.prog 17 #[.agg #[f0, f1, f2], lv] wx fun e w' => ∃ T x, e = .returned (.iface T x) ∧ Q w' (.iface T x) ∧ Below wx.heap.size wx w') := hC
  clear hC
  have hB0 : Below w.heap.size w (w.alloc (.cells #[f0, f1, f2] 27)) := (Below.refl _ w).alloc (Nat.le_refl _) _
  have HB0 : Hid (type_of% hB0) := hB0
  have hbx : (w.alloc (.cells #[f0, f1, f2] 27)).heap[w.heap.size]? = some (.cells #[f0, f1, f2] 27) := heap_new _ _
  obtain ⟨c0, c1, c2⟩ := box3 hbx
  have cs := lt_of_get hbx
  clear hB0 hbx
  go_enter Try.func5, Try.ntmps5
  go_wp2_with fail
  refine (HC.out _ HB0.out).mono ?_
  rintro e w1 ⟨T, x, rfl, hq, hb1⟩
  have HB1 : Hid (Below w.heap.size w w1 ∧ Q w1 (.iface T x)) := ⟨btr HB0.out hb1, hq⟩
  clear hb1 hq c0 c1 c2 cs
  go_wp2
  go_ret2
  exact ⟨_, rfl, HB1.out.2, HB1.out.1⟩

set_option maxRecDepth 100000 in
set_option maxHeartbeats 4000000 in
/-- a list of nodes: as far as it is a walk. -/
theorem length_nodes (n : Nat) (zs : List (Int × Int × Int)) (fo uo wo : Option Addr) (fc tc wc : Nat) (w : World) (hz : Fine n zs) (h : CsrIn w n zs fo uo wo fc tc wc) (htc : zs.length ≤ tc) (lb lof lc : Nat) (x : Int) (xs ws : List Int) (hx : HasInts w (.slice (some ⟨lb, lof, none⟩) (xs.length + 1) lc) (x :: xs)) (hlc : xs.length + 1 ≤ lc) (hll : xs.length < 1000000) (hn : ∀ v ∈ x :: xs, 0 ≤ v ∧ v < (n : Int)) (k0 : Nat) (hk0 : k0 ≤ xs.length) (hW : WalkIs zs ((x :: xs).take (k0 + 1)) ws) (hno : k0 = xs.length ∨ ∃ v u, (x :: xs)[k0]? = some v ∧ (x :: xs)[k0 + 1]? = some u ∧ NoArc zs v u) :
    Calls Try.prog 5 #[.agg #[.slice fo (n + 1) fc, .slice uo zs.length tc, .slice wo zs.length wc], .slice (some ⟨lb, lof, none⟩) (xs.length + 1) lc] w fun e w' => ∃ L v, e = .returned (.tuple #[.int .u64 L, v]) ∧ LenEnd k0 xs.length ws w' L v ∧ Below w.heap.size w w' := by
  obtain ⟨W0, hW0⟩ : ∃ W0, w.alloc (.cells #[.slice fo (n + 1) fc, .slice uo zs.length tc, .slice wo zs.length wc] 27) = W0 := ⟨_, rfl⟩
  have HW0 : Hid (w.alloc (.cells #[.slice fo (n + 1) fc, .slice uo zs.length tc, .slice wo zs.length wc] 27) = W0) := hW0
  have hB0 : Below w.heap.size w W0 := by rw [← hW0]; exact (Below.refl _ w).alloc (Nat.le_refl _) _
  have hbx : W0.heap[w.heap.size]? = some (.cells #[.slice fo (n + 1) fc, .slice uo zs.length tc, .slice wo zs.length wc] 27) := by rw [← hW0]; exact heap_new _ _
  have HK : Hid (∀ wx, Below W0.heap.size W0 wx → (wx.cell? ⟨w.heap.size, 0, none⟩ = some (.slice fo (n + 1) fc) ∧ wx.cell? ⟨w.heap.size, 1, none⟩ = some (.slice uo zs.length tc) ∧ wx.cell? ⟨w.heap.size, 2, none⟩ = some (.slice wo zs.length wc)) ∧ w.heap.size < wx.heap.size ∧ Below w.heap.size w wx ∧ HasInts wx (.slice (some ⟨lb, lof, none⟩) (xs.length + 1) lc) (x :: xs) ∧ CsrIn wx n zs fo uo wo fc tc wc) := fun wx hwx => by
    have hg := (hwx.block _ (lt_of_get hbx)).trans hbx
    have hb := hB0.trans (hwx.mono hB0.size)
    exact ⟨box3 hg, lt_of_get hg, hb, hx.keep hb, h.keep hb⟩
  have HCL : Hid (Calls Try.prog 17 #[.agg #[.slice fo (n + 1) fc, .slice uo zs.length tc, .slice wo zs.length wc], .slice (some ⟨lb, lof, none⟩) (xs.length + 1) lc] W0 fun e w' => e = .returned .nilIface ∧ Below W0.heap.size W0 w') := checkList_good n zs fo _ wo fc tc wc W0 hz (h.keep hB0) _ lc (x :: xs) (hx.keep hB0) (by simp; omega) (by simp) hn
  have hwl : ws.length = k0 := by have := hW.1; rw [List.length_take] at this; simp at this; omega
  have HST : Hid (∀ wx, Below W0.heap.size W0 wx → ∀ (k : Nat) (v u r : Int) (ok : Bool), k ≤ k0 → (x :: xs)[k]? = some v → StepIs zs v u r ok → (0 ≤ r ∧ r ≤ 2147483647) → Calls Try.prog 18 #[.agg #[.slice fo (n + 1) fc, .slice uo zs.length tc, .slice wo zs.length wc], .int .i64 v, .int .i64 u] wx fun e w' => e = .returned (.tuple #[.int .u64 r, .bool ok]) ∧ Below wx.heap.size wx w') := fun wx hwx k v u r ok hk hv hs hr => by
    obtain ⟨v1, v2⟩ := hn v (List.mem_of_getElem? hv)
    obtain ⟨p, rfl⟩ : ∃ p : Nat, v = (p : Int) := ⟨v.toNat, by omega⟩
    exact step_any n zs fo uo wo fc tc wc wx hz (HK.out wx hwx).2.2.2.2 htc p (by omega) u r ok hr hs
  have HWK : Hid (∀ (k : Nat) (r : Int), ws[k]? = some r → ∃ v u, (x :: xs)[k]? = some v ∧ (x :: xs)[k + 1]? = some u ∧ (0 ≤ r ∧ r ≤ 2147483647) ∧ StepIs zs v u r true) := fun k r hr => by
    obtain ⟨v, u, h1, h2, h3⟩ := hW.2 k r hr
    obtain ⟨_, _, _, _, _, g3, g4⟩ := hz.ends _ h3
    rw [List.getElem?_take] at h1 h2
    split at h1 <;> split at h2
    · exact ⟨v, u, h1, h2, ⟨g3, g4⟩, Or.inl ⟨rfl, h3⟩⟩
    all_goals simp at h1 h2
  have HSB : Hid (∀ k : Nat, k ≤ ws.length → 0 ≤ (ws.take k).sum ∧ (ws.take k).sum ≤ (k : Int) * 2147483647) := sum_le fun i r hr => by
    obtain ⟨v, u, _, _, h3⟩ := hW.2 i r hr
    exact ⟨(hz.ends _ h3).2.2.2.2.2.1, (hz.ends _ h3).2.2.2.2.2.2⟩
  have HNO : Hid (type_of% hno) := hno
  have hlc1 : (xs.length : Int) + 1 ≤ (lc : Int) := by omega
  obtain ⟨lof', hs1, hs2⟩ := isl_tail lb lof xs.length lc hlc
  have HS2 : Hid (type_of% hs2) := hs2
  clear h hW0 hB0 hbx hz hx hn hW hno hs2
  go_enter Try.func5, Try.ntmps5
  obtain ⟨⟨c0, c1, c2⟩, cs, _, _, _⟩ := HK.out W0 (Below.refl _ _)
  go_wp2_with fail
  rw [HW0.out]
  refine HCL.out.mono ?_
  rintro e w1 ⟨rfl, hb1⟩
  have HB1 : Hid (Below W0.heap.size W0 w1) := hb1
  clear hb1 c0 c1 c2 cs
  go_wp2_with fail
  go_loopw [7, 21] (fun sv iv wr => ∃ k : Nat, k ≤ k0 ∧ iv = .int .i64 k ∧ sv = .int .u64 (ws.take k).sum ∧ Below W0.heap.size W0 wr) (fun _ iv _ => xs.length - (intOf iv).toNat)
  case atStart => exact ⟨0, Nat.zero_le _, rfl, by simp, HB1.out⟩
  case round =>
    obtain ⟨k, hk, rfl, rfl, hb⟩ := hrel
    have HBR : Hid (Below W0.heap.size W0 wr) := hb
    obtain ⟨⟨c0, c1, c2⟩, cs, hbw, hV, _⟩ := HK.out wr hb
    have HBZ : Hid (Below w.heap.size w wr) := hbw
    clear hbw hb
    by_cases hlt : k < xs.length
    · obtain ⟨v, u, r, ok, hv, hu, ⟨r0, r1⟩, hSt, hcase⟩ : ∃ v u r ok, (x :: xs)[k]? = some v ∧ (x :: xs)[k + 1]? = some u ∧ (0 ≤ r ∧ r ≤ 2147483647) ∧ StepIs zs v u r ok ∧ ((ok = true ∧ k < k0 ∧ ws[k]? = some r) ∨ (ok = false ∧ k = k0 ∧ r = 0)) := by
        by_cases hkk : k < k0
        · obtain ⟨r, hr⟩ : ∃ r, ws[k]? = some r := ⟨ws[k], List.getElem?_eq_getElem (by omega)⟩
          obtain ⟨v, u, h1, h2, h3, h4⟩ := HWK.out k r hr
          exact ⟨v, u, r, true, h1, h2, h3, h4, Or.inl ⟨rfl, hkk, hr⟩⟩
        · obtain rfl : k = k0 := by omega
          rcases HNO.out with e | ⟨v, u, h1, h2, h3⟩
          · omega
          · exact ⟨v, u, 0, false, h1, h2, ⟨by omega, by omega⟩, Or.inr ⟨rfl, rfl, h3⟩, Or.inr ⟨rfl, rfl, rfl⟩⟩
      have HCS : Hid (∀ wx, Below W0.heap.size W0 wx → Calls Try.prog 18 #[.agg #[.slice fo (n + 1) fc, .slice uo zs.length tc, .slice wo zs.length wc], .int .i64 v, .int .i64 u] wx fun e w' => e = .returned (.tuple #[.int .u64 r, .bool ok]) ∧ Below wx.heap.size wx w') := fun wx hwx => HST.out wx hwx k v u r ok hk hv hSt ⟨r0, r1⟩
      have HQV : Hid (∀ wx, Below W0.heap.size W0 wx → wx.cell? ⟨lb, lof + k, none⟩ = some (.int .i64 v) ∧ lb < wx.heap.size) := fun wx hwx => by
        obtain ⟨b, off, e, hbl, q⟩ := (HK.out wx hwx).2.2.2.1.at hv
        cases e
        exact ⟨q, hbl⟩
      obtain ⟨b, off, e, hbl, q0⟩ := hV.at hv
      cases e
      obtain ⟨b, off, e, hbl', q1⟩ := hV.at hu
      cases e
      have q1' : wr.cell? ⟨lb, lof' + k, none⟩ = some (.int .i64 u) := by rw [HS2.out (by omega), show lof + 1 + k = lof + (k + 1) by omega]; exact q1
      have i1 : (k : Int) < (xs.length : Int) := by omega
      have i2 : (0 : Int) ≤ (k : Int) := by omega
      have i3 : (k : Int) < (xs.length : Int) + 1 := by omega
      obtain ⟨s0, s1⟩ := HSB.out k (by omega)
      rcases hcase with ⟨rfl, hkk, hr⟩ | ⟨rfl, rfl, rfl⟩
      · have HS1 : Hid ((ws.take (k + 1)).sum = (ws.take k).sum + r) := sum_take hr
        generalize (ws.take k).sum = S at *
        have sw : IntKind.u64.wrap (S + r) = S + r := by rw [IntKind.wrap_u64] <;> omega
        clear hV hv hu hr q1 hSt
        go_wp2_with fail
        go_region_held3 (fun w' => (w'.cell? ⟨w.heap.size, 0, none⟩ = some (.slice fo (n + 1) fc) ∧ w'.cell? ⟨w.heap.size, 1, none⟩ = some (.slice uo zs.length tc) ∧ w'.cell? ⟨w.heap.size, 2, none⟩ = some (.slice wo zs.length wc)) ∧ w'.cell? ⟨lb, lof + k, none⟩ = some (.int .i64 v)) (go_keep) (first
          | (go_at_call 18; refine (HCS.out _ HBR.out.drew).mono ?_; rintro e w2 ⟨rfl, hb2⟩; have HB2 : Hid (Below W0.heap.size W0 w2) := (HBR.out.drew).trans (hb2.mono HBR.out.size); clear hb2; obtain ⟨⟨d0, d1, d2⟩, ds, _, hV2, _⟩ := HK.out w2 HB2.out; obtain ⟨d3, dl⟩ := HQV.out w2 HB2.out; clear hV2))
        go_wp2
        go_roundw
        case rel => exact ⟨k + 1, by omega, by go_num, by rw [HS1.out], HB2.out⟩
        case measure => simp [intOf]; omega
      · clear hV hv hu q1 hSt
        generalize (ws.take k).sum = S at *
        go_wp2_with fail
        go_region_held3 (fun w' => (w'.cell? ⟨w.heap.size, 0, none⟩ = some (.slice fo (n + 1) fc) ∧ w'.cell? ⟨w.heap.size, 1, none⟩ = some (.slice uo zs.length tc) ∧ w'.cell? ⟨w.heap.size, 2, none⟩ = some (.slice wo zs.length wc)) ∧ w'.cell? ⟨lb, lof + k, none⟩ = some (.int .i64 v)) (go_keep) (first
          | (go_at_call 18; refine (HCS.out _ HBR.out.drew).mono ?_; rintro e w2 ⟨rfl, hb2⟩; have HB2 : Hid (Below W0.heap.size W0 w2) := (HBR.out.drew).trans (hb2.mono HBR.out.size); clear hb2; obtain ⟨⟨d0, d1, d2⟩, ds, _, hV2, _⟩ := HK.out w2 HB2.out; obtain ⟨d3, dl⟩ := HQV.out w2 HB2.out; clear hV2))
        have HBY : Hid (Below w.heap.size w w2) := (HK.out w2 HB2.out).2.2.1
        go_wp2_with (go_at_call 19; refine (at_some _ _ _ _ _).mono ?_; rintro e w9 ⟨rfl, rfl⟩)
        go_ret2
        exact ⟨_, _, rfl, Or.inr ⟨by omega, rfl, Or.inr ⟨by simp, isErr_new (p := (4, (k : Int))) (show IsErr w2 (.iface 59 (.int .i64 16)) [] (.iface 59 (.int .i64 16)) from rfl)⟩⟩, HBY.out.alloc HBY.out.size _⟩
    · obtain rfl : k = xs.length := by omega
      obtain rfl : xs.length = k0 := by omega
      have HSE : Hid ((ws.take xs.length).sum = ws.sum) := by show _ = _; rw [← hwl, List.take_length]
      rw [HSE.out]
      clear hV
      go_wp2
      go_ret2
      exact ⟨_, _, rfl, Or.inl ⟨rfl, rfl, Or.inl ⟨rfl, rfl⟩⟩, HBZ.out⟩
end Go.Proofs.Ytefcmpdnlbpjpaa

namespace Go.Proofs.Ytefcmpdnlbpjpaa

theorem walk_take {zs : List (Int × Int × Int)} {xs ws : List Int} (h : WalkIs zs xs ws) {i : Nat} (hi : i + 1 ≤ xs.length) : WalkIs zs (xs.take (i + 1)) (ws.take i) := by
  obtain ⟨h1, h2⟩ := h
  refine ⟨by rw [List.length_take, List.length_take]; omega, fun j r hj => ?_⟩
  rw [List.getElem?_take] at hj
  split at hj
  · obtain ⟨v, u, g1, g2, g3⟩ := h2 j r hj
    exact ⟨v, u, by rw [List.getElem?_take, if_pos (by omega)]; exact g1, by rw [List.getElem?_take, if_pos (by omega)]; exact g2, g3⟩
  · cases hj
theorem walk_snoc {zs : List (Int × Int × Int)} {S ws : List Int} {v u r : Int} (h : WalkIs zs S ws) (hv : S[S.length - 1]? = some v) (hr : (v, u, r) ∈ zs) : WalkIs zs (S ++ [u]) (ws ++ [r]) := by
  obtain ⟨h1, h2⟩ := h
  refine ⟨by simp; omega, fun j x hj => ?_⟩
  rcases Nat.lt_or_ge j ws.length with hl | hl
  · rw [List.getElem?_append_left hl] at hj
    obtain ⟨a, b, g1, g2, g3⟩ := h2 j x hj
    have l2 := (List.getElem?_eq_some_iff.1 g2).1
    exact ⟨a, b, by rw [List.getElem?_append_left (by omega)]; exact g1, by rw [List.getElem?_append_left l2]; exact g2, g3⟩
  · have l1 := (List.getElem?_eq_some_iff.1 hj).1
    simp at l1
    obtain rfl : j = ws.length := by omega
    rw [List.getElem?_append_right (Nat.le_refl _), Nat.sub_self] at hj
    obtain rfl : r = x := by simpa using hj
    refine ⟨v, u, ?_, ?_, hr⟩
    · rw [List.getElem?_append_left (by omega), show ws.length = S.length - 1 by omega]; exact hv
    · rw [List.getElem?_append_right (by omega), show ws.length + 1 - S.length = 0 by omega]; rfl
theorem sum_take_le : ∀ {l : List Int}, (∀ r ∈ l, 0 ≤ r) → ∀ i, (l.take i).sum ≤ l.sum ∧ 0 ≤ l.sum
  | [], _, i => by simp
  | a :: t, h, 0 => by
    have := (sum_take_le (l := t) (fun r hr => h r (List.mem_cons_of_mem _ hr)) 0).2
    have h0 := h a (by simp)
    simp only [List.take_zero, List.sum_nil, List.sum_cons]
    omega
  | a :: t, h, i + 1 => by
    have := sum_take_le (l := t) (fun r hr => h r (List.mem_cons_of_mem _ hr)) i
    have h0 := h a (by simp)
    simp only [List.take_succ_cons, List.sum_cons]
    omega
/-- neighbours of a list. -/
def Near (xs : List Int) (a b : Int) : Prop := ∃ j, xs[j]? = some a ∧ xs[j + 1]? = some b
structure SimpI (zs : List (Int × Int × Int)) (xs : List Int) (m : Nat) (S : List Int) : Prop where
  pos : 0 < S.length
  head : S[0]? = xs[0]?
  last : S[S.length - 1]? = xs[m]?
  near : ∀ i a b, S[i]? = some a → S[i + 1]? = some b → Near xs a b
  len : ∀ ws, WalkIs zs (xs.take (m + 1)) ws → (∀ r ∈ ws, 0 ≤ r) → ∃ ws', WalkIs zs S ws' ∧ ws'.sum ≤ ws.sum ∧ ∀ r ∈ ws', 0 ≤ r
theorem SimpI.next {zs : List (Int × Int × Int)} {xs S : List Int} {m : Nat} (h : SimpI zs xs m S) {a : Int} (ha : xs[m + 1]? = some a) : SimpI zs xs (m + 1) (stepS S a) := by
  have hal := (List.getElem?_eq_some_iff.1 ha).1
  have hp := h.pos
  have hwcut : ∀ ws, WalkIs zs (xs.take (m + 1 + 1)) ws → WalkIs zs (xs.take (m + 1)) (ws.take m) ∧ ∃ r v, ws = ws.take m ++ [r] ∧ xs[m]? = some v ∧ (v, a, r) ∈ zs := fun ws hw => by
    have h1 := walk_take hw (i := m) (by rw [List.length_take]; omega)
    rw [List.take_take, Nat.min_eq_left (by omega)] at h1
    have hl := hw.1
    rw [List.length_take] at hl
    obtain ⟨r, hr⟩ : ∃ r, ws[m]? = some r := ⟨ws[m], List.getElem?_eq_getElem (by omega)⟩
    obtain ⟨v, u, g1, g2, g3⟩ := hw.2 m r hr
    rw [List.getElem?_take, if_pos (by omega)] at g1 g2
    rw [ha] at g2
    obtain rfl := Option.some.inj g2
    refine ⟨h1, r, v, ?_, g1, g3⟩
    rw [← take_snoc hr, List.take_of_length_le (by omega)]
  unfold stepS
  by_cases hm : a ∈ S
  · rw [if_pos hm]
    have hi := List.idxOf_lt_length_iff.2 hm
    have hia : S[S.idxOf a]? = some a := by rw [List.getElem?_eq_getElem hi]; simp
    generalize S.idxOf a = i at hi hia
    have hl : (S.take (i + 1)).length = i + 1 := by rw [List.length_take]; omega
    refine ⟨by omega, by rw [List.getElem?_take, if_pos (by omega)]; exact h.head, ?_, fun j x y hx hy => ?_, fun ws hw h0 => ?_⟩
    · rw [hl, Nat.add_sub_cancel, List.getElem?_take, if_pos (by omega), hia, ha]
    · rw [List.getElem?_take] at hx hy
      split at hx
      · split at hy
        · exact h.near j x y hx hy
        · cases hy
      · cases hx
    · obtain ⟨h1, r, v, h2, _, _⟩ := hwcut ws hw
      have h0' : ∀ r ∈ ws.take m, 0 ≤ r := fun r hr => h0 r (List.mem_of_mem_take hr)
      obtain ⟨ws', g1, g2, g3⟩ := h.len _ h1 h0'
      refine ⟨ws'.take i, walk_take g1 (by omega), ?_, fun r hr => g3 r (List.mem_of_mem_take hr)⟩
      have e1 := (sum_take_le g3 i).1
      have e2 := (sum_take_le h0 m).1
      omega
  · rw [if_neg hm]
    refine ⟨by simp, by rw [List.getElem?_append_left hp]; exact h.head, ?_, fun j x y hx hy => ?_, fun ws hw h0 => ?_⟩
    · rw [List.length_append, List.length_singleton, Nat.add_sub_cancel, List.getElem?_append_right (Nat.le_refl _), Nat.sub_self, ha]
      rfl
    · rcases Nat.lt_or_ge (j + 1) S.length with hl | hl
      · rw [List.getElem?_append_left (by omega)] at hx
        rw [List.getElem?_append_left hl] at hy
        exact h.near j x y hx hy
      · have l1 := (List.getElem?_eq_some_iff.1 hy).1
        simp at l1
        rw [List.getElem?_append_left (by omega), show j = S.length - 1 by omega, h.last] at hx
        rw [List.getElem?_append_right (by omega), show j + 1 - S.length = 0 by omega] at hy
        obtain rfl : a = y := by simpa using hy
        exact ⟨m, hx, ha⟩
    · obtain ⟨h1, r, v, h2, h3, h4⟩ := hwcut ws hw
      have h0' : ∀ r ∈ ws.take m, 0 ≤ r := fun r hr => h0 r (List.mem_of_mem_take hr)
      obtain ⟨ws', g1, g2, g3⟩ := h.len _ h1 h0'
      have hr0 : 0 ≤ r := h0 r (by rw [h2]; simp)
      refine ⟨ws' ++ [r], walk_snoc g1 (h.last.trans h3) h4, ?_, fun x hx => ?_⟩
      · rw [h2, List.sum_append, List.sum_append]
        omega
      · rcases List.mem_append.1 hx with hx | hx
        · exact g3 x hx
        · simp at hx
          subst hx
          exact hr0
theorem simp_first {xs : List Int} {x : Int} (h : xs[0]? = some x) : simpS (xs.take 1) = [x] := by
  rw [take_snoc h]
  simp [simpS, stepS]
theorem simp_inv (zs : List (Int × Int × Int)) (xs : List Int) : ∀ m, m < xs.length → SimpI zs xs m (simpS (xs.take (m + 1)))
  | 0, hm => by
    have hx : xs[0]? = some xs[0] := List.getElem?_eq_getElem hm
    rw [simp_first hx]
    refine ⟨by simp, by rw [hx]; rfl, by rw [hx]; rfl, fun i a b _ h => by simp at h, fun ws hw h0 => ⟨[], ⟨rfl, fun i r h => by simp at h⟩, (sum_take_le h0 0).2, fun r h => by cases h⟩⟩
  | m + 1, hm => by
    have hx : xs[m + 1]? = some xs[m + 1] := List.getElem?_eq_getElem hm
    rw [simpS_snoc hx]
    exact (simp_inv zs xs m (by omega)).next hx
theorem simp_all (zs : List (Int × Int × Int)) {xs : List Int} (h : xs ≠ []) : SimpI zs xs (xs.length - 1) (simpS xs) := by
  have hp := List.length_pos_iff.2 h
  have := simp_inv zs xs (xs.length - 1) (by omega)
  rw [show xs.length - 1 + 1 = xs.length by omega, List.take_length] at this
  exact this
theorem simp_self {s : List Int} (h : s.Nodup) : ∀ k, k ≤ s.length → simpS (s.take k) = s.take k
  | 0, _ => by simp [simpS]
  | k + 1, hk => by
    have hx : s[k]? = some s[k] := List.getElem?_eq_getElem hk
    rw [simpS_snoc hx, simp_self h k (by omega), take_snoc hx]
    unfold stepS
    rw [if_neg]
    intro hm
    obtain ⟨j, hj⟩ := List.getElem?_of_mem hm
    rw [List.getElem?_take] at hj
    split at hj
    · rename_i hjk
      have := (List.getElem?_inj (List.getElem?_eq_some_iff.1 hj).1 h).1 (hj.trans hx.symm)
      omega
    · cases hj
theorem simp_simp (xs : List Int) : simpS (simpS xs) = simpS xs := by
  have := simp_self (simpS_nodup xs) (simpS xs).length (Nat.le_refl _)
  rwa [List.take_length] at this
theorem nodup_at {s : List Int} (h : s.Nodup) {i j : Nat} {a b : Int} (hi : s[i]? = some a) (hj : s[j]? = some b) (hij : i < j) : ¬ a = b := fun e => by
  subst e
  have := (List.getElem?_inj (List.getElem?_eq_some_iff.1 hi).1 h).1 (hi.trans hj.symm)
  omega
/-- the lengths of a list and of what is simple of it. -/
theorem simp_len {n : Nat} {zs : List (Int × Int × Int)} (hz : Fine n zs) {xs ws : List Int} (hn : Nodes n xs) (h0 : xs ≠ []) (hw : WalkIs zs xs ws) : Nodes n (simpS xs) ∧ simpS xs ≠ [] ∧ ∃ ws', WalkIs zs (simpS xs) ws' ∧ ws'.sum ≤ ws.sum := by
  have h := simp_all zs h0
  have hp := List.length_pos_iff.2 h0
  have hr : ∀ r ∈ ws, 0 ≤ r := fun r hr => by
    obtain ⟨i, hi⟩ := List.getElem?_of_mem hr
    obtain ⟨v, u, _, _, h3⟩ := hw.2 i r hi
    exact (hz.ends _ h3).2.2.2.2.2.1
  obtain ⟨ws', g1, g2, _⟩ := h.len ws (by rw [show xs.length - 1 + 1 = xs.length by omega, List.take_length]; exact hw) hr
  exact ⟨fun v hv => hn v (simpS_mem hv), List.length_pos_iff.1 h.pos, ws', g1, g2⟩
end Go.Proofs.Ytefcmpdnlbpjpaa
