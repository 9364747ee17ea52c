/- walk.Length of a walk: the sum of its weights. -/
import Derived.Test.YtdfjmfgbdnpkbaaDoorWkG
namespace Go.Proofs.YtdfjmfgbdnpkbaaDoor
open Go.RowKit Go.Extern

attribute [local go_sem] Oper.semAt_some

/-- a list is a walk, with these weights. -/
def WalkIs (zs : List (Int × Int × Int)) (xs ws : List Int) : Prop := ws.length + 1 = xs.length ∧ ∀ i r, ws[i]? = some r → ∃ v u, xs[i]? = some v ∧ xs[i + 1]? = some u ∧ (v, u, r) ∈ zs
theorem sum_take {ws : List Int} {k : Nat} {r : Int} (h : ws[k]? = some r) : (ws.take (k + 1)).sum = (ws.take k).sum + r := by
  rw [take_snoc h, List.sum_append]
  simp
theorem sum_le {ws : List Int} (h : ∀ (i : Nat) (r : Int), ws[i]? = some r → 0 ≤ r ∧ r ≤ 2147483647) : ∀ k : Nat, k ≤ ws.length → 0 ≤ (ws.take k).sum ∧ (ws.take k).sum ≤ (k : Int) * 2147483647
  | 0, _ => by simp
  | k + 1, hk => by
    have e : ws[k]? = some ws[k] := List.getElem?_eq_getElem (by omega)
    have ih := sum_le h k (by omega)
    have h1 := h k _ e
    rw [sum_take e]
    omega

set_option maxRecDepth 100000 in
set_option maxHeartbeats 4000000 in
theorem length_walk (n : Nat) (zs : List (Int × Int × Int)) (fo wo : Option Addr) (tb tof fc tc wc : Nat) (w : World) (hz : Fine n zs) (h : CsrIn w n zs fo (some ⟨tb, tof, none⟩) wo fc tc wc) (htc : zs.length ≤ tc) (lb lof lc : Nat) (x : Int) (xs ws : List Int) (hx : HasInts w (.slice (some ⟨lb, lof, none⟩) (xs.length + 1) lc) (x :: xs)) (hlc : xs.length + 1 ≤ lc) (hl1 : lc ≠ 1) (hll : xs.length < 1000000) (hn : ∀ v ∈ x :: xs, 0 ≤ v ∧ v < (n : Int)) (hW : WalkIs zs (x :: xs) ws) :
    Calls Tryd.prog 8 #[.agg #[.slice fo (n + 1) fc, .slice (some ⟨tb, tof, none⟩) zs.length tc, .slice wo zs.length wc], .slice (some ⟨lb, lof, none⟩) (xs.length + 1) lc] w fun e w' => e = .returned (.tuple #[.int .u64 ws.sum, .nilIface]) ∧ Below w.heap.size w w' := by
  obtain ⟨W0, hW0⟩ : ∃ W0, w.alloc (.cells #[.slice fo (n + 1) fc, .slice (some ⟨tb, tof, none⟩) zs.length tc, .slice wo zs.length wc] 32) = W0 := ⟨_, rfl⟩
  have HW0 : Hid (w.alloc (.cells #[.slice fo (n + 1) fc, .slice (some ⟨tb, tof, none⟩) zs.length tc, .slice wo zs.length wc] 32) = W0) := hW0
  have hB0 : Below w.heap.size w W0 := by rw [← hW0]; exact (Below.refl _ w).alloc (Nat.le_refl _) _
  have hbx : W0.heap[w.heap.size]? = some (.cells #[.slice fo (n + 1) fc, .slice (some ⟨tb, tof, none⟩) zs.length tc, .slice wo zs.length wc] 32) := by rw [← hW0]; exact heap_new _ _
  have HK : Hid (∀ wx, Below W0.heap.size W0 wx → (wx.cell? ⟨w.heap.size, 0, none⟩ = some (.slice fo (n + 1) fc) ∧ wx.cell? ⟨w.heap.size, 1, none⟩ = some (.slice (some ⟨tb, tof, none⟩) zs.length tc) ∧ wx.cell? ⟨w.heap.size, 2, none⟩ = some (.slice wo zs.length wc)) ∧ w.heap.size < wx.heap.size ∧ Below w.heap.size w wx ∧ HasInts wx (.slice (some ⟨lb, lof, none⟩) (xs.length + 1) lc) (x :: xs) ∧ CsrIn wx n zs fo (some ⟨tb, tof, none⟩) wo fc tc wc) := fun wx hwx => by
    have hg := (hwx.block _ (lt_of_get hbx)).trans hbx
    have hb := hB0.trans (hwx.mono hB0.size)
    exact ⟨box3 hg, lt_of_get hg, hb, hx.keep hb, h.keep hb⟩
  have HCL : Hid (Calls Tryd.prog 27 #[.agg #[.slice fo (n + 1) fc, .slice (some ⟨tb, tof, none⟩) zs.length tc, .slice wo zs.length wc], .slice (some ⟨lb, lof, none⟩) (xs.length + 1) lc] W0 fun e w' => e = .returned .nilIface ∧ Below W0.heap.size W0 w') := checkList_good n zs fo _ wo fc tc wc W0 hz (h.keep hB0) _ lc (x :: xs) (hx.keep hB0) (by simp; omega) (by simp) hn
  have HST : Hid (∀ wx, Below W0.heap.size W0 wx → ∀ (k : Nat) (r : Int), ws[k]? = some r → ∃ v u, (x :: xs)[k]? = some v ∧ (x :: xs)[k + 1]? = some u ∧ (0 ≤ r ∧ r ≤ 2147483647) ∧ Calls Tryd.prog 28 #[.agg #[.slice fo (n + 1) fc, .slice (some ⟨tb, tof, none⟩) zs.length tc, .slice wo zs.length wc], .int .i64 v, .int .i64 u] wx fun e w' => e = .returned (.tuple #[.int .u64 r, .bool true]) ∧ Below wx.heap.size wx w') := fun wx hwx k r hr => by
    obtain ⟨v, u, h1, h2, h3⟩ := hW.2 k r hr
    obtain ⟨g1, g2, _, _, _, g3, g4⟩ := hz.ends _ h3
    obtain ⟨p, rfl⟩ : ∃ p : Nat, v = (p : Int) := ⟨v.toNat, by simp only at g1; omega⟩
    exact ⟨p, u, h1, h2, ⟨g3, g4⟩, step_good n zs fo wo tb tof fc tc wc wx hz (HK.out wx hwx).2.2.2.2 htc p (by simp only at g2; omega) u r true ⟨g3, g4⟩ (Or.inl ⟨rfl, h3⟩)⟩
  have hwl : ws.length = xs.length := by have := hW.1; simp at this; exact this
  have HSB : Hid (∀ k : Nat, k ≤ ws.length → 0 ≤ (ws.take k).sum ∧ (ws.take k).sum ≤ (k : Int) * 2147483647) := sum_le fun i r hr => by
    obtain ⟨v, u, _, _, h3⟩ := hW.2 i r hr
    exact ⟨(hz.ends _ h3).2.2.2.2.2.1, (hz.ends _ h3).2.2.2.2.2.2⟩
  have hlc1 : (xs.length : Int) + 1 ≤ (lc : Int) := by omega
  clear h hW0 hB0 hbx hz hx hn hW
  go_enter Tryd.func8, Tryd.ntmps8
  obtain ⟨⟨c0, c1, c2⟩, cs, _, _, _⟩ := HK.out W0 (Below.refl _ _)
  go_wp2_with fail
  rw [HW0.out]
  refine HCL.out.mono ?_
  rintro e w1 ⟨rfl, hb1⟩
  have HB1 : Hid (Below W0.heap.size W0 w1) := hb1
  clear hb1 c0 c1 c2 cs
  go_wp2_with fail
  go_loopw [7, 21] (fun sv iv wr => ∃ k : Nat, k ≤ xs.length ∧ iv = .int .i64 k ∧ sv = .int .u64 (ws.take k).sum ∧ Below W0.heap.size W0 wr) (fun _ iv _ => xs.length - (intOf iv).toNat)
  case atStart => exact ⟨0, Nat.zero_le _, rfl, by simp, HB1.out⟩
  case round =>
    obtain ⟨k, hk, rfl, rfl, hb⟩ := hrel
    have HBR : Hid (Below W0.heap.size W0 wr) := hb
    obtain ⟨⟨c0, c1, c2⟩, cs, hbw, hV, _⟩ := HK.out wr hb
    have HBZ : Hid (Below w.heap.size w wr) := hbw
    clear hbw hb
    by_cases hlt : k < xs.length
    · obtain ⟨r, hr⟩ : ∃ r, ws[k]? = some r := ⟨ws[k], List.getElem?_eq_getElem (by omega)⟩
      obtain ⟨v, u, hv, hu, ⟨r0, r1⟩, _⟩ := HST.out wr HBR.out k r hr
      have HCS : Hid (∀ wx, Below W0.heap.size W0 wx → Calls Tryd.prog 28 #[.agg #[.slice fo (n + 1) fc, .slice (some ⟨tb, tof, none⟩) zs.length tc, .slice wo zs.length wc], .int .i64 v, .int .i64 u] wx fun e w' => e = .returned (.tuple #[.int .u64 r, .bool true]) ∧ Below wx.heap.size wx w') := fun wx hwx => by
        obtain ⟨v', u', hv', hu', _, hc⟩ := HST.out wx hwx k r hr
        obtain rfl := Option.some.inj (hv.symm.trans hv')
        obtain rfl := Option.some.inj (hu.symm.trans hu')
        exact hc
      have HQV : Hid (∀ wx, Below W0.heap.size W0 wx → wx.cell? ⟨lb, lof + k, none⟩ = some (.int .i64 v) ∧ lb < wx.heap.size) := fun wx hwx => by
        obtain ⟨b, off, e, hbl, q⟩ := (HK.out wx hwx).2.2.2.1.at hv
        cases e
        exact ⟨q, hbl⟩
      obtain ⟨b, off, e, hbl, q0⟩ := hV.at hv
      cases e
      obtain ⟨b, off, e, hbl', q1⟩ := hV.at hu
      cases e
      have q1' : wr.cell? ⟨lb, lof + 1 + k, none⟩ = some (.int .i64 u) := by rw [show lof + 1 + k = lof + (k + 1) by omega]; exact q1
      have i1 : (k : Int) < (xs.length : Int) := by omega
      have i2 : (0 : Int) ≤ (k : Int) := by omega
      have i3 : (k : Int) < (xs.length : Int) + 1 := by omega
      obtain ⟨s0, s1⟩ := HSB.out k (by omega)
      have HS1 : Hid ((ws.take (k + 1)).sum = (ws.take k).sum + r) := sum_take hr
      generalize (ws.take k).sum = S at *
      have sw : IntKind.u64.wrap (S + r) = S + r := by rw [IntKind.wrap_u64] <;> omega
      clear hV hv hu hr q1
      go_wp2_with fail
      go_region_held3 (fun w' => (w'.cell? ⟨w.heap.size, 0, none⟩ = some (.slice fo (n + 1) fc) ∧ w'.cell? ⟨w.heap.size, 1, none⟩ = some (.slice (some ⟨tb, tof, none⟩) zs.length tc) ∧ w'.cell? ⟨w.heap.size, 2, none⟩ = some (.slice wo zs.length wc)) ∧ w'.cell? ⟨lb, lof + k, none⟩ = some (.int .i64 v)) (go_keep) (first
        | (go_at_call 28; refine (HCS.out _ HBR.out.drew).mono ?_; rintro e w2 ⟨rfl, hb2⟩; have HB2 : Hid (Below W0.heap.size W0 w2) := (HBR.out.drew).trans (hb2.mono HBR.out.size); clear hb2; obtain ⟨⟨d0, d1, d2⟩, ds, _, hV2, _⟩ := HK.out w2 HB2.out; obtain ⟨d3, dl⟩ := HQV.out w2 HB2.out; clear hV2))
      go_wp2
      go_roundw
      case rel => exact ⟨k + 1, by omega, by go_num, by rw [HS1.out], HB2.out⟩
      case measure => simp [intOf]; omega
    · obtain rfl : k = xs.length := by omega
      have HSE : Hid ((ws.take xs.length).sum = ws.sum) := by show _ = _; rw [← hwl, List.take_length]
      rw [HSE.out]
      clear hV
      go_wp2
      go_ret2
      exact ⟨rfl, HBZ.out⟩
end Go.Proofs.YtdfjmfgbdnpkbaaDoor
