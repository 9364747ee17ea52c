/- The law HeapTwo, walked. -/
import Derived.Test.YtkeniogcjhmikaaDoorTwoH
namespace Go.Proofs.YtkeniogcjhmikaaDoor
open Go.RowKit

attribute [local go_sem] Oper.semAt_some

set_option maxRecDepth 100000 in
set_option maxHeartbeats 8000000 in
theorem two_calls (n : Nat) (hn2 : n ≤ 200) (so to_ : Option Addr) (m sc m2 tc : Nat) (L L2 : List (Int × Nat × Int)) (w : World) (hg : HasType w) (hlen : L.length = m) (hlen2 : L2.length = m2) (hm : m ≤ maxLen) (hm2 : m2 ≤ maxLen) (ho : HasOps w (.slice so m sc) L) (ho2 : HasOps w (.slice to_ m2 tc) L2) : Calls Tryd.prog 4 #[.int .i64 n, .slice so m sc, .slice to_ m2 tc] w fun e w' => e = .returned (.bool true) ∧ Below w.heap.size w w' := by
  have hn : n ≤ 65536 := by omega
  have HO : Hid (HasOps w (.slice so m sc) L) := ho
  have HO2 : Hid (HasOps w (.slice to_ m2 tc) L2) := ho2
  have HLL : Hid (L.length = m) := hlen
  have HLL2 : Hid (L2.length = m2) := hlen2
  unfold maxLen at hm hm2
  clear ho hlen ho2 hlen2
  have HG : Hid (∀ wx, Below w.heap.size w wx → HasType wx) := fun wx h => hg.keep h hg.pos
  have HAW : Hid (type_of% (awake_calls w)) := awake_calls w
  have HN : Hid (∀ wx, type_of% (new_calls n hn wx)) := fun wx => new_calls n hn wx
  have HD : Hid (∀ wx, type_of% (docNew_calls n hn wx)) := fun wx => docNew_calls n hn wx
  have j1 : ¬ (n : Int) < 0 := by omega
  have j2 : ¬ (200 : Int) < (n : Int) := by omega
  clear hg
  go_enter Tryd.func4, Tryd.ntmps4
  go_wp2_with fail
  refine HAW.out.mono ?_
  rintro e w1 ⟨rfl, hb1⟩
  have BW1 : Hid (Below w.heap.size w w1) := hb1
  clear hb1
  go_wp2_with fail
  refine (HN.out _).mono ?_
  rintro e w2 ⟨rfl, hI2, hb2⟩
  obtain ⟨wb, hwb⟩ : ∃ wb, w1.heap.size = wb := ⟨_, rfl⟩
  rw [hwb] at hI2
  rw [hwb]
  have I2 : Hid (IsHeap w2 (wb + 1) wb n (.slice none 0 0) (fun _ => none) ∧ w.heap.size ≤ wb) := ⟨hI2, by rw [← hwb]; exact BW1.out.size⟩
  have BW2 : Hid (Below w.heap.size w w2) := BW1.out.trans (hb2.mono BW1.out.size)
  clear hI2 hb2 hwb
  go_wp2_with fail
  refine (HN.out _).mono ?_
  rintro e w3 ⟨rfl, hI3, hb3⟩
  obtain ⟨vb, hvb⟩ : ∃ vb, w2.heap.size = vb := ⟨_, rfl⟩
  have I3 : Hid (IsHeap w3 (vb + 1) vb n (.slice none 0 0) (fun _ => none) ∧ IsHeap w3 (wb + 1) wb n (.slice none 0 0) (fun _ => none) ∧ wb + 1 < vb) := by
    rw [hvb] at hI3
    exact ⟨hI3, I2.out.1.below hb3, by have := I2.out.1.lt.1; omega⟩
  rw [hvb]
  have BW3 : Hid (Below w.heap.size w w3) := BW2.out.trans (hb3.mono BW2.out.size)
  clear hI3 hb3 hvb
  go_wp2_with fail
  refine (HD.out _).mono ?_
  rintro e w4 ⟨kb, ib, rfl, hRM, hkb, hib, hb4⟩
  obtain ⟨mb, hmb⟩ : ∃ mb, w4.heap.size = mb := ⟨_, rfl⟩
  obtain ⟨W5, hW5⟩ : ∃ W5, (w4.alloc (.cells #[.slice (some ⟨kb, 0, none⟩) n n, .slice (some ⟨ib, 0, none⟩) n n] 32)).alloc (.cells #[.int .i64 0, .slice none 0 0] 35) = W5 := ⟨_, rfl⟩
  obtain ⟨k0, k1, hB5⟩ := two_new w4 (.cells #[.slice (some ⟨kb, 0, none⟩) n n, .slice (some ⟨ib, 0, none⟩) n n] 32) (.cells #[.int .i64 0, .slice none 0 0] 35)
  rw [hW5] at k0 k1 hB5
  rw [hmb] at k0 k1
  have HT5 : Hid (TI w W5 (wb + 1) wb kb ib mb n (.slice none 0 0) (fun _ => none) (List.replicate n 0) (List.replicate n false) (vb + 1) vb (.slice none 0 0) (fun _ => none)) := by
    have hl := I3.out.1.lt
    have hs3 := BW3.out.size
    have hkl := lt_of_get hRM.krow
    have hil := lt_of_get hRM.irow
    have hw := I2.out.2
    have hv := I3.out.2.2
    have hs4 := hb4.size
    refine ⟨⟨(I3.out.2.1.below hb4).below hB5, hRM.below hB5, k0, ⟨by omega, by omega, fun e => by cases e⟩, ⟨by omega, by omega, fun e => by cases e⟩, ⟨by omega, by omega, fun e => (by cases e), by omega, by omega⟩, ⟨by omega, by omega, by omega, by omega, fun k e => by cases e⟩, ?_⟩, (I3.out.1.below hb4).below hB5, ⟨⟨by omega, by omega, by omega, by omega, by omega⟩, fun e => by cases e⟩, ⟨⟨by omega, by omega, by omega, by omega, by omega⟩, fun e => by cases e⟩, fun k e => (by cases e), ⟨by omega, by omega, fun k e => by cases e⟩⟩
    exact (BW3.out.trans (hb4.mono hs3)).trans (hB5.mono (by omega))
  have HW5 : Hid ((w4.alloc (.cells #[.slice (some ⟨kb, 0, none⟩) n n, .slice (some ⟨ib, 0, none⟩) n n] 32)).alloc (.cells #[.int .i64 0, .slice none 0 0] 35) = W5) := hW5
  have HMB : Hid (w4.heap.size = mb) := hmb
  clear k0 k1 hB5 hW5 hmb hRM hkb hib hb4
  go_upto_region 8 with fail
  rw [HW5.out, HMB.out]
  go_wp2_with fail
  go_loopw [13] (fun iv wr => ∃ (k : Nat) (sv : Value) (f : Int → Option Int) (ls : List Int) (bs : List Bool) (tv : Value) (g : Int → Option Int), (k ≤ m ∨ k ≤ m2) ∧ iv = .int .i64 k ∧ TI w wr (wb + 1) wb kb ib mb n sv f ls bs (vb + 1) vb tv g ∧ Rel n f ls bs) (fun iv _ => (max m m2) - (intOf iv).toNat)
  case atStart => exact ⟨0, _, _, _, _, _, _, Or.inl (Nat.zero_le _), rfl, HT5.out, Rel.new _ _⟩
  case round =>
    obtain ⟨k, sv, f, ls, bs, tv, g, hk, rfl, hT, hR⟩ := hrel
    have HT : Hid (TI w wr (wb + 1) wb kb ib mb n sv f ls bs (vb + 1) vb tv g) := hT
    have HR : Hid (Rel n f ls bs) := hR
    have b0 : (0 : Int) ≤ (k : Int) := by omega
    clear hT hR
    by_cases hB : k < m2
    · obtain ⟨y, hy⟩ : ∃ y, L2[k]? = some y := ⟨L2[k]'(by have := HLL2.out; omega), List.getElem?_eq_getElem _⟩
      obtain ⟨hidy, b', off', hso', hbl', s0, s1, s2⟩ := HO2.out.at hy
      obtain ⟨kindy, idy, keyy⟩ := y
      simp only at hidy s0 s1 s2
      cases hso'
      have y0 := (HT.out.pi.below.cell (p := ⟨b', off' + k * 3, none⟩) hbl').trans s0
      have y1 := (HT.out.pi.below.cell (p := ⟨b', off' + k * 3 + 1, none⟩) hbl').trans s1
      have y2 := (HT.out.pi.below.cell (p := ⟨b', off' + k * 3 + 2, none⟩) hbl').trans s2
      have HDB : Hid (type_of% (do_any HT.out.heap2 hn kindy keyy idy hidy)) := do_any HT.out.heap2 hn kindy keyy idy hidy
      have b2 : (k : Int) < (m2 : Int) := by omega
      clear hy s0 s1 s2 hidy
      by_cases hA : k < m
      · obtain ⟨x, hx⟩ : ∃ x, L[k]? = some x := ⟨L[k]'(by have := HLL.out; omega), List.getElem?_eq_getElem _⟩
        obtain ⟨hid, b, off, hso, hbl, r0, r1, r2⟩ := HO.out.at hx
        obtain ⟨kind, id, key⟩ := x
        simp only at hid r0 r1 r2
        cases hso
        have HCX : Hid (∀ wx, Below w.heap.size w wx → wx.cell? ⟨b, off + k * 3, none⟩ = some (.int .u8 kind) ∧ wx.cell? ⟨b, off + k * 3 + 1, none⟩ = some (.int .u32 (id : Int)) ∧ wx.cell? ⟨b, off + k * 3 + 2, none⟩ = some (.int .u64 key) ∧ b < wx.heap.size) := fun wx h => ⟨(h.cell (p := ⟨b, off + k * 3, none⟩) hbl).trans r0, (h.cell (p := ⟨b, off + k * 3 + 1, none⟩) hbl).trans r1, (h.cell (p := ⟨b, off + k * 3 + 2, none⟩) hbl).trans r2, by have := h.size; omega⟩
        have HBL : Hid (b < w.heap.size) := hbl
        have HID : Hid (id ≤ 4294967295) := hid
        have b1 : (k : Int) < (m : Int) := by omega
        clear hx r0 r1 r2 hid hbl
        go_wp2_with fail
        refine HDB.out.mono ?_
        rintro e w2 ⟨⟨v2, rfl⟩, tv2, g2, hI2, hF2⟩
        have HT2 : Hid (TI w w2 (wb + 1) wb kb ib mb n sv f ls bs (vb + 1) vb tv2 g2) := HT.out.opB hI2 hF2
        clear y0 y1 y2 hI2 hF2 HT
        obtain ⟨f', ls', bs', a, bb, l, code, c, ev, hBoth⟩ := both_exists (kb := kb) (ib := ib) HT2.out.pi.heap hn HT2.out.pi.rm.ll HT2.out.pi.rm.il HR.out kind key id HID.out
        have HBO : Hid (Both (wb + 1) wb n kb ib f f' ls ls' bs bs' kind key id a bb l code c ev) := hBoth
        have HDO : Hid (type_of% (hBoth.prog w2 sv HT2.out.pi.heap)) := hBoth.prog w2 sv HT2.out.pi.heap
        obtain ⟨x0, x1, x2, xl⟩ := HCX.out w2 HT2.out.pi.below
        clear hBoth
        go_wp2_with fail
        refine HDO.out.mono ?_
        rintro e w3 ⟨rfl, sv3, hI3, hF3⟩
        have HT3 : Hid (TI w w3 (wb + 1) wb kb ib mb n sv3 f' ls bs (vb + 1) vb tv2 g2) := HT2.out.opA hI3 hF3
        obtain ⟨ab, hab⟩ : ∃ ab, w3.heap.size = ab := ⟨_, rfl⟩
        obtain ⟨W4, hW4⟩ : ∃ W4, w3.alloc (.cells #[.int .u32 a, .int .u64 bb, .bool c, .int .i64 l, .int .i64 0, .slice none 0 0] 44) = W4 := ⟨_, rfl⟩
        have hB4 : Below w3.heap.size w3 W4 := by rw [← hW4]; exact (Below.refl _ _).alloc (Nat.le_refl _) _
        have ha4 : W4.heap[ab]? = some (.cells #[.int .u32 a, .int .u64 bb, .bool c, .int .i64 l, .int .i64 0, .slice none 0 0] 44) := by rw [← hW4, ← hab]; exact heap_new _ _
        have hT4 := HT3.out.later hB4
        have HT4 : Hid (TI w W4 (wb + 1) wb kb ib mb n sv3 f' ls bs (vb + 1) vb tv2 g2) := hT4
        have HA4 : Hid (W4.heap[ab]? = some (.cells #[.int .u32 a, .int .u64 bb, .bool c, .int .i64 l, .int .i64 0, .slice none 0 0] 44)) := ha4
        have HAK : Hid (ab ≠ kb ∧ ab ≠ ib) := by
          have q1 := lt_of_get HT3.out.pi.rm.krow
          have q2 := lt_of_get HT3.out.pi.rm.irow
          exact ⟨by omega, by omega⟩
        obtain ⟨m0, m1⟩ := pair_cells hT4.pi.mv
        have hml : mb < W4.heap.size := lt_of_get hT4.pi.mv
        have hkl : kb < W4.heap.size := lt_of_get hT4.pi.rm.krow
        have hil : ib < W4.heap.size := lt_of_get hT4.pi.rm.irow
        have e1 : W4.heap.size ≠ kb := by omega
        have e2 : W4.heap.size ≠ ib := by omega
        have e3 : mb ≠ W4.heap.size := by omega
        have e4 : W4.heap.size ≠ mb := by omega
        clear x0 x1 x2 xl
        obtain ⟨x0, x1, x2, xl⟩ := HCX.out W4 hT4.pi.below
        have e5 : b ≠ W4.heap.size := by omega
        have e6 : W4.heap.size ≠ b := by omega
        have HW4 : Hid (w3.alloc (.cells #[.int .u32 a, .int .u64 bb, .bool c, .int .i64 l, .int .i64 0, .slice none 0 0] 44) = W4) := hW4
        have HAB : Hid (w3.heap.size = ab) := hab
        clear hI3 hF3 hB4 ha4 hT4 hW4 hab
        go_upto_region 17 with fail
        rw [HW4.out, HAB.out]
        go_cut [16] (fun cv wx => ∃ cb, cv = .pointer (some ⟨cb, 0, none⟩) ∧ wx.heap[cb]? = some (.cells #[.int .u32 a, .int .u64 bb, .bool c, .int .i64 l, .int .i64 code, .slice none 0 0] 44) ∧ wx.heap[ab]? = some (.cells #[.int .u32 a, .int .u64 bb, .bool c, .int .i64 l, .int .i64 0, .slice none 0 0] 44) ∧ TI w wx (wb + 1) wb kb ib mb n sv3 f' ls' bs' (vb + 1) vb tv2 g2)
        case first =>
          go_region_held3 (fun w' => w'.cell? ⟨mb, 0, none⟩ = some (.slice (some ⟨kb, 0, none⟩) n n) ∧ w'.cell? ⟨mb, 1, none⟩ = some (.slice (some ⟨ib, 0, none⟩) n n) ∧ w'.cell? ⟨b, off + k * 3, none⟩ = some (.int .u8 kind) ∧ w'.cell? ⟨b, off + k * 3 + 1, none⟩ = some (.int .u32 (id : Int)) ∧ w'.cell? ⟨b, off + k * 3 + 2, none⟩ = some (.int .u64 key)) (go_keep) (first
            | (go_at_call 12; refine (HBO.out.ref _ ?_).mono ?_; (first | exact HT4.out.pi.rm.below (Below.refl _ _).drew | exact HT4.out.pi.rm.below ((Below.refl _ _).alloc (Nat.le_refl _) _).drew); rintro e w5 ⟨rfl, hRS⟩; have HT5' : Hid (TI w w5 (wb + 1) wb kb ib mb n sv3 f' ls' bs' (vb + 1) vb tv2 g2) := (by first | exact (HT4.out.later (Below.refl _ _).drew).rs hRS | exact (HT4.out.later ((Below.refl _ _).alloc (Nat.le_refl _) _).drew).rs hRS); have ha5 : w5.heap[ab]? = some (.cells #[.int .u32 a, .int .u64 bb, .bool c, .int .i64 l, .int .i64 0, .slice none 0 0] 44) := (by first | exact (hRS.block ab (lt_of_get HA4.out) HAK.out.1 HAK.out.2).trans HA4.out | exact (hRS.block ab (by have := lt_of_get HA4.out; simp; omega) HAK.out.1 HAK.out.2).trans ((Below.heap_alloc _ _ _ (lt_of_get HA4.out)).trans HA4.out)); have HA5 : Hid (w5.heap[ab]? = some (.cells #[.int .u32 a, .int .u64 bb, .bool c, .int .i64 l, .int .i64 0, .slice none 0 0] 44)) := ha5; have HRS5 : Hid _ := hRS; obtain ⟨p0, p1⟩ := pair_cells HT5'.out.pi.mv; obtain ⟨q0, q1, q2, ql⟩ := HCX.out w5 HT5'.out.pi.below; obtain ⟨rc, rf⟩ := rcell hRS; have hsz := hRS.size; clear hRS ha5))
          all_goals (go_wp2_with fail; go_meet)
          all_goals first
            | (refine ⟨w5.heap.size, ?_, ?_, ?_, ?_⟩
               · with_reducible rfl
               · exact heap_new _ _
               · exact (Below.heap_alloc _ _ _ (lt_of_get HA5.out)).trans HA5.out
               · exact HT5'.out.later ((Below.refl _ _).alloc (Nat.le_refl _) _))
            | (refine ⟨W4.heap.size, ?_, ?_, ?_, ?_⟩
               · with_reducible rfl
               · exact six_laid ((HRS5.out.block _ (by simp) e1 e2).trans (heap_new _ _)) _ _ _ _ _ _
               · have hne : ab ≠ W4.heap.size := by have := lt_of_get HA4.out; omega
                 exact ((six_below (w := w5) (b := W4.heap.size) _ _ _ _ _ _).block ab hne hne).trans HA5.out
               · refine HT5'.out.only (six_below _ _ _ _ _ _) (by have := HT4.out.pi.below.size; omega) ?_
                 obtain ⟨a1, a2, a3⟩ := HT4.out.pi.heap.lt
                 obtain ⟨c1, c2, c3⟩ := HT4.out.heap2.lt
                 exact ⟨⟨by omega, by omega, by omega, by omega, by omega, by omega, by omega⟩, fun e => (by have := a3 _ e.symm; omega), fun e => (by have := c3 _ e.symm; omega)⟩)
        case rest =>
          obtain ⟨cb, rfl, hc5, ha5, hT5⟩ := hcut
          have HT5' : Hid (TI w wc (wb + 1) wb kb ib mb n sv3 f' ls' bs' (vb + 1) vb tv2 g2) := hT5
          have HAC : Hid (∀ wx, Below wc.heap.size wc wx → wx.heap[ab]? = some (.cells #[.int .u32 a, .int .u64 bb, .bool c, .int .i64 l, .int .i64 0, .slice none 0 0] 44) ∧ wx.heap[cb]? = some (.cells #[.int .u32 a, .int .u64 bb, .bool c, .int .i64 l, .int .i64 code, .slice none 0 0] 44)) := fun wx h => ⟨(h.block _ (lt_of_get ha5)).trans ha5, (h.block _ (lt_of_get hc5)).trans hc5⟩
          have HSN : Hid (Calls Tryd.prog 9 #[ev, .agg #[.int .i64 code, .slice none 0 0]] wc fun r w' => r = .returned (.bool true) ∧ Below wc.heap.size wc w') := seenB HBO.out.err wc (HG.out wc hT5.pi.below)
          obtain ⟨⟨_, _, _, _, c4, c5⟩, _⟩ := six_cells hc5
          have hcl : cb < wc.heap.size := lt_of_get hc5
          clear hc5 ha5 hT5 m0 m1 hml hkl hil e1 e2 e3 e4 e5 e6 x0 x1 x2 xl
          generalize wc = w5 at *
          go_wp2_with fail
          refine HSN.out.mono ?_
          rintro e w6 ⟨rfl, hb6⟩
          have HT6 : Hid (TI w w6 (wb + 1) wb kb ib mb n sv3 f' ls' bs' (vb + 1) vb tv2 g2) := HT5'.out.later hb6
          obtain ⟨ga, gc⟩ := HAC.out w6 hb6
          obtain ⟨⟨p0, p1, p2, p3, _, _⟩, _⟩ := six_cells ga
          obtain ⟨⟨q0, q1, q2, q3, _, _⟩, _⟩ := six_cells gc
          have hal : ab < w6.heap.size := lt_of_get ga
          have hcl6 : cb < w6.heap.size := lt_of_get gc
          clear hb6 ga gc c4 c5 hcl
          go_wp2
          go_roundw
          case rel => exact ⟨k + 1, sv3, f', ls', bs', tv2, g2, by omega, by go_num, HT6.out, HBO.out.rel⟩
          case measure => simp [intOf]; omega
      · have b1 : ¬ (k : Int) < (m : Int) := by omega
        go_wp2_with fail
        refine HDB.out.mono ?_
        rintro e w2 ⟨⟨v2, rfl⟩, tv2, g2, hI2, hF2⟩
        have HT2 : Hid (TI w w2 (wb + 1) wb kb ib mb n sv f ls bs (vb + 1) vb tv2 g2) := HT.out.opB hI2 hF2
        clear y0 y1 y2 hI2 hF2
        go_wp2
        go_roundw
        case rel => exact ⟨k + 1, sv, f, ls, bs, tv2, g2, by omega, by go_num, HT2.out, HR.out⟩
        case measure => simp [intOf]; omega
    · have b2 : ¬ (k : Int) < (m2 : Int) := by omega
      by_cases hA : k < m
      · obtain ⟨x, hx⟩ : ∃ x, L[k]? = some x := ⟨L[k]'(by have := HLL.out; omega), List.getElem?_eq_getElem _⟩
        obtain ⟨hid, b, off, hso, hbl, r0, r1, r2⟩ := HO.out.at hx
        obtain ⟨kind, id, key⟩ := x
        simp only at hid r0 r1 r2
        cases hso
        have HCX : Hid (∀ wx, Below w.heap.size w wx → wx.cell? ⟨b, off + k * 3, none⟩ = some (.int .u8 kind) ∧ wx.cell? ⟨b, off + k * 3 + 1, none⟩ = some (.int .u32 (id : Int)) ∧ wx.cell? ⟨b, off + k * 3 + 2, none⟩ = some (.int .u64 key) ∧ b < wx.heap.size) := fun wx h => ⟨(h.cell (p := ⟨b, off + k * 3, none⟩) hbl).trans r0, (h.cell (p := ⟨b, off + k * 3 + 1, none⟩) hbl).trans r1, (h.cell (p := ⟨b, off + k * 3 + 2, none⟩) hbl).trans r2, by have := h.size; omega⟩
        have HBL : Hid (b < w.heap.size) := hbl
        have HID : Hid (id ≤ 4294967295) := hid
        have b1 : (k : Int) < (m : Int) := by omega
        clear hx r0 r1 r2 hid hbl
        have HT2 : Hid (TI w wr (wb + 1) wb kb ib mb n sv f ls bs (vb + 1) vb tv g) := HT.out
        clear HT
        generalize wr = w2 at *
        obtain ⟨f', ls', bs', a, bb, l, code, c, ev, hBoth⟩ := both_exists (kb := kb) (ib := ib) HT2.out.pi.heap hn HT2.out.pi.rm.ll HT2.out.pi.rm.il HR.out kind key id HID.out
        have HBO : Hid (Both (wb + 1) wb n kb ib f f' ls ls' bs bs' kind key id a bb l code c ev) := hBoth
        have HDO : Hid (type_of% (hBoth.prog w2 sv HT2.out.pi.heap)) := hBoth.prog w2 sv HT2.out.pi.heap
        obtain ⟨x0, x1, x2, xl⟩ := HCX.out w2 HT2.out.pi.below
        clear hBoth
        go_wp2_with fail
        refine HDO.out.mono ?_
        rintro e w3 ⟨rfl, sv3, hI3, hF3⟩
        have HT3 : Hid (TI w w3 (wb + 1) wb kb ib mb n sv3 f' ls bs (vb + 1) vb tv g) := HT2.out.opA hI3 hF3
        obtain ⟨ab, hab⟩ : ∃ ab, w3.heap.size = ab := ⟨_, rfl⟩
        obtain ⟨W4, hW4⟩ : ∃ W4, w3.alloc (.cells #[.int .u32 a, .int .u64 bb, .bool c, .int .i64 l, .int .i64 0, .slice none 0 0] 44) = W4 := ⟨_, rfl⟩
        have hB4 : Below w3.heap.size w3 W4 := by rw [← hW4]; exact (Below.refl _ _).alloc (Nat.le_refl _) _
        have ha4 : W4.heap[ab]? = some (.cells #[.int .u32 a, .int .u64 bb, .bool c, .int .i64 l, .int .i64 0, .slice none 0 0] 44) := by rw [← hW4, ← hab]; exact heap_new _ _
        have hT4 := HT3.out.later hB4
        have HT4 : Hid (TI w W4 (wb + 1) wb kb ib mb n sv3 f' ls bs (vb + 1) vb tv g) := hT4
        have HA4 : Hid (W4.heap[ab]? = some (.cells #[.int .u32 a, .int .u64 bb, .bool c, .int .i64 l, .int .i64 0, .slice none 0 0] 44)) := ha4
        have HAK : Hid (ab ≠ kb ∧ ab ≠ ib) := by
          have q1 := lt_of_get HT3.out.pi.rm.krow
          have q2 := lt_of_get HT3.out.pi.rm.irow
          exact ⟨by omega, by omega⟩
        obtain ⟨m0, m1⟩ := pair_cells hT4.pi.mv
        have hml : mb < W4.heap.size := lt_of_get hT4.pi.mv
        have hkl : kb < W4.heap.size := lt_of_get hT4.pi.rm.krow
        have hil : ib < W4.heap.size := lt_of_get hT4.pi.rm.irow
        have e1 : W4.heap.size ≠ kb := by omega
        have e2 : W4.heap.size ≠ ib := by omega
        have e3 : mb ≠ W4.heap.size := by omega
        have e4 : W4.heap.size ≠ mb := by omega
        clear x0 x1 x2 xl
        obtain ⟨x0, x1, x2, xl⟩ := HCX.out W4 hT4.pi.below
        have e5 : b ≠ W4.heap.size := by omega
        have e6 : W4.heap.size ≠ b := by omega
        have HW4 : Hid (w3.alloc (.cells #[.int .u32 a, .int .u64 bb, .bool c, .int .i64 l, .int .i64 0, .slice none 0 0] 44) = W4) := hW4
        have HAB : Hid (w3.heap.size = ab) := hab
        clear hI3 hF3 hB4 ha4 hT4 hW4 hab
        go_upto_region 17 with fail
        rw [HW4.out, HAB.out]
        go_cut [16] (fun cv wx => ∃ cb, cv = .pointer (some ⟨cb, 0, none⟩) ∧ wx.heap[cb]? = some (.cells #[.int .u32 a, .int .u64 bb, .bool c, .int .i64 l, .int .i64 code, .slice none 0 0] 44) ∧ wx.heap[ab]? = some (.cells #[.int .u32 a, .int .u64 bb, .bool c, .int .i64 l, .int .i64 0, .slice none 0 0] 44) ∧ TI w wx (wb + 1) wb kb ib mb n sv3 f' ls' bs' (vb + 1) vb tv g)
        case first =>
          go_region_held3 (fun w' => w'.cell? ⟨mb, 0, none⟩ = some (.slice (some ⟨kb, 0, none⟩) n n) ∧ w'.cell? ⟨mb, 1, none⟩ = some (.slice (some ⟨ib, 0, none⟩) n n) ∧ w'.cell? ⟨b, off + k * 3, none⟩ = some (.int .u8 kind) ∧ w'.cell? ⟨b, off + k * 3 + 1, none⟩ = some (.int .u32 (id : Int)) ∧ w'.cell? ⟨b, off + k * 3 + 2, none⟩ = some (.int .u64 key)) (go_keep) (first
            | (go_at_call 12; refine (HBO.out.ref _ ?_).mono ?_; (first | exact HT4.out.pi.rm.below (Below.refl _ _).drew | exact HT4.out.pi.rm.below ((Below.refl _ _).alloc (Nat.le_refl _) _).drew); rintro e w5 ⟨rfl, hRS⟩; have HT5' : Hid (TI w w5 (wb + 1) wb kb ib mb n sv3 f' ls' bs' (vb + 1) vb tv g) := (by first | exact (HT4.out.later (Below.refl _ _).drew).rs hRS | exact (HT4.out.later ((Below.refl _ _).alloc (Nat.le_refl _) _).drew).rs hRS); have ha5 : w5.heap[ab]? = some (.cells #[.int .u32 a, .int .u64 bb, .bool c, .int .i64 l, .int .i64 0, .slice none 0 0] 44) := (by first | exact (hRS.block ab (lt_of_get HA4.out) HAK.out.1 HAK.out.2).trans HA4.out | exact (hRS.block ab (by have := lt_of_get HA4.out; simp; omega) HAK.out.1 HAK.out.2).trans ((Below.heap_alloc _ _ _ (lt_of_get HA4.out)).trans HA4.out)); have HA5 : Hid (w5.heap[ab]? = some (.cells #[.int .u32 a, .int .u64 bb, .bool c, .int .i64 l, .int .i64 0, .slice none 0 0] 44)) := ha5; have HRS5 : Hid _ := hRS; obtain ⟨p0, p1⟩ := pair_cells HT5'.out.pi.mv; obtain ⟨q0, q1, q2, ql⟩ := HCX.out w5 HT5'.out.pi.below; obtain ⟨rc, rf⟩ := rcell hRS; have hsz := hRS.size; clear hRS ha5))
          all_goals (go_wp2_with fail; go_meet)
          all_goals first
            | (refine ⟨w5.heap.size, ?_, ?_, ?_, ?_⟩
               · with_reducible rfl
               · exact heap_new _ _
               · exact (Below.heap_alloc _ _ _ (lt_of_get HA5.out)).trans HA5.out
               · exact HT5'.out.later ((Below.refl _ _).alloc (Nat.le_refl _) _))
            | (refine ⟨W4.heap.size, ?_, ?_, ?_, ?_⟩
               · with_reducible rfl
               · exact six_laid ((HRS5.out.block _ (by simp) e1 e2).trans (heap_new _ _)) _ _ _ _ _ _
               · have hne : ab ≠ W4.heap.size := by have := lt_of_get HA4.out; omega
                 exact ((six_below (w := w5) (b := W4.heap.size) _ _ _ _ _ _).block ab hne hne).trans HA5.out
               · refine HT5'.out.only (six_below _ _ _ _ _ _) (by have := HT4.out.pi.below.size; omega) ?_
                 obtain ⟨a1, a2, a3⟩ := HT4.out.pi.heap.lt
                 obtain ⟨c1, c2, c3⟩ := HT4.out.heap2.lt
                 exact ⟨⟨by omega, by omega, by omega, by omega, by omega, by omega, by omega⟩, fun e => (by have := a3 _ e.symm; omega), fun e => (by have := c3 _ e.symm; omega)⟩)
        case rest =>
          obtain ⟨cb, rfl, hc5, ha5, hT5⟩ := hcut
          have HT5' : Hid (TI w wc (wb + 1) wb kb ib mb n sv3 f' ls' bs' (vb + 1) vb tv g) := hT5
          have HAC : Hid (∀ wx, Below wc.heap.size wc wx → wx.heap[ab]? = some (.cells #[.int .u32 a, .int .u64 bb, .bool c, .int .i64 l, .int .i64 0, .slice none 0 0] 44) ∧ wx.heap[cb]? = some (.cells #[.int .u32 a, .int .u64 bb, .bool c, .int .i64 l, .int .i64 code, .slice none 0 0] 44)) := fun wx h => ⟨(h.block _ (lt_of_get ha5)).trans ha5, (h.block _ (lt_of_get hc5)).trans hc5⟩
          have HSN : Hid (Calls Tryd.prog 9 #[ev, .agg #[.int .i64 code, .slice none 0 0]] wc fun r w' => r = .returned (.bool true) ∧ Below wc.heap.size wc w') := seenB HBO.out.err wc (HG.out wc hT5.pi.below)
          obtain ⟨⟨_, _, _, _, c4, c5⟩, _⟩ := six_cells hc5
          have hcl : cb < wc.heap.size := lt_of_get hc5
          clear hc5 ha5 hT5 m0 m1 hml hkl hil e1 e2 e3 e4 e5 e6 x0 x1 x2 xl
          generalize wc = w5 at *
          go_wp2_with fail
          refine HSN.out.mono ?_
          rintro e w6 ⟨rfl, hb6⟩
          have HT6 : Hid (TI w w6 (wb + 1) wb kb ib mb n sv3 f' ls' bs' (vb + 1) vb tv g) := HT5'.out.later hb6
          obtain ⟨ga, gc⟩ := HAC.out w6 hb6
          obtain ⟨⟨p0, p1, p2, p3, _, _⟩, _⟩ := six_cells ga
          obtain ⟨⟨q0, q1, q2, q3, _, _⟩, _⟩ := six_cells gc
          have hal : ab < w6.heap.size := lt_of_get ga
          have hcl6 : cb < w6.heap.size := lt_of_get gc
          clear hb6 ga gc c4 c5 hcl
          go_wp2
          go_roundw
          case rel => exact ⟨k + 1, sv3, f', ls', bs', tv, g, by omega, by go_num, HT6.out, HBO.out.rel⟩
          case measure => simp [intOf]; omega
      · have b1 : ¬ (k : Int) < (m : Int) := by omega
        have HCL : Hid (type_of% (clear_calls HT.out.heap2)) := clear_calls HT.out.heap2
        have BWR : Hid (Below w.heap.size w wr ∧ (w.heap.size ≤ vb + 1 ∧ w.heap.size ≤ vb ∧ ∀ k, tv.ownBlock = some k → w.heap.size ≤ k)) := ⟨HT.out.pi.below, HT.out.base2⟩
        have HVL : Hid (vb + 1 < wr.heap.size) := HT.out.heap2.lt.1
        clear HT HR hk
        generalize wr = wo at *
        go_wp2_with fail
        refine HCL.out.mono ?_
        rintro e w6 ⟨rfl, tv6, hI6, hF6⟩
        have I6 : Hid (IsHeap w6 (vb + 1) vb n tv6 (fun _ => none)) := hI6
        have BW6 : Hid (Below w.heap.size w w6) := BWR.out.1.trans (hF6.below BWR.out.1.size BWR.out.2.1 BWR.out.2.2.1 BWR.out.2.2.2)
        have HOW : Hid (∀ k, tv6.ownBlock = some k → w.heap.size ≤ k ∧ k < w6.heap.size) := fun k hk => by
          refine ⟨?_, hI6.lt.2.2 k hk⟩
          rcases Nat.lt_or_ge k wo.heap.size with h | h
          · exact BWR.out.2.2.2 k (hF6.own k h hk)
          · exact Nat.le_trans BWR.out.1.size h
        clear hI6 hF6
        go_wp2_with fail
        refine (HD.out _).mono ?_
        rintro e w7 ⟨kd, id2, rfl, hRM, hkb, hib, hb7⟩
        obtain ⟨md, hmd⟩ : ∃ md, w7.heap.size = md := ⟨_, rfl⟩
        obtain ⟨W8, hW8⟩ : ∃ W8, (w7.alloc (.cells #[.slice (some ⟨kd, 0, none⟩) n n, .slice (some ⟨id2, 0, none⟩) n n] 32)).alloc (.cells #[.int .i64 0, .slice none 0 0] 35) = W8 := ⟨_, rfl⟩
        obtain ⟨k0, k1, hB8⟩ := two_new w7 (.cells #[.slice (some ⟨kd, 0, none⟩) n n, .slice (some ⟨id2, 0, none⟩) n n] 32) (.cells #[.int .i64 0, .slice none 0 0] 35)
        rw [hW8] at k0 k1 hB8
        rw [hmd] at k0 k1
        have HPI : Hid (PI w W8 (vb + 1) vb kd id2 md n tv6 (fun _ => none) (List.replicate n 0) (List.replicate n false)) := by
          have hl := I6.out.lt
          have hs6 := BW6.out.size
          have hkl := lt_of_get hRM.krow
          have hil := lt_of_get hRM.irow
          have hs7 := hb7.size
          have hv := BWR.out.2
          refine ⟨(I6.out.below hb7).below hB8, hRM.below hB8, k0, ⟨by omega, by omega, fun e => by have := (HOW.out _ e.symm).2; omega⟩, ⟨by omega, by omega, fun e => by have := (HOW.out _ e.symm).2; omega⟩, ⟨by omega, by omega, fun e => (by have := (HOW.out _ e.symm).2; omega), by omega, by omega⟩, ⟨by omega, by omega, by omega, by omega, fun k e => (HOW.out k e).1⟩, ?_⟩
          exact (BW6.out.trans (hb7.mono hs6)).trans (hB8.mono (by omega))
        have HW8 : Hid ((w7.alloc (.cells #[.slice (some ⟨kd, 0, none⟩) n n, .slice (some ⟨id2, 0, none⟩) n n] 32)).alloc (.cells #[.int .i64 0, .slice none 0 0] 35) = W8) := hW8
        have HMD : Hid (w7.heap.size = md) := hmd
        clear k0 k1 hB8 hW8 hmd hRM hkb hib hb7
        go_upto_region 22 with fail
        rw [HW8.out, HMD.out]
        go_wp2_with fail
        go_loopw [136] (fun iv wr => ∃ (k : Nat) (sv : Value) (f : Int → Option Int) (ls : List Int) (bs : List Bool), k ≤ m ∧ iv = .int .i64 k ∧ PI w wr (vb + 1) vb kd id2 md n sv f ls bs ∧ Rel n f ls bs) (fun iv _ => m - (intOf iv).toNat)
        case atStart => exact ⟨0, _, _, _, _, Nat.zero_le _, rfl, HPI.out, Rel.new _ _⟩
        case round =>
          obtain ⟨k, sv, f, ls, bs, hk, rfl, hP, hR⟩ := hrel
          have HP : Hid (PI w wr (vb + 1) vb kd id2 md n sv f ls bs) := hP
          by_cases hlt : k < m
          · obtain ⟨x, hx⟩ : ∃ x, L[k]? = some x := ⟨L[k]'(by have := HLL.out; omega), List.getElem?_eq_getElem _⟩
            obtain ⟨hid, b, off, hso, hbl, r0, r1, r2⟩ := HO.out.at hx
            obtain ⟨kind, id, key⟩ := x
            simp only at hid r0 r1 r2
            cases hso
            obtain ⟨f', ls', bs', a, bb, l, code, c, ev, hBoth⟩ := both_exists (kb := kd) (ib := id2) hP.heap hn hP.rm.ll hP.rm.il hR kind key id hid
            have HBO : Hid (Both (vb + 1) vb n kd id2 f f' ls ls' bs bs' kind key id a bb l code c ev) := hBoth
            have a0 := (hP.below.cell (p := ⟨b, off + k * 3, none⟩) hbl).trans r0
            have a1 := (hP.below.cell (p := ⟨b, off + k * 3 + 1, none⟩) hbl).trans r1
            have a2 := (hP.below.cell (p := ⟨b, off + k * 3 + 2, none⟩) hbl).trans r2
            have hbl' : b < wr.heap.size := by have := hP.below.size; omega
            obtain ⟨bx, hbx⟩ : ∃ bx, wr.heap.size = bx := ⟨_, rfl⟩
            obtain ⟨W1, hW1⟩ : ∃ W1, wr.alloc (.cells #[.int .u8 kind, .int .u32 (id : Int), .int .u64 key] 42) = W1 := ⟨_, rfl⟩
            have hB1 : Below wr.heap.size wr W1 := by rw [← hW1]; exact (Below.refl _ _).alloc (Nat.le_refl _) _
            have hx1 : W1.heap[bx]? = some (.cells #[.int .u8 kind, .int .u32 (id : Int), .int .u64 key] 42) := by rw [← hW1, ← hbx]; exact heap_new _ _
            have hP1 := hP.later hB1
            have HP1 : Hid (PI w W1 (vb + 1) vb kd id2 md n sv f ls bs) := hP1
            have HX1 : Hid (W1.heap[bx]? = some (.cells #[.int .u8 kind, .int .u32 (id : Int), .int .u64 key] 42)) := hx1
            have HLT : Hid ((vb + 1 < bx ∧ vb < bx ∧ kd < bx ∧ id2 < bx ∧ md < bx ∧ ∀ j, sv.ownBlock = some j → j < bx)) := by
              obtain ⟨q1, q2, q3⟩ := hP.heap.lt
              have q4 := lt_of_get hP.rm.krow
              have q5 := lt_of_get hP.rm.irow
              have q6 := lt_of_get hP.mv
              rw [← hbx]
              exact ⟨q1, q2, q4, q5, q6, q3⟩
            have HDO : Hid (type_of% (hBoth.prog W1 sv hP1.heap)) := hBoth.prog W1 sv hP1.heap
            obtain ⟨x0, x1, x2⟩ := three_cells hx1
            have HW1 : Hid (wr.alloc (.cells #[.int .u8 kind, .int .u32 (id : Int), .int .u64 key] 42) = W1) := hW1
            have HBX : Hid (wr.heap.size = bx) := hbx
            have b0 : (0 : Int) ≤ (k : Int) := by omega
            have b1 : (k : Int) < (((m : Nat) : Int) : Int) := by omega
            clear hP hR hx r0 r1 r2 hBoth hB1 hx1 hP1 hW1 hbx hid
            go_upto_region 25 with fail
            rw [HW1.out, HBX.out]
            clear a0 a1 a2 hbl'
            go_wp2_with fail
            refine HDO.out.mono ?_
            rintro e w2 ⟨rfl, sv2, hI2, hF2⟩
            have HP2 : Hid (PI w w2 (vb + 1) vb kd id2 md n sv2 f' ls bs) := HP1.out.op hI2 hF2
            have hx2 : w2.heap[bx]? = some (.cells #[.int .u8 kind, .int .u32 (id : Int), .int .u64 key] 42) := (hF2.block bx (lt_of_get HX1.out) (by have := HLT.out; omega) (by have := HLT.out; omega) (fun e => by have := HLT.out.2.2.2.2.2 bx e.symm; omega)).trans HX1.out
            obtain ⟨ab, hab⟩ : ∃ ab, w2.heap.size = ab := ⟨_, rfl⟩
            obtain ⟨W3, hW3⟩ : ∃ W3, w2.alloc (.cells #[.int .u32 a, .int .u64 bb, .bool c, .int .i64 l, .int .i64 0, .slice none 0 0] 44) = W3 := ⟨_, rfl⟩
            have hB3 : Below w2.heap.size w2 W3 := by rw [← hW3]; exact (Below.refl _ _).alloc (Nat.le_refl _) _
            have ha3 : W3.heap[ab]? = some (.cells #[.int .u32 a, .int .u64 bb, .bool c, .int .i64 l, .int .i64 0, .slice none 0 0] 44) := by rw [← hW3, ← hab]; exact heap_new _ _
            have hx3 := (hB3.block bx (lt_of_get hx2)).trans hx2
            have hP3 := HP2.out.later hB3
            have HP3 : Hid (PI w W3 (vb + 1) vb kd id2 md n sv2 f' ls bs) := hP3
            have HA3 : Hid (W3.heap[ab]? = some (.cells #[.int .u32 a, .int .u64 bb, .bool c, .int .i64 l, .int .i64 0, .slice none 0 0] 44) ∧ bx < ab) := ⟨ha3, by have := lt_of_get hx2; omega⟩
            have HRF : Hid (type_of% (HBO.out.ref W3 hP3.rm)) := HBO.out.ref W3 hP3.rm
            obtain ⟨m0, m1⟩ := pair_cells hP3.mv
            have hml : md < W3.heap.size := lt_of_get hP3.mv
            have hxl : bx < W3.heap.size := lt_of_get hx3
            clear x0 x1 x2
            obtain ⟨x0, x1, x2⟩ := three_cells hx3
            have HW3 : Hid (w2.alloc (.cells #[.int .u32 a, .int .u64 bb, .bool c, .int .i64 l, .int .i64 0, .slice none 0 0] 44) = W3) := hW3
            have HAB : Hid (w2.heap.size = ab) := hab
            clear hI2 hF2 hx2 hB3 ha3 hx3 hP3 hW3 hab
            go_upto_region 26 with fail
            rw [HW3.out, HAB.out]
            go_wp2_with fail
            refine HRF.out.mono ?_
            rintro e w4 ⟨rfl, hRS⟩
            have HP4 : Hid (PI w w4 (vb + 1) vb kd id2 md n sv2 f' ls' bs') := HP3.out.rs hRS
            have ha4 : w4.heap[ab]? = some (.cells #[.int .u32 a, .int .u64 bb, .bool c, .int .i64 l, .int .i64 0, .slice none 0 0] 44) := (hRS.block ab (lt_of_get HA3.out.1) (by have h1 := HLT.out; have h2 := HA3.out.2; omega) (by have h1 := HLT.out; have h2 := HA3.out.2; omega)).trans HA3.out.1
            obtain ⟨cb, hcb⟩ : ∃ cb, w4.heap.size = cb := ⟨_, rfl⟩
            obtain ⟨W5, hW5⟩ : ∃ W5, w4.alloc (.cells #[.int .u32 a, .int .u64 bb, .bool c, .int .i64 l, .int .i64 code, .slice none 0 0] 44) = W5 := ⟨_, rfl⟩
            have hB5 : Below w4.heap.size w4 W5 := by rw [← hW5]; exact (Below.refl _ _).alloc (Nat.le_refl _) _
            have hc5 : W5.heap[cb]? = some (.cells #[.int .u32 a, .int .u64 bb, .bool c, .int .i64 l, .int .i64 code, .slice none 0 0] 44) := by rw [← hW5, ← hcb]; exact heap_new _ _
            have ha5 := (hB5.block ab (lt_of_get ha4)).trans ha4
            have HP5 : Hid (PI w W5 (vb + 1) vb kd id2 md n sv2 f' ls' bs') := HP4.out.later hB5
            have HAC : Hid (∀ wx, Below W5.heap.size W5 wx → wx.heap[ab]? = some (.cells #[.int .u32 a, .int .u64 bb, .bool c, .int .i64 l, .int .i64 0, .slice none 0 0] 44) ∧ wx.heap[cb]? = some (.cells #[.int .u32 a, .int .u64 bb, .bool c, .int .i64 l, .int .i64 code, .slice none 0 0] 44)) := fun wx h => ⟨(h.block _ (lt_of_get ha5)).trans ha5, (h.block _ (lt_of_get hc5)).trans hc5⟩
            obtain ⟨ga, gc⟩ := HAC.out W5 (Below.refl _ _)
            obtain ⟨⟨p0, p1, p2, p3, _, _⟩, _⟩ := six_cells ga
            obtain ⟨⟨q0, q1, q2, q3, _, _⟩, _⟩ := six_cells gc
            have hal : ab < W5.heap.size := lt_of_get ga
            have hcl6 : cb < W5.heap.size := lt_of_get gc
            have HW5 : Hid (w4.alloc (.cells #[.int .u32 a, .int .u64 bb, .bool c, .int .i64 l, .int .i64 code, .slice none 0 0] 44) = W5) := hW5
            have HCB : Hid (w4.heap.size = cb) := hcb
            clear hRS ha4 hB5 hc5 ha5 hW5 hcb m0 m1 hml hxl x0 x1 x2 ga gc
            go_upto_region 27 with fail
            rw [HW5.out, HCB.out]
            go_wp2
            go_roundw
            case rel => exact ⟨k + 1, sv2, f', ls', bs', by omega, by go_num, HP5.out, HBO.out.rel⟩
            case measure => simp [intOf]; omega
          · obtain rfl : k = m := by omega
            clear hP hR
            go_wp2
            go_ret
            exact ⟨rfl, HP.out.below⟩
end Go.Proofs.YtkeniogcjhmikaaDoor
