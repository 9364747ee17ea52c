/- climb.Up and climb.Down; the law's great and of; the reference's Same. (gencg.py) -/
import Derived.Test.YtepkogijignmlaaCbF
namespace Go.Proofs.Ytepkogijignmlaa.Cb
open Go.RowKit Go.Extern Go.Shelf Hi

attribute [local go_sem] Oper.semAt_some

set_option maxRecDepth 100000 in
set_option maxHeartbeats 4000000 in
theorem up_ok (v : HV) (h : Hr) (s : Nat) (w : World) (hH : HasH w v h) (hc : chk h = (0, [])) (hs : s < h.node.length) :
    Calls Try.prog 8 #[hvl v h, .int .i64 (s : Int)] w fun e w' => ∃ (mo : Option Addr) (mc : Nat) (X : List (Nat × Int × Bool)), X = upL h s ∧ e = .returned (.tuple #[.slice mo X.length mc, .nilIface]) ∧ w'.ownsRow w.heap.size 44 3 (.slice mo X.length mc) X.length (snv X) ∧ Below w.heap.size w w' := by
  obtain ⟨z, hz⟩ : ∃ z, w.heap.size = z := ⟨_, rfl⟩
  obtain ⟨W0, hW0⟩ : ∃ W0, w.alloc (.cells (cellsH v h) 25) = W0 := ⟨_, rfl⟩
  have hB0 : Below w.heap.size w W0 := by rw [← hW0]; exact (Below.refl _ w).alloc (Nat.le_refl _) _
  have h0 : W0.heap[z]? = some (.cells (cellsH v h) 25) := by rw [← hW0, ← hz]; exact heap_newW _ _
  obtain ⟨c0, c1, c2, c3, c4⟩ := five_cells h0
  have HW0 : Hid (w.alloc (.cells (cellsH v h) 25) = W0) := hW0
  have HB0 : Hid (Below w.heap.size w W0) := hB0
  have HSE : Hid (Calls Try.prog 23 #[hvl v h, .int .i64 (s : Int), .agg #[.slice v.uo h.upF.length v.uc, .slice v.ul h.up.length v.ulc], .agg #[.slice v.wo h.dnF.length v.wc, .slice v.dl h.dn.length v.dlc]] W0 fun e w' => ∃ (mo : Option Addr) (mc : Nat) (X : List (Nat × Int × Bool)), X = upL h s ∧ e = .returned (.tuple #[.slice mo X.length mc, .nilIface]) ∧ w'.ownsRow W0.heap.size 44 3 (.slice mo X.length mc) X.length (snv X) ∧ Below W0.heap.size W0 w') := search_good v h s v.uo v.ul v.uc v.ulc h.upF h.up v.wo v.dl v.wc v.dlc h.dnF h.dn W0 (hH.keep hB0) hc hs (rows_up (hH.keep hB0) hc) (rows_dn (hH.keep hB0) hc)
  clear hW0 h0 hB0 hH
  unfold cellsH at HW0
  unfold hvl at HSE ⊢
  go_enter Try.func8, Try.ntmps8
  go_wp2_with fail
  rw [HW0.out]
  refine HSE.out.mono ?_
  rintro e w1 ⟨mo, mc, X, hX, rfl, ho, hb⟩
  have H1 : Hid (X = upL h s ∧ w1.ownsRow w.heap.size 44 3 (.slice mo X.length mc) X.length (snv X) ∧ Below w.heap.size w w1) := ⟨hX, own_mono ho HB0.out.size, HB0.out.trans (hb.mono HB0.out.size)⟩
  clear hX ho hb
  go_wp2
  go_ret2
  exact ⟨mo, mc, X, H1.out.1, rfl, H1.out.2.1, H1.out.2.2⟩

set_option maxRecDepth 100000 in
set_option maxHeartbeats 4000000 in
theorem up_bad (v : HV) (h : Hr) (s : Int) (w : World) (hH : HasH w v h) (hb1 : h.up.length ≤ 1152921504606846976) (hb2 : h.dn.length ≤ 1152921504606846976) (hb3 : h.node.length ≤ 1152921504606846976) (hr : Refuses h s) :
    Calls Try.prog 8 #[hvl v h, .int .i64 s] w fun e w' => ∃ T x, e = .returned (.tuple #[.slice none 0 0, .iface T x]) ∧ Below w.heap.size w w' := by
  obtain ⟨z, hz⟩ : ∃ z, w.heap.size = z := ⟨_, rfl⟩
  obtain ⟨W0, hW0⟩ : ∃ W0, w.alloc (.cells (cellsH v h) 25) = W0 := ⟨_, rfl⟩
  have hB0 : Below w.heap.size w W0 := by rw [← hW0]; exact (Below.refl _ w).alloc (Nat.le_refl _) _
  have h0 : W0.heap[z]? = some (.cells (cellsH v h) 25) := by rw [← hW0, ← hz]; exact heap_newW _ _
  obtain ⟨c0, c1, c2, c3, c4⟩ := five_cells h0
  have HW0 : Hid (w.alloc (.cells (cellsH v h) 25) = W0) := hW0
  have HB0 : Hid (Below w.heap.size w W0) := hB0
  have HSE : Hid (Calls Try.prog 23 #[hvl v h, .int .i64 s, .agg #[.slice v.uo h.upF.length v.uc, .slice v.ul h.up.length v.ulc], .agg #[.slice v.wo h.dnF.length v.wc, .slice v.dl h.dn.length v.dlc]] W0 fun e w' => ∃ T x, e = .returned (.tuple #[.slice none 0 0, .iface T x]) ∧ Below W0.heap.size W0 w') := search_bad v h s _ _ _ _ _ _ _ _ _ _ _ _ W0 (hH.keep hB0) hb1 hb2 hb3 hr
  clear hr
  clear hW0 h0 hB0 hH
  unfold cellsH at HW0
  unfold hvl at HSE ⊢
  go_enter Try.func8, Try.ntmps8
  go_wp2_with fail
  rw [HW0.out]
  refine HSE.out.mono ?_
  rintro e w1 ⟨T, x, rfl, hb⟩
  have H1 : Hid (Below w.heap.size w w1) := HB0.out.trans (hb.mono HB0.out.size)
  clear hb
  go_wp2
  go_ret2
  exact ⟨T, x, rfl, H1.out⟩

set_option maxRecDepth 100000 in
set_option maxHeartbeats 4000000 in
theorem down_ok (v : HV) (h : Hr) (s : Nat) (w : World) (hH : HasH w v h) (hc : chk h = (0, [])) (hs : s < h.node.length) :
    Calls Try.prog 9 #[hvl v h, .int .i64 (s : Int)] w fun e w' => ∃ (mo : Option Addr) (mc : Nat) (X : List (Nat × Int × Bool)), X = dnL h s ∧ e = .returned (.tuple #[.slice mo X.length mc, .nilIface]) ∧ w'.ownsRow w.heap.size 44 3 (.slice mo X.length mc) X.length (snv X) ∧ Below w.heap.size w w' := by
  obtain ⟨z, hz⟩ : ∃ z, w.heap.size = z := ⟨_, rfl⟩
  obtain ⟨W0, hW0⟩ : ∃ W0, w.alloc (.cells (cellsH v h) 25) = W0 := ⟨_, rfl⟩
  have hB0 : Below w.heap.size w W0 := by rw [← hW0]; exact (Below.refl _ w).alloc (Nat.le_refl _) _
  have h0 : W0.heap[z]? = some (.cells (cellsH v h) 25) := by rw [← hW0, ← hz]; exact heap_newW _ _
  obtain ⟨c0, c1, c2, c3, c4⟩ := five_cells h0
  have HW0 : Hid (w.alloc (.cells (cellsH v h) 25) = W0) := hW0
  have HB0 : Hid (Below w.heap.size w W0) := hB0
  have HSE : Hid (Calls Try.prog 23 #[hvl v h, .int .i64 (s : Int), .agg #[.slice v.wo h.dnF.length v.wc, .slice v.dl h.dn.length v.dlc], .agg #[.slice v.uo h.upF.length v.uc, .slice v.ul h.up.length v.ulc]] W0 fun e w' => ∃ (mo : Option Addr) (mc : Nat) (X : List (Nat × Int × Bool)), X = dnL h s ∧ e = .returned (.tuple #[.slice mo X.length mc, .nilIface]) ∧ w'.ownsRow W0.heap.size 44 3 (.slice mo X.length mc) X.length (snv X) ∧ Below W0.heap.size W0 w') := search_good v h s v.wo v.dl v.wc v.dlc h.dnF h.dn v.uo v.ul v.uc v.ulc h.upF h.up W0 (hH.keep hB0) hc hs (rows_dn (hH.keep hB0) hc) (rows_up (hH.keep hB0) hc)
  clear hW0 h0 hB0 hH
  unfold cellsH at HW0
  unfold hvl at HSE ⊢
  go_enter Try.func9, Try.ntmps9
  go_wp2_with fail
  rw [HW0.out]
  refine HSE.out.mono ?_
  rintro e w1 ⟨mo, mc, X, hX, rfl, ho, hb⟩
  have H1 : Hid (X = dnL h s ∧ w1.ownsRow w.heap.size 44 3 (.slice mo X.length mc) X.length (snv X) ∧ Below w.heap.size w w1) := ⟨hX, own_mono ho HB0.out.size, HB0.out.trans (hb.mono HB0.out.size)⟩
  clear hX ho hb
  go_wp2
  go_ret2
  exact ⟨mo, mc, X, H1.out.1, rfl, H1.out.2.1, H1.out.2.2⟩

set_option maxRecDepth 100000 in
set_option maxHeartbeats 4000000 in
theorem down_bad (v : HV) (h : Hr) (s : Int) (w : World) (hH : HasH w v h) (hb1 : h.up.length ≤ 1152921504606846976) (hb2 : h.dn.length ≤ 1152921504606846976) (hb3 : h.node.length ≤ 1152921504606846976) (hr : Refuses h s) :
    Calls Try.prog 9 #[hvl v h, .int .i64 s] w fun e w' => ∃ T x, e = .returned (.tuple #[.slice none 0 0, .iface T x]) ∧ Below w.heap.size w w' := by
  obtain ⟨z, hz⟩ : ∃ z, w.heap.size = z := ⟨_, rfl⟩
  obtain ⟨W0, hW0⟩ : ∃ W0, w.alloc (.cells (cellsH v h) 25) = W0 := ⟨_, rfl⟩
  have hB0 : Below w.heap.size w W0 := by rw [← hW0]; exact (Below.refl _ w).alloc (Nat.le_refl _) _
  have h0 : W0.heap[z]? = some (.cells (cellsH v h) 25) := by rw [← hW0, ← hz]; exact heap_newW _ _
  obtain ⟨c0, c1, c2, c3, c4⟩ := five_cells h0
  have HW0 : Hid (w.alloc (.cells (cellsH v h) 25) = W0) := hW0
  have HB0 : Hid (Below w.heap.size w W0) := hB0
  have HSE : Hid (Calls Try.prog 23 #[hvl v h, .int .i64 s, .agg #[.slice v.wo h.dnF.length v.wc, .slice v.dl h.dn.length v.dlc], .agg #[.slice v.uo h.upF.length v.uc, .slice v.ul h.up.length v.ulc]] W0 fun e w' => ∃ T x, e = .returned (.tuple #[.slice none 0 0, .iface T x]) ∧ Below W0.heap.size W0 w') := search_bad v h s _ _ _ _ _ _ _ _ _ _ _ _ W0 (hH.keep hB0) hb1 hb2 hb3 hr
  clear hr
  clear hW0 h0 hB0 hH
  unfold cellsH at HW0
  unfold hvl at HSE ⊢
  go_enter Try.func9, Try.ntmps9
  go_wp2_with fail
  rw [HW0.out]
  refine HSE.out.mono ?_
  rintro e w1 ⟨T, x, rfl, hb⟩
  have H1 : Hid (Below w.heap.size w w1) := HB0.out.trans (hb.mono HB0.out.size)
  clear hb
  go_wp2
  go_ret2
  exact ⟨T, x, rfl, H1.out⟩

set_option maxRecDepth 100000 in
set_option maxHeartbeats 2000000 in
theorem great20_calls (v : HV) (h : Hr) (w : World) (hb1 : h.up.length ≤ 1152921504606846976) (hb2 : h.dn.length ≤ 1152921504606846976) :
    Calls Try.prog 6 #[hvl v h] w fun e w' => e = .returned (.bool (greatB h)) ∧ Below w.heap.size w w' := by
  obtain ⟨W0, hW0⟩ : ∃ W0, w.alloc (.cells (cellsH v h) 25) = W0 := ⟨_, rfl⟩
  have h0 : ∀ wx, Below W0.heap.size W0 wx → wx.heap[w.heap.size]? = some (.cells (cellsH v h) 25) ∧ Below w.heap.size w wx := fun wx hx => by
    have h1 : W0.heap[w.heap.size]? = some (.cells (cellsH v h) 25) := by rw [← hW0]; exact heap_newW _ _
    have h2 : Below w.heap.size w W0 := by rw [← hW0]; exact (Below.refl _ _).alloc (Nat.le_refl _) _
    exact ⟨(hx.block _ (some_lt h1)).trans h1, h2.trans (hx.mono h2.size)⟩
  have HW0 : Hid (w.alloc (.cells (cellsH v h) 25) = W0) := hW0
  have H0 : Hid (type_of% h0) := h0
  have HC : Hid (∀ wx, Calls Try.prog 18 #[hvl v h] wx fun e w' => e = .returned (.int .i64 ((h.up.length + h.dn.length : Nat) : Int)) ∧ w' = wx.alloc (.cells (cellsH v h) 25)) := fun wx => count_calls v h wx hb1 hb2
  obtain ⟨c0, c1, c2, c3, c4⟩ := five_cells (h0 W0 (Below.refl _ _)).1
  clear hW0 h0
  unfold hvl at HC ⊢
  unfold greatB
  generalize hc : h.up.length + h.dn.length = C at *
  have HS : Hid (w.heap.size < W0.heap.size) := some_lt (H0.out W0 (Below.refl _ _)).1
  unfold cellsH at HW0
  go_enter Try.func6, Try.ntmps6
  go_upto_region 1 with fail
  rw [HW0.out]
  by_cases g1 : 2000 < C
  · have d1 : decide ((C : Int) > 2000) = true := by simp; omega
    by_cases g2 : C ≤ 1048576
    · have d2 : decide ((C : Int) ≤ 1048576) = true := by simp; omega
      go_wp2_with (go_at_call 18; refine (HC.out _).mono ?_; rintro e w' ⟨rfl, rfl⟩; obtain ⟨k0, k1, k2, k3, k4⟩ := five_cells (H0.out _ ((Below.refl _ W0).alloc (Nat.le_refl _) (.cells (cellsH v h) 25))).1)
      go_ret
      exact ⟨by rw [decide_eq_true g1, decide_eq_true g2]; rfl, (H0.out _ (((Below.refl _ W0).alloc (Nat.le_refl _) _).alloc (by simp) _)).2⟩
    · have d2 : decide ((C : Int) ≤ 1048576) = false := by simp; omega
      go_wp2_with (go_at_call 18; refine (HC.out _).mono ?_; rintro e w' ⟨rfl, rfl⟩; obtain ⟨k0, k1, k2, k3, k4⟩ := five_cells (H0.out _ ((Below.refl _ W0).alloc (Nat.le_refl _) (.cells (cellsH v h) 25))).1)
      go_ret
      exact ⟨by rw [decide_eq_true g1, decide_eq_false g2]; rfl, (H0.out _ (((Below.refl _ W0).alloc (Nat.le_refl _) _).alloc (by simp) _)).2⟩
  · have d1 : decide ((C : Int) > 2000) = false := by simp; omega
    go_wp2_with (go_at_call 18; refine (HC.out _).mono ?_; rintro e w' ⟨rfl, rfl⟩; obtain ⟨k0, k1, k2, k3, k4⟩ := five_cells (H0.out _ ((Below.refl _ W0).alloc (Nat.le_refl _) (.cells (cellsH v h) 25))).1)
    go_ret
    exact ⟨by rw [decide_eq_false g1]; rfl, (H0.out _ ((Below.refl _ W0).alloc (Nat.le_refl _) _)).2⟩

theorem infoRs : (Try.prog.info? 51).map (fun i => (i.zero, i.size, i.bytes)) = some (some (.agg #[.int .i64 0, .int .u64 0, .bool false]), 3, 24) := by kernel_rfl
set_option maxRecDepth 100000 in
set_option maxHeartbeats 2000000 in
theorem of_calls (B : Nat) (lo : Option Addr) (lc : Nat) (X : List (Nat × Int × Bool)) (w : World) (hl : w.ownsRow B 44 3 (.slice lo X.length lc) X.length (snv X)) (hm : X.length ≤ 65536) :
    Calls Try.prog 11 #[.slice lo X.length lc] w fun e w' => ∃ mo mc, e = .returned (.slice mo X.length mc) ∧ w'.ownsRow w.heap.size 51 3 (.slice mo X.length mc) X.length (snv X) ∧ Below w.heap.size w w' := by
  have HL : Hid (w.ownsRow B 44 3 (.slice lo X.length lc) X.length (snv X)) := hl
  obtain ⟨i0, hi9, hzz⟩ := Option.map_eq_some_iff.1 infoRs
  simp only [Prod.mk.injEq] at hzz
  have HI : Hid (Try.prog.info? 51 = some i0 ∧ i0.zero = some (.agg #[.int .i64 0, .int .u64 0, .bool false]) ∧ i0.size = 3 ∧ i0.bytes = 24) := ⟨hi9, hzz⟩
  clear hl hi9 hzz
  go_enter Try.func11, Try.ntmps11
  go_wp2_with fail
  go_loopw [3, 8] (fun mv nv wr => ∃ (k : Nat) (so : Option Addr) (sc : Nat), k ≤ X.length ∧ nv = .int .i64 k ∧ mv = .slice so k sc ∧ wr.ownsRow w.heap.size 51 3 (.slice so k sc) k (snv (X.take k)) ∧ Below w.heap.size w wr) (fun _ nv _ => X.length - (intOf nv).toNat)
  case atStart => exact ⟨0, none, 0, Nat.zero_le _, rfl, rfl, World.ownsRow_nil _ _ _ _, Below.refl _ _⟩
  case round =>
    obtain ⟨k, so, sc, hk, rfl, rfl, hO, hB⟩ := hrel
    have HK : Hid (wr.ownsRow w.heap.size 51 3 (.slice so k sc) k (snv (X.take k)) ∧ Below w.heap.size w wr) := ⟨hO, hB⟩
    by_cases hlt : k < X.length
    · obtain ⟨⟨x, d, bb⟩, ha⟩ : ∃ a, X[k]? = some a := ⟨X[k], List.getElem?_eq_getElem hlt⟩
      have hown := own_below HL.out hB
      obtain ⟨g, hg⟩ : ∃ g, lo = some ⟨g, 0, none⟩ := by
        rcases hown.2 with ⟨e1, _⟩ | ⟨g, cap, cur, e1, _⟩
        · simp at e1; omega
        · simp at e1; exact ⟨g, e1.1⟩
      subst hg
      obtain ⟨s0, s1, s2⟩ := snv_get _ k _ ha
      have c0 := (hown.cellAt (k * 3) (by omega)).trans s0
      have c1 := (hown.cellAt (k * 3 + 1) (by omega)).trans s1
      have c2 := (hown.cellAt (k * 3 + 2) (by omega)).trans s2
      have HT1 : Hid (X.take (k + 1) = X.take k ++ [(x, d, bb)]) := by show _ = _; rw [List.take_add_one, ha]; rfl
      have i1 : (k : Int) < (X.length : Int) := by omega
      have i2 : (0 : Int) ≤ (k : Int) := by omega
      clear ha hO hB hown s0 s1 s2
      go_wp2_with (at_builtin; refine wpList_append_own _ rfl _ _ 36 rfl w.heap.size 51 i0 (.agg #[.int .i64 0, .int .u64 0, .bool false]) 3 24 Try.underlying36 HI.out.1 HI.out.2.1 HI.out.2.2.1 HI.out.2.2.2 rfl (by decide) _ k (snv (X.take k)) rfl ((HK.out.1.alloc _).alloc _) ⟨wr.heap.size + 1, 0, none⟩ 1 1 (snv [(x, d, bb)]) rfl rfl (by have g := new_cells (wr.alloc (.cells #[.int .i64 (x : Int), .int .u64 d, .bool bb] 44)) (snv [(x, d, bb)]) 51; rw [World.size_alloc] at g; exact g) (snv_one _) (by unfold maxLen; omega) (by omega) (by have := HK.out.2.size; simp; omega) ?_; intro v5 w5 hown5 hgr5 _; have H5 : Hid (w5.ownsRow w.heap.size 51 3 v5 (k + 1) (snv (X.take (k + 1))) ∧ Below w.heap.size w w5) := ⟨by rw [HT1.out, snv_append]; exact hown5, below_grown ((HK.out.2.alloc HK.out.2.size _).alloc (by have := HK.out.2.size; simp; omega) _) ((HK.out.1.alloc _).alloc _) hgr5 (by have := HK.out.2.size; simp; omega)⟩; clear hown5 hgr5; obtain ⟨po, pc, hv5⟩ := own_slice H5.out.1; subst hv5)
      exact ⟨⟨k + 1, po, pc, by omega, by rw [show (k : Int) + 1 = ((k + 1 : Nat) : Int) by omega], rfl, H5.out.1, H5.out.2⟩, by simp only [intOf]; omega⟩
    · obtain rfl : k = X.length := by omega
      have HK2 : Hid (wr.ownsRow w.heap.size 51 3 (.slice so X.length sc) X.length (snv X) ∧ Below w.heap.size w wr) := ⟨by rw [List.take_length] at hO; exact hO, hB⟩
      clear hO hB HK
      go_wp2_with fail
      go_ret
      exact ⟨so, sc, rfl, HK2.out.1, HK2.out.2⟩

set_option maxRecDepth 100000 in
set_option maxHeartbeats 2000000 in
theorem sSame_yes (B B' : Nat) (lo mo : Option Addr) (lc mc : Nat) (X : List (Nat × Int × Bool)) (w : World) (hl : w.ownsRow B 51 3 (.slice lo X.length lc) X.length (snv X)) (hr : w.ownsRow B' 51 3 (.slice mo X.length mc) X.length (snv X)) (hm : X.length ≤ 65536) :
    Calls Try.prog 10 #[.slice lo X.length lc, .slice mo X.length mc] w fun e w' => e = .returned (.bool true) ∧ Below w.heap.size w w' := by
  have HL : Hid (w.ownsRow B 51 3 (.slice lo X.length lc) X.length (snv X) ∧ w.ownsRow B' 51 3 (.slice mo X.length mc) X.length (snv X)) := ⟨hl, hr⟩
  clear hl hr
  go_enter Try.func10, Try.ntmps10
  go_wp2_with fail
  go_loopw [13] (fun nv wr => ∃ (k : Nat), k ≤ X.length ∧ nv = .int .i64 k ∧ Hid (Below w.heap.size w wr)) (fun nv _ => X.length - (intOf nv).toNat)
  case atStart => exact ⟨0, Nat.zero_le _, rfl, Below.refl _ _⟩
  case round =>
    obtain ⟨k, hk, rfl, HB⟩ := hrel
    by_cases hlt : k < X.length
    · obtain ⟨⟨x, d, bb⟩, ha⟩ : ∃ a, X[k]? = some a := ⟨X[k], List.getElem?_eq_getElem hlt⟩
      have ho1 := own_below HL.out.1 HB.out
      have ho2 := own_below HL.out.2 HB.out
      obtain ⟨g, hg⟩ : ∃ g, lo = some ⟨g, 0, none⟩ := by
        rcases ho1.2 with ⟨e1, _⟩ | ⟨g, cap, cur, e1, _⟩
        · simp at e1; omega
        · simp at e1; exact ⟨g, e1.1⟩
      obtain ⟨g', hg'⟩ : ∃ g, mo = some ⟨g, 0, none⟩ := by
        rcases ho2.2 with ⟨e1, _⟩ | ⟨g, cap, cur, e1, _⟩
        · simp at e1; omega
        · simp at e1; exact ⟨g, e1.1⟩
      subst hg hg'
      obtain ⟨s0, s1, s2⟩ := snv_get _ k _ ha
      have c0 := (ho1.cellAt (k * 3) (by omega)).trans s0
      have c1 := (ho1.cellAt (k * 3 + 1) (by omega)).trans s1
      have c2 := (ho1.cellAt (k * 3 + 2) (by omega)).trans s2
      have d0 := (ho2.cellAt (k * 3) (by omega)).trans s0
      have d1 := (ho2.cellAt (k * 3 + 1) (by omega)).trans s1
      have d2 := (ho2.cellAt (k * 3 + 2) (by omega)).trans s2
      have i1 : (k : Int) < (X.length : Int) := by omega
      have i2 : (0 : Int) ≤ (k : Int) := by omega
      clear ha ho1 ho2 s0 s1 s2
      go_wp2_with fail
      go_quiet (fail)
      go_wp2
      go_roundw
      case rel => exact ⟨k + 1, by omega, by go_num, ⟨HB.out.os, HB.out.tape, HB.out.output, HB.out.size, HB.out.block⟩⟩
      case measure => simp [intOf]; omega
    · obtain rfl : k = X.length := by omega
      go_wp2
      go_ret
      exact ⟨rfl, HB.out⟩
end Go.Proofs.Ytepkogijignmlaa.Cb
