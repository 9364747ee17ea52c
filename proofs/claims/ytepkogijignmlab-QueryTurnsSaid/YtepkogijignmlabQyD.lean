/- query.Distance and Meet; the law's great and awake. (genqd.py) -/
import Derived.Test.YtepkogijignmlabQyC
import Derived.Test.YtepkogijignmlabHrQ
namespace Go.Proofs.Ytepkogijignmlab.Qy
open Go.RowKit Go.Extern Go.Shelf Hi Cb

attribute [local go_sem] Oper.semAt_some

set_option maxRecDepth 100000 in
set_option maxHeartbeats 4000000 in
theorem dist_calls (v : HV) (h : Hr) (s t : Int) (w : World) (hH : HasH w v h) (hb1 : h.up.length ≤ 1152921504606846976) (hb2 : h.dn.length ≤ 1152921504606846976) (hb3 : h.node.length ≤ 1152921504606846976) :
    Calls Try.prog 8 #[hvl v h, .int .i64 s, .int .i64 t] w fun e w' => ∃ (r : Nat) (d : Int) (u : Value), MR h s t r d u ∧ e = .returned (.tuple #[.int .u64 d, u]) ∧ Below w.heap.size w w' := by
  obtain ⟨z, hz⟩ : ∃ z, w.heap.size = z := ⟨_, rfl⟩
  obtain ⟨W0, hW0⟩ : ∃ W0, w.alloc (.cells (cellsH v h) 25) = W0 := ⟨_, rfl⟩
  have hB0 : Below w.heap.size w W0 := by rw [← hW0]; exact (Below.refl _ w).alloc (Nat.le_refl _) _
  have h0 : W0.heap[z]? = some (.cells (cellsH v h) 25) := by rw [← hW0, ← hz]; exact heap_newW _ _
  obtain ⟨c0, c1, c2, c3, c4⟩ := five_cells h0
  have HW0 : Hid (w.alloc (.cells (cellsH v h) 25) = W0) := hW0
  have HB0 : Hid (Below w.heap.size w W0) := hB0
  have HME : Hid (Calls Try.prog 19 #[hvl v h, .int .i64 s, .int .i64 t] W0 fun e w' => ∃ (r : Nat) (d : Int) (u : Value), MR h s t r d u ∧ e = .returned (.tuple #[.agg #[.int .i64 (r : Int), .int .u64 d], u]) ∧ Below W0.heap.size W0 w') := meet_calls v h s t W0 (hH.keep hB0) hb1 hb2 hb3
  clear hW0 h0 hB0 hH
  unfold cellsH at HW0
  unfold hvl at HME ⊢
  go_enter Try.func8, Try.ntmps8
  go_wp2_with fail
  rw [HW0.out]
  refine HME.out.mono ?_
  rintro e w1 ⟨r, d, u, hm, rfl, hb⟩
  have H1 : Hid (MR h s t r d u ∧ Below w.heap.size w w1) := ⟨hm, HB0.out.trans (hb.mono HB0.out.size)⟩
  clear hm hb
  go_wp2
  go_ret2
  exact ⟨r, d, u, H1.out.1, rfl, H1.out.2.alloc H1.out.2.size _⟩

set_option maxRecDepth 100000 in
set_option maxHeartbeats 4000000 in
theorem meetR_calls (v : HV) (h : Hr) (s t : Int) (w : World) (hH : HasH w v h) (hb1 : h.up.length ≤ 1152921504606846976) (hb2 : h.dn.length ≤ 1152921504606846976) (hb3 : h.node.length ≤ 1152921504606846976) :
    Calls Try.prog 9 #[hvl v h, .int .i64 s, .int .i64 t] w fun e w' => ∃ (r : Nat) (d : Int) (u : Value), MR h s t r d u ∧ e = .returned (.tuple #[.int .i64 (r : Int), u]) ∧ Below w.heap.size w w' := by
  obtain ⟨z, hz⟩ : ∃ z, w.heap.size = z := ⟨_, rfl⟩
  obtain ⟨W0, hW0⟩ : ∃ W0, w.alloc (.cells (cellsH v h) 25) = W0 := ⟨_, rfl⟩
  have hB0 : Below w.heap.size w W0 := by rw [← hW0]; exact (Below.refl _ w).alloc (Nat.le_refl _) _
  have h0 : W0.heap[z]? = some (.cells (cellsH v h) 25) := by rw [← hW0, ← hz]; exact heap_newW _ _
  obtain ⟨c0, c1, c2, c3, c4⟩ := five_cells h0
  have HW0 : Hid (w.alloc (.cells (cellsH v h) 25) = W0) := hW0
  have HB0 : Hid (Below w.heap.size w W0) := hB0
  have HME : Hid (Calls Try.prog 19 #[hvl v h, .int .i64 s, .int .i64 t] W0 fun e w' => ∃ (r : Nat) (d : Int) (u : Value), MR h s t r d u ∧ e = .returned (.tuple #[.agg #[.int .i64 (r : Int), .int .u64 d], u]) ∧ Below W0.heap.size W0 w') := meet_calls v h s t W0 (hH.keep hB0) hb1 hb2 hb3
  clear hW0 h0 hB0 hH
  unfold cellsH at HW0
  unfold hvl at HME ⊢
  go_enter Try.func9, Try.ntmps9
  go_wp2_with fail
  rw [HW0.out]
  refine HME.out.mono ?_
  rintro e w1 ⟨r, d, u, hm, rfl, hb⟩
  have H1 : Hid (MR h s t r d u ∧ Below w.heap.size w w1) := ⟨hm, HB0.out.trans (hb.mono HB0.out.size)⟩
  clear hm hb
  go_wp2
  go_ret2
  exact ⟨r, d, u, H1.out.1, rfl, H1.out.2.alloc H1.out.2.size _⟩

set_option maxRecDepth 100000 in
set_option maxHeartbeats 2000000 in
theorem great21_calls (v : HV) (h : Hr) (w : World) (hb1 : h.up.length ≤ 1152921504606846976) (hb2 : h.dn.length ≤ 1152921504606846976) :
    Calls Try.prog 5 #[hvl v h] w fun e w' => e = .returned (.bool (greatB h)) ∧ Below w.heap.size w w' := by
  obtain ⟨W0, hW0⟩ : ∃ W0, w.alloc (.cells (cellsH v h) 25) = W0 := ⟨_, rfl⟩
  have h0 : ∀ wx, Below W0.heap.size W0 wx → wx.heap[w.heap.size]? = some (.cells (cellsH v h) 25) ∧ Below w.heap.size w wx := fun wx hx => by
    have h1 : W0.heap[w.heap.size]? = some (.cells (cellsH v h) 25) := by rw [← hW0]; exact heap_newW _ _
    have h2 : Below w.heap.size w W0 := by rw [← hW0]; exact (Below.refl _ _).alloc (Nat.le_refl _) _
    exact ⟨(hx.block _ (some_lt h1)).trans h1, h2.trans (hx.mono h2.size)⟩
  have HW0 : Hid (w.alloc (.cells (cellsH v h) 25) = W0) := hW0
  have H0 : Hid (type_of% h0) := h0
  have HC : Hid (∀ wx, Calls Try.prog 11 #[hvl v h] wx fun e w' => e = .returned (.int .i64 ((h.up.length + h.dn.length : Nat) : Int)) ∧ w' = wx.alloc (.cells (cellsH v h) 25)) := fun wx => count_calls v h wx hb1 hb2
  obtain ⟨c0, c1, c2, c3, c4⟩ := five_cells (h0 W0 (Below.refl _ _)).1
  clear hW0 h0
  unfold hvl at HC ⊢
  unfold greatB
  generalize hc : h.up.length + h.dn.length = C at *
  have HS : Hid (w.heap.size < W0.heap.size) := some_lt (H0.out W0 (Below.refl _ _)).1
  unfold cellsH at HW0
  go_enter Try.func5, Try.ntmps5
  go_upto_region 1 with fail
  rw [HW0.out]
  by_cases g1 : 2000 < C
  · have d1 : decide ((C : Int) > 2000) = true := by simp; omega
    by_cases g2 : C ≤ 1048576
    · have d2 : decide ((C : Int) ≤ 1048576) = true := by simp; omega
      go_wp2_with (go_at_call 11; refine (HC.out _).mono ?_; rintro e w' ⟨rfl, rfl⟩; obtain ⟨k0, k1, k2, k3, k4⟩ := five_cells (H0.out _ ((Below.refl _ W0).alloc (Nat.le_refl _) (.cells (cellsH v h) 25))).1)
      go_ret
      exact ⟨by rw [decide_eq_true g1, decide_eq_true g2]; rfl, (H0.out _ (((Below.refl _ W0).alloc (Nat.le_refl _) _).alloc (by simp) _)).2⟩
    · have d2 : decide ((C : Int) ≤ 1048576) = false := by simp; omega
      go_wp2_with (go_at_call 11; refine (HC.out _).mono ?_; rintro e w' ⟨rfl, rfl⟩; obtain ⟨k0, k1, k2, k3, k4⟩ := five_cells (H0.out _ ((Below.refl _ W0).alloc (Nat.le_refl _) (.cells (cellsH v h) 25))).1)
      go_ret
      exact ⟨by rw [decide_eq_true g1, decide_eq_false g2]; rfl, (H0.out _ (((Below.refl _ W0).alloc (Nat.le_refl _) _).alloc (by simp) _)).2⟩
  · have d1 : decide ((C : Int) > 2000) = false := by simp; omega
    go_wp2_with (go_at_call 11; refine (HC.out _).mono ?_; rintro e w' ⟨rfl, rfl⟩; obtain ⟨k0, k1, k2, k3, k4⟩ := five_cells (H0.out _ ((Below.refl _ W0).alloc (Nat.le_refl _) (.cells (cellsH v h) 25))).1)
    go_ret
    exact ⟨by rw [decide_eq_false g1]; rfl, (H0.out _ ((Below.refl _ W0).alloc (Nat.le_refl _) _)).2⟩

theorem meet_three : meetL three 0 2 = some (2, 5) ∧ meetL three 0 1 = some (1, 4) := by
  constructor <;> kernel_rfl
theorem mr_yes {h : Hr} {s t : Nat} (hc : chk h = (0, [])) (hs : s < h.node.length) (ht : t < h.node.length) {r0 : Nat} {d0 : Int} (hm : meetL h s t = some (r0, d0)) {r : Nat} {d : Int} {u : Value} (g : MR h (s : Int) (t : Int) r d u) : r = r0 ∧ d = d0 ∧ u = .nilIface := by
  have hn : Nodes h (s : Int) (t : Int) := ⟨hc, by omega, by omega⟩
  rcases g with ⟨_, e, hu⟩ | ⟨g, _⟩
  · rw [Int.toNat_natCast, Int.toNat_natCast, hm] at e
    have := Option.some.inj e
    simp only [Prod.mk.injEq] at this
    exact ⟨this.1.symm, this.2.symm, hu⟩
  · rcases g with g | g
    · exact absurd hn g
    · rw [Int.toNat_natCast, Int.toNat_natCast, hm] at g
      cases g
set_option maxRecDepth 100000 in
set_option maxHeartbeats 4000000 in
theorem awake21_calls (w : World) : Calls Try.prog 4 #[] w fun e w' => e = .returned (.bool true) ∧ Below w.heap.size w w' := by
  have HT : Hid (∀ wx : World, Calls Try.prog 10 #[] wx fun e w' => ∃ v, e = .returned (hvl v three) ∧ HasH w' v three ∧ Below wx.heap.size wx w') := fun wx => three_calls wx
  have HD : Hid (∀ wx v, HasH wx v three → Calls Try.prog 8 #[hvl v three, .int .i64 0, .int .i64 2] wx fun e w' => e = .returned (.tuple #[.int .u64 5, .nilIface]) ∧ Below wx.heap.size wx w') := fun wx v hv => (dist_calls v three 0 2 wx hv (by decide) (by decide) (by decide)).mono (by
    rintro e w' ⟨r, d, u, hm, rfl, hb⟩
    obtain ⟨rfl, rfl, rfl⟩ := mr_yes (s := 0) (t := 2) chk_three (by decide) (by decide) meet_three.1 hm
    exact ⟨rfl, hb⟩)
  have HM : Hid (∀ wx v, HasH wx v three → Calls Try.prog 9 #[hvl v three, .int .i64 0, .int .i64 1] wx fun e w' => e = .returned (.tuple #[.int .i64 1, .nilIface]) ∧ Below wx.heap.size wx w') := fun wx v hv => (meetR_calls v three 0 1 wx hv (by decide) (by decide) (by decide)).mono (by
    rintro e w' ⟨r, d, u, hm, rfl, hb⟩
    obtain ⟨rfl, rfl, rfl⟩ := mr_yes (s := 0) (t := 1) chk_three (by decide) (by decide) meet_three.2 hm
    exact ⟨rfl, hb⟩)
  go_enter Try.func4, Try.ntmps4
  go_wp2_with fail
  refine (HT.out w).mono ?_
  rintro e w1 ⟨v1, rfl, hH1, hb1⟩
  have H1 : Hid (HasH w1 v1 three ∧ Below w.heap.size w w1) := ⟨hH1, hb1⟩
  clear hH1 hb1
  go_wp2_with fail
  refine (HD.out w1 v1 H1.out.1).mono ?_
  rintro e w2 ⟨rfl, hb2⟩
  have H2 : Hid (Below w.heap.size w w2) := H1.out.2.trans (hb2.mono H1.out.2.size)
  clear hb2
  go_wp2_with fail
  refine (HT.out w2).mono ?_
  rintro e w3 ⟨v3, rfl, hH3, hb3⟩
  have H3 : Hid (HasH w3 v3 three ∧ Below w.heap.size w w3) := ⟨hH3, H2.out.trans (hb3.mono H2.out.size)⟩
  clear hH3 hb3
  go_wp2_with fail
  refine (HM.out w3 v3 H3.out.1).mono ?_
  rintro e w4 ⟨rfl, hb4⟩
  have H4 : Hid (Below w.heap.size w w4) := H3.out.2.trans (hb4.mono H3.out.2.size)
  clear hb4
  go_wp2
  go_ret
  exact ⟨rfl, H4.out⟩
end Go.Proofs.Ytepkogijignmlab.Qy
