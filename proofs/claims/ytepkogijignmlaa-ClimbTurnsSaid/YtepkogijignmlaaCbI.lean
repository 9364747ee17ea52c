/- ClimbTurns holds: for every hierarchy and rank the law answers true and its arguments read as they did. No condition beside the row's own. (genci.py) -/
import Derived.Test.YtepkogijignmlaaCbH
import Derived.Test.YtepkogijignmlaaHrW
import Derived.SizedLaws
namespace Go.Proofs.Ytepkogijignmlaa.Cb
open Go.ChangeShapes Go.WideShapes Go.ChangeAt Go.RowKit Go.Deep Go.Extern Hi

attribute [local go_sem] Oper.semAt_some

theorem climbed_len (n s : Nat) (a b : Nat → List Lk) : (climbed n s a b).length ≤ n := by
  unfold climbed
  rw [List.length_map]
  have := run_len a n 0 (start n s) []
  simpa using this
theorem refuses_turn {h : Hr} (hc : chk h = (0, [])) {s : Int} (hr : Refuses h s) : Refuses (turnH h) s := by
  rcases hr with hr | hr
  · exact absurd hc hr
  · exact Or.inr hr

set_option maxRecDepth 100000 in
set_option maxHeartbeats 8000000 in
theorem turns20 (v : HV) (h : Hr) (s : Int) (w : World) (hH : HasH w v h) (hb1 : h.up.length ≤ 1152921504606846976) (hb2 : h.dn.length ≤ 1152921504606846976) (hb3 : h.node.length ≤ 1152921504606846976) :
    Calls Try.prog 3 #[hvl v h, .int .i64 s] w fun e w' => e = .returned (.bool true) ∧ Below w.heap.size w w' := by
  obtain ⟨z, hz⟩ : ∃ z, w.heap.size = z := ⟨_, rfl⟩
  obtain ⟨W0, hW0⟩ : ∃ W0, w.alloc (.cells (cellsH v h) 25) = W0 := ⟨_, rfl⟩
  have h0 : ∀ wx, Below W0.heap.size W0 wx → wx.heap[z]? = some (.cells (cellsH v h) 25) ∧ HasH wx v h ∧ Below w.heap.size w wx := fun wx hx => by
    have h1 : W0.heap[z]? = some (.cells (cellsH v h) 25) := by rw [← hW0, ← hz]; exact heap_newW _ _
    have h2 : Below w.heap.size w W0 := by rw [← hW0]; exact (Below.refl _ _).alloc (Nat.le_refl _) _
    have h3 := h2.trans (hx.mono h2.size)
    exact ⟨(hx.block _ (some_lt h1)).trans h1, hH.keep h3, h3⟩
  have HW0 : Hid (w.alloc (.cells (cellsH v h) 25) = W0) := hW0
  have H0 : Hid (type_of% h0) := h0
  have HGR : Hid (∀ wx, Below W0.heap.size W0 wx → Calls Try.prog 6 #[hvl v h] wx fun e w' => e = .returned (.bool (greatB h)) ∧ Below wx.heap.size wx w') := fun wx _ => great20_calls v h wx hb1 hb2
  have HF5 : Hid (∀ wx, Below W0.heap.size W0 wx → wx.cell? ⟨z, 0, none⟩ = some (.slice v.no h.node.length v.nc) ∧ wx.cell? ⟨z, 1, none⟩ = some (.slice v.uo h.upF.length v.uc) ∧ wx.cell? ⟨z, 2, none⟩ = some (.slice v.ul h.up.length v.ulc) ∧ wx.cell? ⟨z, 3, none⟩ = some (.slice v.wo h.dnF.length v.wc) ∧ wx.cell? ⟨z, 4, none⟩ = some (.slice v.dl h.dn.length v.dlc)) := fun wx hx => five_cells (H0.out wx hx).1
  have HTN : Hid (∀ wx, Below W0.heap.size W0 wx → chk h ≠ (0, []) → Calls Try.prog 7 #[hvl v h] wx fun e w' => ∃ T x, e = .returned (.tuple #[.agg #[.slice none 0 0, .slice none 0 0, .slice none 0 0, .slice none 0 0, .slice none 0 0], .iface T x]) ∧ Below wx.heap.size wx w') := fun wx hx hc => turn_bad v h wx (h0 wx hx).2.1 hb1 hb2 hb3 hc
  have HTO : Hid (∀ wx, Below W0.heap.size W0 wx → chk h = (0, []) → Calls Try.prog 7 #[hvl v h] wx fun e w' => ∃ u, e = .returned (.tuple #[hvl u (turnH h), .nilIface]) ∧ HasH w' u (turnH h) ∧ Below wx.heap.size wx w') := fun wx hx hc => (turn_ok (h0 wx hx).2.1 hc).mono (by rintro e w' ⟨u, rfl, a, _, c⟩; exact ⟨u, rfl, a, c⟩)
  have HUB : Hid (∀ wx, Below W0.heap.size W0 wx → Refuses h s → Calls Try.prog 8 #[hvl v h, .int .i64 s] wx fun e w' => ∃ T x, e = .returned (.tuple #[.slice none 0 0, .iface T x]) ∧ Below wx.heap.size wx w') := fun wx hx hr => up_bad v h s wx (h0 wx hx).2.1 hb1 hb2 hb3 hr
  have HDB : Hid (∀ wx, Below W0.heap.size W0 wx → Refuses h s → Calls Try.prog 9 #[hvl v h, .int .i64 s] wx fun e w' => ∃ T x, e = .returned (.tuple #[.slice none 0 0, .iface T x]) ∧ Below wx.heap.size wx w') := fun wx hx hr => down_bad v h s wx (h0 wx hx).2.1 hb1 hb2 hb3 hr
  clear hW0 h0 hH
  unfold hvl at HGR HTN HUB HDB ⊢
  unfold cellsH at HW0
  go_enter Try.func3, Try.ntmps3
  go_wp2_with fail
  rw [HW0.out]
  refine (awake20_calls W0).mono ?_
  rintro e w1 ⟨rfl, hbb1⟩
  have HB1 : Hid (Below W0.heap.size W0 w1) := hbb1
  obtain ⟨c0, c1, c2, c3, c4⟩ := HF5.out w1 hbb1
  clear hbb1
  go_wp2_with fail
  refine (HGR.out w1 HB1.out).mono ?_
  rintro e w2 ⟨rfl, hbb2⟩
  have HB2 : Hid (Below W0.heap.size W0 w2) := btrH HB1.out hbb2
  clear hbb2 c0 c1 c2 c3 c4
  obtain ⟨c0, c1, c2, c3, c4⟩ := HF5.out w2 HB2.out
  by_cases hgr : greatB h = true
  · rw [hgr]
    go_wp2
    go_ret
    exact ⟨rfl, (H0.out w2 HB2.out).2.2⟩
  have hgr' : greatB h = false := by simpa using hgr
  rw [hgr']
  clear hgr hgr'
  by_cases hc : chk h = (0, [])
  · have HC : Hid (chk h = (0, [])) := hc
    go_wp2_with fail
    refine (HTO.out w2 HB2.out HC.out).mono ?_
    rintro e w3 ⟨u, rfl, hU, hbb3⟩
    have ht1 : (turnH h).up.length = h.dn.length := by simp [turnH]
    have ht2 : (turnH h).dn.length = h.up.length := by simp [turnH]
    have HTT : Hid (chk (turnH h) = (0, []) ∧ (turnH h).node = h.node ∧ (∀ k, upL (turnH h) k = dnL h k) ∧ (∀ k, dnL (turnH h) k = upL h k) ∧ (Refuses h s → Refuses (turnH h) s) ∧ (turnH h).up.length ≤ 1152921504606846976 ∧ (turnH h).dn.length ≤ 1152921504606846976) := ⟨turn_chk hc, rfl, up_turn h, dn_turn h, refuses_turn hc, by omega, by omega⟩
    obtain ⟨t, ht⟩ : ∃ t, turnH h = t := ⟨_, rfl⟩
    rw [ht] at hU HTT ⊢
    have HU : Hid (HasH w3 u t) := hU
    have HB3 : Hid (Below W0.heap.size W0 w3) := btrH HB2.out hbb3
    clear hbb3 hU c0 c1 c2 c3 c4 ht ht1 ht2 hc
    unfold hvl
    go_upto_region 6 with fail
    obtain ⟨y, hy⟩ : ∃ y, w3.heap.size = y := ⟨_, rfl⟩
    obtain ⟨W4, hW4⟩ : ∃ W4, w3.alloc (.cells #[.slice u.no t.node.length u.nc, .slice u.uo t.upF.length u.uc, .slice u.ul t.up.length u.ulc, .slice u.wo t.dnF.length u.wc, .slice u.dl t.dn.length u.dlc] 25) = W4 := ⟨_, rfl⟩
    have H4 : Hid (∀ wx, Below W4.heap.size W4 wx → ((wx.cell? ⟨z, 0, none⟩ = some (.slice v.no h.node.length v.nc) ∧ wx.cell? ⟨z, 1, none⟩ = some (.slice v.uo h.upF.length v.uc) ∧ wx.cell? ⟨z, 2, none⟩ = some (.slice v.ul h.up.length v.ulc) ∧ wx.cell? ⟨z, 3, none⟩ = some (.slice v.wo h.dnF.length v.wc) ∧ wx.cell? ⟨z, 4, none⟩ = some (.slice v.dl h.dn.length v.dlc)) ∧ wx.cell? ⟨y, 0, none⟩ = some (.slice u.no t.node.length u.nc) ∧ wx.cell? ⟨y, 1, none⟩ = some (.slice u.uo t.upF.length u.uc) ∧ wx.cell? ⟨y, 2, none⟩ = some (.slice u.ul t.up.length u.ulc) ∧ wx.cell? ⟨y, 3, none⟩ = some (.slice u.wo t.dnF.length u.wc) ∧ wx.cell? ⟨y, 4, none⟩ = some (.slice u.dl t.dn.length u.dlc)) ∧ HasH wx u t ∧ HasH wx v h ∧ Below W0.heap.size W0 wx) := fun wx hx => by
      have g1 : W4.heap[y]? = some (.cells #[.slice u.no t.node.length u.nc, .slice u.uo t.upF.length u.uc, .slice u.ul t.up.length u.ulc, .slice u.wo t.dnF.length u.wc, .slice u.dl t.dn.length u.dlc] 25) := by rw [← hW4, ← hy]; exact heap_newW _ _
      have g2 : Below w3.heap.size w3 W4 := by rw [← hW4]; exact (Below.refl _ _).alloc (Nat.le_refl _) _
      have g3 : Below w3.heap.size w3 wx := btrH g2 hx
      have g4 := btrH HB3.out g3
      exact ⟨⟨HF5.out wx g4, five_cells ((hx.block _ (some_lt g1)).trans g1)⟩, HU.out.keep g3, (H0.out wx g4).2.1, g4⟩
    rw [hW4, hy]
    clear hy hW4 HU HB3
    have HB4 : Hid (Below W4.heap.size W4 W4) := Below.refl _ _
    by_cases hs : 0 ≤ s ∧ s < (h.node.length : Int)
    · obtain ⟨k, rfl⟩ : ∃ k : Nat, s = (k : Int) := ⟨s.toNat, by omega⟩
      have hk : k < h.node.length := by omega
      obtain ⟨X, hX⟩ : ∃ X, dnL h k = X := ⟨_, rfl⟩
      obtain ⟨Y, hY⟩ : ∃ Y, upL h k = Y := ⟨_, rfl⟩
      have hn : h.node.length ≤ 65536 := (chk_ok HC.out).1
      have hXl : X.length ≤ 65536 := by rw [← hX]; exact Nat.le_trans (climbed_len _ _ _ _) hn
      have hYl : Y.length ≤ 65536 := by rw [← hY]; exact Nat.le_trans (climbed_len _ _ _ _) hn
      have HXY : Hid (X.length ≤ 65536 ∧ Y.length ≤ 65536) := ⟨hXl, hYl⟩
      have K1 : Hid (∀ wx, Below W4.heap.size W4 wx → Calls Try.prog 9 #[.agg #[.slice v.no h.node.length v.nc, .slice v.uo h.upF.length v.uc, .slice v.ul h.up.length v.ulc, .slice v.wo h.dnF.length v.wc, .slice v.dl h.dn.length v.dlc], .int .i64 (k : Int)] wx fun e w' => ∃ mo mc, e = .returned (.tuple #[.slice mo X.length mc, .nilIface]) ∧ w'.ownsRow wx.heap.size 44 3 (.slice mo X.length mc) X.length (snv X) ∧ Below wx.heap.size wx w') := fun wx hx => (down_ok v h k wx (H4.out wx hx).2.2.1 HC.out hk).mono (by rintro e w' ⟨mo, mc, X', e1, rfl, a, b⟩; rw [hX] at e1; subst e1; exact ⟨mo, mc, rfl, a, b⟩)
      have K2 : Hid (∀ wx, Below W4.heap.size W4 wx → Calls Try.prog 8 #[.agg #[.slice u.no t.node.length u.nc, .slice u.uo t.upF.length u.uc, .slice u.ul t.up.length u.ulc, .slice u.wo t.dnF.length u.wc, .slice u.dl t.dn.length u.dlc], .int .i64 (k : Int)] wx fun e w' => ∃ mo mc, e = .returned (.tuple #[.slice mo X.length mc, .nilIface]) ∧ w'.ownsRow wx.heap.size 44 3 (.slice mo X.length mc) X.length (snv X) ∧ Below wx.heap.size wx w') := fun wx hx => (up_ok u t k wx (H4.out wx hx).2.1 HTT.out.1 (by rw [HTT.out.2.1]; exact hk)).mono (by rintro e w' ⟨mo, mc, X', e1, rfl, a, b⟩; rw [HTT.out.2.2.1, hX] at e1; subst e1; exact ⟨mo, mc, rfl, a, b⟩)
      have K3 : Hid (∀ wx, Below W4.heap.size W4 wx → Calls Try.prog 8 #[.agg #[.slice v.no h.node.length v.nc, .slice v.uo h.upF.length v.uc, .slice v.ul h.up.length v.ulc, .slice v.wo h.dnF.length v.wc, .slice v.dl h.dn.length v.dlc], .int .i64 (k : Int)] wx fun e w' => ∃ mo mc, e = .returned (.tuple #[.slice mo Y.length mc, .nilIface]) ∧ w'.ownsRow wx.heap.size 44 3 (.slice mo Y.length mc) Y.length (snv Y) ∧ Below wx.heap.size wx w') := fun wx hx => (up_ok v h k wx (H4.out wx hx).2.2.1 HC.out hk).mono (by rintro e w' ⟨mo, mc, X', e1, rfl, a, b⟩; rw [hY] at e1; subst e1; exact ⟨mo, mc, rfl, a, b⟩)
      have K4 : Hid (∀ wx, Below W4.heap.size W4 wx → Calls Try.prog 9 #[.agg #[.slice u.no t.node.length u.nc, .slice u.uo t.upF.length u.uc, .slice u.ul t.up.length u.ulc, .slice u.wo t.dnF.length u.wc, .slice u.dl t.dn.length u.dlc], .int .i64 (k : Int)] wx fun e w' => ∃ mo mc, e = .returned (.tuple #[.slice mo Y.length mc, .nilIface]) ∧ w'.ownsRow wx.heap.size 44 3 (.slice mo Y.length mc) Y.length (snv Y) ∧ Below wx.heap.size wx w') := fun wx hx => (down_ok u t k wx (H4.out wx hx).2.1 HTT.out.1 (by rw [HTT.out.2.1]; exact hk)).mono (by rintro e w' ⟨mo, mc, X', e1, rfl, a, b⟩; rw [HTT.out.2.2.2.1, hY] at e1; subst e1; exact ⟨mo, mc, rfl, a, b⟩)
      clear hX hY hXl hYl hs hk hn
      obtain ⟨⟨⟨c0, c1, c2, c3, c4⟩, d0, d1, d2, d3, d4⟩, _⟩ := H4.out W4 HB4.out
      go_wp2_with fail
      refine (K1.out W4 HB4.out).mono ?_
      rintro e w5 ⟨m5, c5, rfl, ho5, hbb5⟩
      have HB5 : Hid (Below W4.heap.size W4 w5) := btrH HB4.out hbb5
      have O5 : Hid (∀ wx, Below w5.heap.size w5 wx → wx.ownsRow 0 44 3 (.slice m5 X.length c5) X.length (snv X)) := fun wx hx => own_mono (own_below ho5 hx) (Nat.zero_le _)
      clear ho5
      clear hbb5 c0 c1 c2 c3 c4 d0 d1 d2 d3 d4
      obtain ⟨⟨⟨c0, c1, c2, c3, c4⟩, d0, d1, d2, d3, d4⟩, _⟩ := H4.out w5 HB5.out
      go_wp2_with fail
      refine (K2.out w5 HB5.out).mono ?_
      rintro e w6 ⟨m6, c6, rfl, ho6, hbb6⟩
      have HB6 : Hid (Below W4.heap.size W4 w6) := btrH HB5.out hbb6
      have O6 : Hid (∀ wx, Below w6.heap.size w6 wx → wx.ownsRow 0 44 3 (.slice m6 X.length c6) X.length (snv X)) := fun wx hx => own_mono (own_below ho6 hx) (Nat.zero_le _)
      have O5 : Hid (∀ wx, Below w6.heap.size w6 wx → wx.ownsRow 0 44 3 (.slice m5 X.length c5) X.length (snv X)) := fun wx hx => O5.out wx (btrH hbb6 hx)
      clear ho6
      clear hbb6 c0 c1 c2 c3 c4 d0 d1 d2 d3 d4
      obtain ⟨⟨⟨c0, c1, c2, c3, c4⟩, d0, d1, d2, d3, d4⟩, _⟩ := H4.out w6 HB6.out
      go_wp2_with fail
      refine (K3.out w6 HB6.out).mono ?_
      rintro e w7 ⟨m7, c7, rfl, ho7, hbb7⟩
      have HB7 : Hid (Below W4.heap.size W4 w7) := btrH HB6.out hbb7
      have O7 : Hid (∀ wx, Below w7.heap.size w7 wx → wx.ownsRow 0 44 3 (.slice m7 Y.length c7) Y.length (snv Y)) := fun wx hx => own_mono (own_below ho7 hx) (Nat.zero_le _)
      have O5 : Hid (∀ wx, Below w7.heap.size w7 wx → wx.ownsRow 0 44 3 (.slice m5 X.length c5) X.length (snv X)) := fun wx hx => O5.out wx (btrH hbb7 hx)
      have O6 : Hid (∀ wx, Below w7.heap.size w7 wx → wx.ownsRow 0 44 3 (.slice m6 X.length c6) X.length (snv X)) := fun wx hx => O6.out wx (btrH hbb7 hx)
      clear ho7
      clear hbb7 c0 c1 c2 c3 c4 d0 d1 d2 d3 d4
      obtain ⟨⟨⟨c0, c1, c2, c3, c4⟩, d0, d1, d2, d3, d4⟩, _⟩ := H4.out w7 HB7.out
      go_wp2_with fail
      refine (K4.out w7 HB7.out).mono ?_
      rintro e w8 ⟨m8, c8, rfl, ho8, hbb8⟩
      have HB8 : Hid (Below W4.heap.size W4 w8) := btrH HB7.out hbb8
      have O8 : Hid (∀ wx, Below w8.heap.size w8 wx → wx.ownsRow 0 44 3 (.slice m8 Y.length c8) Y.length (snv Y)) := fun wx hx => own_mono (own_below ho8 hx) (Nat.zero_le _)
      have O5 : Hid (∀ wx, Below w8.heap.size w8 wx → wx.ownsRow 0 44 3 (.slice m5 X.length c5) X.length (snv X)) := fun wx hx => O5.out wx (btrH hbb8 hx)
      have O6 : Hid (∀ wx, Below w8.heap.size w8 wx → wx.ownsRow 0 44 3 (.slice m6 X.length c6) X.length (snv X)) := fun wx hx => O6.out wx (btrH hbb8 hx)
      have O7 : Hid (∀ wx, Below w8.heap.size w8 wx → wx.ownsRow 0 44 3 (.slice m7 Y.length c7) Y.length (snv Y)) := fun wx hx => O7.out wx (btrH hbb8 hx)
      clear ho8
      clear hbb8 c0 c1 c2 c3 c4 d0 d1 d2 d3 d4
      have HO0 : Hid (∀ wx, Below w8.heap.size w8 wx → Calls Try.prog 11 #[.slice m5 X.length c5] wx fun e w' => ∃ lo lc, e = .returned (.slice lo X.length lc) ∧ w'.ownsRow wx.heap.size 51 3 (.slice lo X.length lc) X.length (snv X) ∧ Below wx.heap.size wx w') := fun wx hx => of_calls 0 m5 c5 X wx (O5.out wx hx) HXY.out.1
      have HO1 : Hid (∀ wx, Below w8.heap.size w8 wx → Calls Try.prog 11 #[.slice m6 X.length c6] wx fun e w' => ∃ lo lc, e = .returned (.slice lo X.length lc) ∧ w'.ownsRow wx.heap.size 51 3 (.slice lo X.length lc) X.length (snv X) ∧ Below wx.heap.size wx w') := fun wx hx => of_calls 0 m6 c6 X wx (O6.out wx hx) HXY.out.1
      have HO2 : Hid (∀ wx, Below w8.heap.size w8 wx → Calls Try.prog 11 #[.slice m7 Y.length c7] wx fun e w' => ∃ lo lc, e = .returned (.slice lo Y.length lc) ∧ w'.ownsRow wx.heap.size 51 3 (.slice lo Y.length lc) Y.length (snv Y) ∧ Below wx.heap.size wx w') := fun wx hx => of_calls 0 m7 c7 Y wx (O7.out wx hx) HXY.out.2
      have HO3 : Hid (∀ wx, Below w8.heap.size w8 wx → Calls Try.prog 11 #[.slice m8 Y.length c8] wx fun e w' => ∃ lo lc, e = .returned (.slice lo Y.length lc) ∧ w'.ownsRow wx.heap.size 51 3 (.slice lo Y.length lc) Y.length (snv Y) ∧ Below wx.heap.size wx w') := fun wx hx => of_calls 0 m8 c8 Y wx (O8.out wx hx) HXY.out.2
      have HQ3 : Hid (∀ wx lo lc mo mc, wx.ownsRow 0 51 3 (.slice lo X.length lc) X.length (snv X) → wx.ownsRow 0 51 3 (.slice mo X.length mc) X.length (snv X) → Calls Try.prog 10 #[.slice lo X.length lc, .slice mo X.length mc] wx fun e w' => e = .returned (.bool true) ∧ Below wx.heap.size wx w') := fun wx lo lc mo mc p q => sSame_yes 0 0 lo mo lc mc X wx p q HXY.out.1
      have HQ6 : Hid (∀ wx lo lc mo mc, wx.ownsRow 0 51 3 (.slice lo Y.length lc) Y.length (snv Y) → wx.ownsRow 0 51 3 (.slice mo Y.length mc) Y.length (snv Y) → Calls Try.prog 10 #[.slice lo Y.length lc, .slice mo Y.length mc] wx fun e w' => e = .returned (.bool true) ∧ Below wx.heap.size wx w') := fun wx lo lc mo mc p q => sSame_yes 0 0 lo mo lc mc Y wx p q HXY.out.2
      go_wp2_with fail
      go_region_held3 (fun _ => True) (trivial) (first
        | (go_at_call 10; have gg := V5; clear gg; refine (HQ6.out _ _ _ _ _ P4.out O5.out).mono ?_; rintro e v6 ⟨rfl, hy⟩; have V6 : Hid (Below w8.heap.size w8 v6) := btrH' V5.out hy; clear hy)
        | (go_at_call 11; have gg := V4; clear gg; refine (HO3.out _ V4.out).mono ?_; rintro e v5 ⟨l5, k5, rfl, ho, hy⟩; have V5 : Hid (Below w8.heap.size w8 v5) := btrH' V4.out hy; have O5 : Hid (v5.ownsRow 0 51 3 (.slice l5 Y.length k5) Y.length (snv Y)) := own_mono ho (Nat.zero_le _); have P4 : Hid (v5.ownsRow 0 51 3 (.slice l4 Y.length k4) Y.length (snv Y)) := own_below O4.out hy; clear ho hy)
        | (go_at_call 11; have gg := V3; clear gg; refine (HO2.out _ V3.out).mono ?_; rintro e v4 ⟨l4, k4, rfl, ho, hy⟩; have V4 : Hid (Below w8.heap.size w8 v4) := btrH' V3.out hy; have O4 : Hid (v4.ownsRow 0 51 3 (.slice l4 Y.length k4) Y.length (snv Y)) := own_mono ho (Nat.zero_le _); clear ho hy)
        | (go_at_call 10; have gg := V2; clear gg; refine (HQ3.out _ _ _ _ _ P1.out O2.out).mono ?_; rintro e v3 ⟨rfl, hy⟩; have V3 : Hid (Below w8.heap.size w8 v3) := btrH' V2.out hy; clear hy)
        | (go_at_call 11; have gg := V1; clear gg; refine (HO1.out _ V1.out).mono ?_; rintro e v2 ⟨l2, k2, rfl, ho, hy⟩; have V2 : Hid (Below w8.heap.size w8 v2) := btrH' V1.out hy; have O2 : Hid (v2.ownsRow 0 51 3 (.slice l2 X.length k2) X.length (snv X)) := own_mono ho (Nat.zero_le _); have P1 : Hid (v2.ownsRow 0 51 3 (.slice l1 X.length k1) X.length (snv X)) := own_below O1.out hy; clear ho hy)
        | (go_at_call 11; refine (HO0.out _ (by first | exact (Below.refl _ _).drew | exact bdrew (Below.refl _ _) _ | exact Below.refl _ _)).mono ?_; rintro e v1 ⟨l1, k1, rfl, ho, hy⟩; have V1 : Hid (Below w8.heap.size w8 v1) := btrH' (by first | exact (Below.refl _ _).drew | exact bdrew (Below.refl _ _) _ | exact Below.refl _ _) hy; have O1 : Hid (v1.ownsRow 0 51 3 (.slice l1 X.length k1) X.length (snv X)) := own_mono ho (Nat.zero_le _); clear ho hy))
      go_wp2
      go_ret
      exact ⟨rfl, (H0.out v6 (H4.out v6 (btrH HB8.out V6.out)).2.2.2).2.2⟩
    · have hr : Refuses h s := by
        right
        rcases Int.lt_or_le s 0 with g | g
        · exact Or.inl g
        · right; rcases Int.lt_or_le s (h.node.length : Int) with g2 | g2
          · exact absurd ⟨g, g2⟩ hs
          · exact g2
      have K1 : Hid (∀ wx, Below W4.heap.size W4 wx → Calls Try.prog 9 #[.agg #[.slice v.no h.node.length v.nc, .slice v.uo h.upF.length v.uc, .slice v.ul h.up.length v.ulc, .slice v.wo h.dnF.length v.wc, .slice v.dl h.dn.length v.dlc], .int .i64 s] wx fun e w' => ∃ T x, e = .returned (.tuple #[.slice none 0 0, .iface T x]) ∧ Below wx.heap.size wx w') := fun wx hx => HDB.out wx (H4.out wx hx).2.2.2 hr
      have K2 : Hid (∀ wx, Below W4.heap.size W4 wx → Calls Try.prog 8 #[.agg #[.slice u.no t.node.length u.nc, .slice u.uo t.upF.length u.uc, .slice u.ul t.up.length u.ulc, .slice u.wo t.dnF.length u.wc, .slice u.dl t.dn.length u.dlc], .int .i64 s] wx fun e w' => ∃ T x, e = .returned (.tuple #[.slice none 0 0, .iface T x]) ∧ Below wx.heap.size wx w') := fun wx hx => up_bad u t s wx (H4.out wx hx).2.1 HTT.out.2.2.2.2.2.1 HTT.out.2.2.2.2.2.2 (by rw [HTT.out.2.1]; exact hb3) (HTT.out.2.2.2.2.1 hr)
      have K3 : Hid (∀ wx, Below W4.heap.size W4 wx → Calls Try.prog 8 #[.agg #[.slice v.no h.node.length v.nc, .slice v.uo h.upF.length v.uc, .slice v.ul h.up.length v.ulc, .slice v.wo h.dnF.length v.wc, .slice v.dl h.dn.length v.dlc], .int .i64 s] wx fun e w' => ∃ T x, e = .returned (.tuple #[.slice none 0 0, .iface T x]) ∧ Below wx.heap.size wx w') := fun wx hx => HUB.out wx (H4.out wx hx).2.2.2 hr
      have K4 : Hid (∀ wx, Below W4.heap.size W4 wx → Calls Try.prog 9 #[.agg #[.slice u.no t.node.length u.nc, .slice u.uo t.upF.length u.uc, .slice u.ul t.up.length u.ulc, .slice u.wo t.dnF.length u.wc, .slice u.dl t.dn.length u.dlc], .int .i64 s] wx fun e w' => ∃ T x, e = .returned (.tuple #[.slice none 0 0, .iface T x]) ∧ Below wx.heap.size wx w') := fun wx hx => down_bad u t s wx (H4.out wx hx).2.1 HTT.out.2.2.2.2.2.1 HTT.out.2.2.2.2.2.2 (by rw [HTT.out.2.1]; exact hb3) (HTT.out.2.2.2.2.1 hr)
      clear hs hr
      obtain ⟨⟨⟨c0, c1, c2, c3, c4⟩, d0, d1, d2, d3, d4⟩, _⟩ := H4.out W4 HB4.out
      go_wp2_with fail
      refine (K1.out W4 HB4.out).mono ?_
      rintro e w5 ⟨T5, x5, rfl, hbb5⟩
      have HB5 : Hid (Below W4.heap.size W4 w5) := btrH HB4.out hbb5
      clear hbb5 c0 c1 c2 c3 c4 d0 d1 d2 d3 d4
      obtain ⟨⟨⟨c0, c1, c2, c3, c4⟩, d0, d1, d2, d3, d4⟩, _⟩ := H4.out w5 HB5.out
      go_wp2_with fail
      refine (K2.out w5 HB5.out).mono ?_
      rintro e w6 ⟨T6, x6, rfl, hbb6⟩
      have HB6 : Hid (Below W4.heap.size W4 w6) := btrH HB5.out hbb6
      clear hbb6 c0 c1 c2 c3 c4 d0 d1 d2 d3 d4
      obtain ⟨⟨⟨c0, c1, c2, c3, c4⟩, d0, d1, d2, d3, d4⟩, _⟩ := H4.out w6 HB6.out
      go_wp2_with fail
      refine (K3.out w6 HB6.out).mono ?_
      rintro e w7 ⟨T7, x7, rfl, hbb7⟩
      have HB7 : Hid (Below W4.heap.size W4 w7) := btrH HB6.out hbb7
      clear hbb7 c0 c1 c2 c3 c4 d0 d1 d2 d3 d4
      obtain ⟨⟨⟨c0, c1, c2, c3, c4⟩, d0, d1, d2, d3, d4⟩, _⟩ := H4.out w7 HB7.out
      go_wp2_with fail
      refine (K4.out w7 HB7.out).mono ?_
      rintro e w8 ⟨T8, x8, rfl, hbb8⟩
      have HB8 : Hid (Below W4.heap.size W4 w8) := btrH HB7.out hbb8
      clear hbb8 c0 c1 c2 c3 c4 d0 d1 d2 d3 d4
      have HO0 : Hid (∀ wx, Below w8.heap.size w8 wx → Calls Try.prog 11 #[.slice none 0 0] wx fun e w' => ∃ lo lc, e = .returned (.slice lo 0 lc) ∧ w'.ownsRow wx.heap.size 51 3 (.slice lo 0 lc) 0 ([]) ∧ Below wx.heap.size wx w') := fun wx hx => of_calls 0 none 0 [] wx (World.ownsRow_nil _ _ _ _) (by decide)
      have HO1 : Hid (∀ wx, Below w8.heap.size w8 wx → Calls Try.prog 11 #[.slice none 0 0] wx fun e w' => ∃ lo lc, e = .returned (.slice lo 0 lc) ∧ w'.ownsRow wx.heap.size 51 3 (.slice lo 0 lc) 0 ([]) ∧ Below wx.heap.size wx w') := fun wx hx => of_calls 0 none 0 [] wx (World.ownsRow_nil _ _ _ _) (by decide)
      have HO2 : Hid (∀ wx, Below w8.heap.size w8 wx → Calls Try.prog 11 #[.slice none 0 0] wx fun e w' => ∃ lo lc, e = .returned (.slice lo 0 lc) ∧ w'.ownsRow wx.heap.size 51 3 (.slice lo 0 lc) 0 ([]) ∧ Below wx.heap.size wx w') := fun wx hx => of_calls 0 none 0 [] wx (World.ownsRow_nil _ _ _ _) (by decide)
      have HO3 : Hid (∀ wx, Below w8.heap.size w8 wx → Calls Try.prog 11 #[.slice none 0 0] wx fun e w' => ∃ lo lc, e = .returned (.slice lo 0 lc) ∧ w'.ownsRow wx.heap.size 51 3 (.slice lo 0 lc) 0 ([]) ∧ Below wx.heap.size wx w') := fun wx hx => of_calls 0 none 0 [] wx (World.ownsRow_nil _ _ _ _) (by decide)
      have HQ3 : Hid (∀ wx lo lc mo mc, wx.ownsRow 0 51 3 (.slice lo 0 lc) 0 ([]) → wx.ownsRow 0 51 3 (.slice mo 0 mc) 0 ([]) → Calls Try.prog 10 #[.slice lo 0 lc, .slice mo 0 mc] wx fun e w' => e = .returned (.bool true) ∧ Below wx.heap.size wx w') := fun wx lo lc mo mc p q => sSame_yes 0 0 lo mo lc mc [] wx p q (by decide)
      have HQ6 : Hid (∀ wx lo lc mo mc, wx.ownsRow 0 51 3 (.slice lo 0 lc) 0 ([]) → wx.ownsRow 0 51 3 (.slice mo 0 mc) 0 ([]) → Calls Try.prog 10 #[.slice lo 0 lc, .slice mo 0 mc] wx fun e w' => e = .returned (.bool true) ∧ Below wx.heap.size wx w') := fun wx lo lc mo mc p q => sSame_yes 0 0 lo mo lc mc [] wx p q (by decide)
      go_wp2_with fail
      go_region_held3 (fun _ => True) (trivial) (first
        | (go_at_call 10; have gg := V5; clear gg; refine (HQ6.out _ _ _ _ _ P4.out O5.out).mono ?_; rintro e v6 ⟨rfl, hy⟩; have V6 : Hid (Below w8.heap.size w8 v6) := btrH' V5.out hy; clear hy)
        | (go_at_call 11; have gg := V4; clear gg; refine (HO3.out _ V4.out).mono ?_; rintro e v5 ⟨l5, k5, rfl, ho, hy⟩; have V5 : Hid (Below w8.heap.size w8 v5) := btrH' V4.out hy; have O5 : Hid (v5.ownsRow 0 51 3 (.slice l5 0 k5) 0 ([])) := own_mono ho (Nat.zero_le _); have P4 : Hid (v5.ownsRow 0 51 3 (.slice l4 0 k4) 0 ([])) := own_below O4.out hy; clear ho hy)
        | (go_at_call 11; have gg := V3; clear gg; refine (HO2.out _ V3.out).mono ?_; rintro e v4 ⟨l4, k4, rfl, ho, hy⟩; have V4 : Hid (Below w8.heap.size w8 v4) := btrH' V3.out hy; have O4 : Hid (v4.ownsRow 0 51 3 (.slice l4 0 k4) 0 ([])) := own_mono ho (Nat.zero_le _); clear ho hy)
        | (go_at_call 10; have gg := V2; clear gg; refine (HQ3.out _ _ _ _ _ P1.out O2.out).mono ?_; rintro e v3 ⟨rfl, hy⟩; have V3 : Hid (Below w8.heap.size w8 v3) := btrH' V2.out hy; clear hy)
        | (go_at_call 11; have gg := V1; clear gg; refine (HO1.out _ V1.out).mono ?_; rintro e v2 ⟨l2, k2, rfl, ho, hy⟩; have V2 : Hid (Below w8.heap.size w8 v2) := btrH' V1.out hy; have O2 : Hid (v2.ownsRow 0 51 3 (.slice l2 0 k2) 0 ([])) := own_mono ho (Nat.zero_le _); have P1 : Hid (v2.ownsRow 0 51 3 (.slice l1 0 k1) 0 ([])) := own_below O1.out hy; clear ho hy)
        | (go_at_call 11; refine (HO0.out _ (by first | exact (Below.refl _ _).drew | exact bdrew (Below.refl _ _) _ | exact Below.refl _ _)).mono ?_; rintro e v1 ⟨l1, k1, rfl, ho, hy⟩; have V1 : Hid (Below w8.heap.size w8 v1) := btrH' (by first | exact (Below.refl _ _).drew | exact bdrew (Below.refl _ _) _ | exact Below.refl _ _) hy; have O1 : Hid (v1.ownsRow 0 51 3 (.slice l1 0 k1) 0 ([])) := own_mono ho (Nat.zero_le _); clear ho hy))
      go_wp2
      go_ret
      exact ⟨rfl, (H0.out v6 (H4.out v6 (btrH HB8.out V6.out)).2.2.2).2.2⟩
  · have HC : Hid (chk h ≠ (0, [])) := hc
    go_wp2_with fail
    refine (HTN.out w2 HB2.out HC.out).mono ?_
    rintro e w3 ⟨tt, xx, rfl, hbb3⟩
    have HB3 : Hid (Below W0.heap.size W0 w3) := btrH HB2.out hbb3
    clear hbb3 c0 c1 c2 c3 c4 hc
    go_upto_region 6 with fail
    obtain ⟨W4, hW4⟩ : ∃ W4, w3.alloc (.cells #[.slice none 0 0, .slice none 0 0, .slice none 0 0, .slice none 0 0, .slice none 0 0] 25) = W4 := ⟨_, rfl⟩
    have HB4 : Hid (Below W0.heap.size W0 W4) := by show Below _ _ _; rw [← hW4]; exact HB3.out.alloc HB3.out.size _
    rw [hW4]
    clear hW4
    obtain ⟨c0, c1, c2, c3, c4⟩ := HF5.out W4 HB4.out
    go_wp2_with fail
    refine (HUB.out W4 HB4.out (Or.inl HC.out)).mono ?_
    rintro e w5 ⟨t5, x5, rfl, hbb5⟩
    have HB5 : Hid (Below W0.heap.size W0 w5) := btrH HB4.out hbb5
    clear hbb5 c0 c1 c2 c3 c4
    go_wp2
    go_ret
    exact ⟨rfl, (H0.out w5 HB5.out).2.2⟩

set_option maxRecDepth 100000 in
theorem turns20_lifted (os : Os) (started : os.Started) (H : Type) (enc : TypeId × Value → H) :
    ReturnsInHanded {} Try.checked os 3 .any (Rows.climbTurnsSpec.pre6 enc Try.prog Try.f3 Rows.climbTurnsRow.domain false) (Rows.climbTurnsSpec.post enc Try.prog Try.f3 false true false false) := by
  refine returnsInHanded_of_change_sized (C := Try.checked) Try.own started (by kernel_rfl) Try.func3
    (ChangeSpec.witness6 (enc := enc) (C := Try.checked) false ⟨#[], #[.agg #[.slice none 0 0, .slice none 0 0, .slice none 0 0, .slice none 0 0, .slice none 0 0], .int .i64 0], []⟩ 8 (by kernel_rfl) (by kernel_rfl) (by kernel_rfl) (by kernel_rfl)) ?_
  intro W base args ds gs before hval0 hW _ hsz0 _
  have hval : ∀ (j : Nat) t v, Try.f3.params[j]? = some t → args[j]? = some v → Value.okWide Try.prog W .any base t v := hval0
  have hsz : (DataW.weightsEach Try.prog (Try.f3.params.toList ++ Rows.climbTurnsSpec.plain.varTypes Try.prog) (ds ++ gs)).all (· ≤ reachBytes) = true := hsz0
  have hW' := hW
  obtain ⟨p, q, hA0, hV, rfl, hfz, hnd⟩ := hW
  have hA : DataW.TrodAll enc Try.prog W 0 (fun _ => true) true Try.f3.params.toList args.toList ds p := hA0
  rw [Try.params3] at hA hval hsz
  obtain ⟨v0, vs0, d0, ds0, p0, q0, hargs, rfl, rfl, hr0, r0⟩ := trodAll_cons hA
  obtain ⟨v1, vs1, d1, ds1, p1, q1, rfl, rfl, rfl, hr1, r1⟩ := trodAll_cons r0
  obtain ⟨rfl, rfl, rfl⟩ := trodAll_nil r1
  obtain rfl : args = #[v0, v1] := by cases args; simp at hargs; simp [hargs]
  obtain ⟨rfl, rfl⟩ := trodVars_none hV
  obtain ⟨x, a, e0, e1, e2, e3, e4, rfl, hH, rfl, s0, s2, s4, _, _⟩ := hier_open (hval 0 25 v0 rfl rfl) hr0
  obtain ⟨s, rfl, _, _, _⟩ := open_int Try.underlying3 (hval 1 3 v1 rfl rfl) hr1
  have n0 := reach_w hsz (j := 0) rfl rfl (Or.inl rfl) s0
  have n2 := reach_l hsz (j := 0) rfl rfl (Or.inl rfl) s2
  have n4 := reach_l hsz (j := 0) rfl rfl (Or.inr rfl) s4
  refine (turns20 x a s W hH (by omega) (by omega) (by omega)).mono fun e W' ⟨he, hw⟩ => ?_
  subst he
  exact ⟨_, rfl, post_of_law hW' rfl (by kernel_rfl) rfl (by rw [Try.params3]; intro t ht; simp at ht; rcases ht with rfl | rfl <;> exact ⟨by kernel_rfl, of_decide_eq_true (by kernel_rfl)⟩) hw⟩
end Go.Proofs.Ytepkogijignmlaa.Cb

namespace Go.Proofs.Ytepkogijignmlaa
open Go.ChangeShapes Go.WideShapes Go.ChangeAt Go.RowKit Go.Deep Go.Extern
theorem climbTurns_holds : Rows.ClimbTurnsSaid :=
  OpenClaim.holds_of_wide 3 Try.f3 rfl rfl rfl rfl rfl rfl rfl ⟨rfl, rfl, rfl, rfl, rfl⟩ rfl rfl rfl rfl rfl (by kernel_rfl) Try.func3 (by kernel_rfl)
    (of_decide_eq_true (by kernel_rfl)) (by unfold Func.isWrapper; rw [if_neg (of_decide_eq_false (by kernel_rfl))]; exact ⟨rfl, rfl⟩)
    (fun os started H enc _ => Cb.turns20_lifted os started H enc)
#print axioms climbTurns_holds
end Go.Proofs.Ytepkogijignmlaa
