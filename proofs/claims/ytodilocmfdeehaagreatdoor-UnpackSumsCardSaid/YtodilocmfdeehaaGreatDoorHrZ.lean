/- hier.Same and the reference's Same, whatever the two hierarchies. (gensame.py) -/
import Derived.Test.YtodilocmfdeehaaGreatDoorHrY
namespace Go.Proofs.YtodilocmfdeehaaGreatDoor.Hi
open Go.RowKit Go.Extern

attribute [local go_sem] Oper.semAt_some

theorem btrH' {Z a b : World} (h : Below Z.heap.size Z a) (g : Below a.heap.size a b) : Below Z.heap.size Z b := h.trans (g.mono h.size)
/-- no list is longer than memory. -/
structure Short (a : Hr) : Prop where
  node : a.node.length ≤ 1152921504606846976
  upF : a.upF.length ≤ 1152921504606846976
  up : a.up.length ≤ 1152921504606846976
  dnF : a.dnF.length ≤ 1152921504606846976
  dn : a.dn.length ≤ 1152921504606846976
theorem same_hr (a b : Hr) : decide (a = b) = (decide (a.node = b.node) && decide (a.upF = b.upF) && decide (a.up = b.up) && decide (a.dnF = b.dnF) && decide (a.dn = b.dn)) := by
  obtain ⟨a0, a1, a2, a3, a4⟩ := a
  obtain ⟨b0, b1, b2, b3, b4⟩ := b
  rw [Bool.eq_iff_iff]
  simp [and_assoc]
theorem same_hr2 (a b : Hr) : decide (a = b) = (decide (a.node = b.node) && decide (a.upF = b.upF) && decide (a.dnF = b.dnF) && decide (a.up = b.up) && decide (a.dn = b.dn)) := by
  rw [same_hr]
  cases decide (a.node = b.node) <;> cases decide (a.upF = b.upF) <;> cases decide (a.up = b.up) <;> cases decide (a.dnF = b.dnF) <;> rfl

set_option maxRecDepth 100000 in
set_option maxHeartbeats 4000000 in
theorem tSame_calls (v u : HV) (a b : Hr) (w : World) (ha : HasH w v a) (hb : HasH w u b) (hm : Short a) :
    Calls Tryz.prog 28 #[hvl v a, hvl u b] w fun e w' => e = .returned (.bool (decide (a = b))) ∧ Below w.heap.size w w' := by
  obtain ⟨z, hz⟩ : ∃ z, w.heap.size = z := ⟨_, rfl⟩
  obtain ⟨W0, hW0⟩ : ∃ W0, (w.alloc (.cells (cellsH v a) 25)).alloc (.cells (cellsH u b) 25) = W0 := ⟨_, rfl⟩
  have hB0 : Below w.heap.size w W0 := by rw [← hW0]; exact ((Below.refl _ w).alloc (Nat.le_refl _) _).alloc (by simp) _
  have h0 : W0.heap[z]? = some (.cells (cellsH v a) 25) := by
    rw [← hW0, ← hz]; exact (Below.heap_alloc _ _ _ (by simp)).trans (heap_newW _ _)
  have h1 : W0.heap[z + 1]? = some (.cells (cellsH u b) 25) := by
    have g := heap_newW (w.alloc (.cells (cellsH v a) 25)) (.cells (cellsH u b) 25)
    rw [World.size_alloc, hW0, hz] at g
    exact g
  have HB0 : Hid (∀ wx, Below W0.heap.size W0 wx → Below w.heap.size w wx) := fun wx hx => hB0.trans (hx.mono hB0.size)
  have HQ : Hid (∀ wx, Below W0.heap.size W0 wx → wx.cell? ⟨z, 0, none⟩ = some (.slice v.no a.node.length v.nc) ∧ wx.cell? ⟨z, 1, none⟩ = some (.slice v.uo a.upF.length v.uc) ∧ wx.cell? ⟨z, 2, none⟩ = some (.slice v.ul a.up.length v.ulc) ∧ wx.cell? ⟨z, 3, none⟩ = some (.slice v.wo a.dnF.length v.wc) ∧ wx.cell? ⟨z, 4, none⟩ = some (.slice v.dl a.dn.length v.dlc) ∧ wx.cell? ⟨z + 1, 0, none⟩ = some (.slice u.no b.node.length u.nc) ∧ wx.cell? ⟨z + 1, 1, none⟩ = some (.slice u.uo b.upF.length u.uc) ∧ wx.cell? ⟨z + 1, 2, none⟩ = some (.slice u.ul b.up.length u.ulc) ∧ wx.cell? ⟨z + 1, 3, none⟩ = some (.slice u.wo b.dnF.length u.wc) ∧ wx.cell? ⟨z + 1, 4, none⟩ = some (.slice u.dl b.dn.length u.dlc)) := fun wx hx => by
    obtain ⟨a0, a1, a2, a3, a4⟩ := five_cells ((hx.block _ (some_lt h0)).trans h0)
    obtain ⟨b0, b1, b2, b3, b4⟩ := five_cells ((hx.block _ (some_lt h1)).trans h1)
    exact ⟨a0, a1, a2, a3, a4, b0, b1, b2, b3, b4⟩
  have H1 : Hid (∀ wx, Below W0.heap.size W0 wx → Calls Tryz.prog 53 #[.slice v.no a.node.length v.nc, .slice u.no b.node.length u.nc] wx fun e w' => e = .returned (.bool (decide (a.node = b.node))) ∧ Below wx.heap.size wx w') := fun wx hx => sameW_calls _ _ _ _ _ _ wx (ha.node.keep (hB0.trans (hx.mono hB0.size))) (hb.node.keep (hB0.trans (hx.mono hB0.size))) hm.node
  have H2 : Hid (∀ wx, Below W0.heap.size W0 wx → Calls Tryz.prog 53 #[.slice v.uo a.upF.length v.uc, .slice u.uo b.upF.length u.uc] wx fun e w' => e = .returned (.bool (decide (a.upF = b.upF))) ∧ Below wx.heap.size wx w') := fun wx hx => sameW_calls _ _ _ _ _ _ wx (ha.upF.keep (hB0.trans (hx.mono hB0.size))) (hb.upF.keep (hB0.trans (hx.mono hB0.size))) hm.upF
  have H3 : Hid (∀ wx, Below W0.heap.size W0 wx → Calls Tryz.prog 53 #[.slice v.wo a.dnF.length v.wc, .slice u.wo b.dnF.length u.wc] wx fun e w' => e = .returned (.bool (decide (a.dnF = b.dnF))) ∧ Below wx.heap.size wx w') := fun wx hx => sameW_calls _ _ _ _ _ _ wx (ha.dnF.keep (hB0.trans (hx.mono hB0.size))) (hb.dnF.keep (hB0.trans (hx.mono hB0.size))) hm.dnF
  have H4 : Hid (∀ wx, Below W0.heap.size W0 wx → Calls Tryz.prog 54 #[.slice v.ul a.up.length v.ulc, .slice u.ul b.up.length u.ulc] wx fun e w' => e = .returned (.bool (decide (a.up = b.up))) ∧ Below wx.heap.size wx w') := fun wx hx => sameL_calls _ _ _ _ _ _ wx (ha.up.keep (hB0.trans (hx.mono hB0.size))) (hb.up.keep (hB0.trans (hx.mono hB0.size))) hm.up
  have H5 : Hid (∀ wx, Below W0.heap.size W0 wx → Calls Tryz.prog 54 #[.slice v.dl a.dn.length v.dlc, .slice u.dl b.dn.length u.dlc] wx fun e w' => e = .returned (.bool (decide (a.dn = b.dn))) ∧ Below wx.heap.size wx w') := fun wx hx => sameL_calls _ _ _ _ _ _ wx (ha.dn.keep (hB0.trans (hx.mono hB0.size))) (hb.dn.keep (hB0.trans (hx.mono hB0.size))) hm.dn
  have HW0 : Hid ((w.alloc (.cells (cellsH v a) 25)).alloc (.cells (cellsH u b) 25) = W0) := hW0
  have HR : Hid (decide (a = b) = (decide (a.node = b.node) && decide (a.upF = b.upF) && decide (a.dnF = b.dnF) && decide (a.up = b.up) && decide (a.dn = b.dn))) := by show _ = _; rw [same_hr2]
  rw [HR.out]
  clear HR hW0 h0 h1 hB0 ha hb hm
  generalize decide (a.node = b.node) = e1 at *
  generalize decide (a.upF = b.upF) = e2 at *
  generalize decide (a.dnF = b.dnF) = e3 at *
  generalize decide (a.up = b.up) = e4 at *
  generalize decide (a.dn = b.dn) = e5 at *
  have Y0 : Hid (Below W0.heap.size W0 W0) := Below.refl _ _
  obtain ⟨a0, a1, a2, a3, a4, b0, b1, b2, b3, b4⟩ := HQ.out W0 Y0.out
  unfold cellsH at HW0
  unfold hvl
  go_enter Tryz.func28, Tryz.ntmps28
  go_upto_region 1 with fail
  rw [HW0.out]
  cases e1 with
  | false =>
    go_wp2_with (first | (go_at_call 54; refine (H5.out _ Y4.out).mono ?_; rintro e y5 ⟨rfl, hy⟩; have Y5 : Hid (Below W0.heap.size W0 y5) := btrH' Y4.out hy; obtain ⟨a0, a1, a2, a3, a4, b0, b1, b2, b3, b4⟩ := HQ.out y5 Y5.out; clear hy) | (go_at_call 54; refine (H4.out _ Y3.out).mono ?_; rintro e y4 ⟨rfl, hy⟩; have Y4 : Hid (Below W0.heap.size W0 y4) := btrH' Y3.out hy; obtain ⟨a0, a1, a2, a3, a4, b0, b1, b2, b3, b4⟩ := HQ.out y4 Y4.out; clear hy) | (go_at_call 53; refine (H3.out _ Y2.out).mono ?_; rintro e y3 ⟨rfl, hy⟩; have Y3 : Hid (Below W0.heap.size W0 y3) := btrH' Y2.out hy; obtain ⟨a0, a1, a2, a3, a4, b0, b1, b2, b3, b4⟩ := HQ.out y3 Y3.out; clear hy) | (go_at_call 53; refine (H2.out _ Y1.out).mono ?_; rintro e y2 ⟨rfl, hy⟩; have Y2 : Hid (Below W0.heap.size W0 y2) := btrH' Y1.out hy; obtain ⟨a0, a1, a2, a3, a4, b0, b1, b2, b3, b4⟩ := HQ.out y2 Y2.out; clear hy) | (go_at_call 53; refine (H1.out _ Y0.out).mono ?_; rintro e y1 ⟨rfl, hy⟩; have Y1 : Hid (Below W0.heap.size W0 y1) := btrH' Y0.out hy; obtain ⟨a0, a1, a2, a3, a4, b0, b1, b2, b3, b4⟩ := HQ.out y1 Y1.out; clear hy))
    go_ret
    exact ⟨rfl, HB0.out _ Y1.out⟩
  | true =>
    cases e2 with
    | false =>
      go_wp2_with (first | (go_at_call 54; refine (H5.out _ Y4.out).mono ?_; rintro e y5 ⟨rfl, hy⟩; have Y5 : Hid (Below W0.heap.size W0 y5) := btrH' Y4.out hy; obtain ⟨a0, a1, a2, a3, a4, b0, b1, b2, b3, b4⟩ := HQ.out y5 Y5.out; clear hy) | (go_at_call 54; refine (H4.out _ Y3.out).mono ?_; rintro e y4 ⟨rfl, hy⟩; have Y4 : Hid (Below W0.heap.size W0 y4) := btrH' Y3.out hy; obtain ⟨a0, a1, a2, a3, a4, b0, b1, b2, b3, b4⟩ := HQ.out y4 Y4.out; clear hy) | (go_at_call 53; refine (H3.out _ Y2.out).mono ?_; rintro e y3 ⟨rfl, hy⟩; have Y3 : Hid (Below W0.heap.size W0 y3) := btrH' Y2.out hy; obtain ⟨a0, a1, a2, a3, a4, b0, b1, b2, b3, b4⟩ := HQ.out y3 Y3.out; clear hy) | (go_at_call 53; refine (H2.out _ Y1.out).mono ?_; rintro e y2 ⟨rfl, hy⟩; have Y2 : Hid (Below W0.heap.size W0 y2) := btrH' Y1.out hy; obtain ⟨a0, a1, a2, a3, a4, b0, b1, b2, b3, b4⟩ := HQ.out y2 Y2.out; clear hy) | (go_at_call 53; refine (H1.out _ Y0.out).mono ?_; rintro e y1 ⟨rfl, hy⟩; have Y1 : Hid (Below W0.heap.size W0 y1) := btrH' Y0.out hy; obtain ⟨a0, a1, a2, a3, a4, b0, b1, b2, b3, b4⟩ := HQ.out y1 Y1.out; clear hy))
      go_ret
      exact ⟨rfl, HB0.out _ Y2.out⟩
    | true =>
      cases e3 with
      | false =>
        go_wp2_with (first | (go_at_call 54; refine (H5.out _ Y4.out).mono ?_; rintro e y5 ⟨rfl, hy⟩; have Y5 : Hid (Below W0.heap.size W0 y5) := btrH' Y4.out hy; obtain ⟨a0, a1, a2, a3, a4, b0, b1, b2, b3, b4⟩ := HQ.out y5 Y5.out; clear hy) | (go_at_call 54; refine (H4.out _ Y3.out).mono ?_; rintro e y4 ⟨rfl, hy⟩; have Y4 : Hid (Below W0.heap.size W0 y4) := btrH' Y3.out hy; obtain ⟨a0, a1, a2, a3, a4, b0, b1, b2, b3, b4⟩ := HQ.out y4 Y4.out; clear hy) | (go_at_call 53; refine (H3.out _ Y2.out).mono ?_; rintro e y3 ⟨rfl, hy⟩; have Y3 : Hid (Below W0.heap.size W0 y3) := btrH' Y2.out hy; obtain ⟨a0, a1, a2, a3, a4, b0, b1, b2, b3, b4⟩ := HQ.out y3 Y3.out; clear hy) | (go_at_call 53; refine (H2.out _ Y1.out).mono ?_; rintro e y2 ⟨rfl, hy⟩; have Y2 : Hid (Below W0.heap.size W0 y2) := btrH' Y1.out hy; obtain ⟨a0, a1, a2, a3, a4, b0, b1, b2, b3, b4⟩ := HQ.out y2 Y2.out; clear hy) | (go_at_call 53; refine (H1.out _ Y0.out).mono ?_; rintro e y1 ⟨rfl, hy⟩; have Y1 : Hid (Below W0.heap.size W0 y1) := btrH' Y0.out hy; obtain ⟨a0, a1, a2, a3, a4, b0, b1, b2, b3, b4⟩ := HQ.out y1 Y1.out; clear hy))
        go_ret
        exact ⟨rfl, HB0.out _ Y3.out⟩
      | true =>
        cases e4 with
        | false =>
          go_wp2_with (first | (go_at_call 54; refine (H5.out _ Y4.out).mono ?_; rintro e y5 ⟨rfl, hy⟩; have Y5 : Hid (Below W0.heap.size W0 y5) := btrH' Y4.out hy; obtain ⟨a0, a1, a2, a3, a4, b0, b1, b2, b3, b4⟩ := HQ.out y5 Y5.out; clear hy) | (go_at_call 54; refine (H4.out _ Y3.out).mono ?_; rintro e y4 ⟨rfl, hy⟩; have Y4 : Hid (Below W0.heap.size W0 y4) := btrH' Y3.out hy; obtain ⟨a0, a1, a2, a3, a4, b0, b1, b2, b3, b4⟩ := HQ.out y4 Y4.out; clear hy) | (go_at_call 53; refine (H3.out _ Y2.out).mono ?_; rintro e y3 ⟨rfl, hy⟩; have Y3 : Hid (Below W0.heap.size W0 y3) := btrH' Y2.out hy; obtain ⟨a0, a1, a2, a3, a4, b0, b1, b2, b3, b4⟩ := HQ.out y3 Y3.out; clear hy) | (go_at_call 53; refine (H2.out _ Y1.out).mono ?_; rintro e y2 ⟨rfl, hy⟩; have Y2 : Hid (Below W0.heap.size W0 y2) := btrH' Y1.out hy; obtain ⟨a0, a1, a2, a3, a4, b0, b1, b2, b3, b4⟩ := HQ.out y2 Y2.out; clear hy) | (go_at_call 53; refine (H1.out _ Y0.out).mono ?_; rintro e y1 ⟨rfl, hy⟩; have Y1 : Hid (Below W0.heap.size W0 y1) := btrH' Y0.out hy; obtain ⟨a0, a1, a2, a3, a4, b0, b1, b2, b3, b4⟩ := HQ.out y1 Y1.out; clear hy))
          go_ret
          exact ⟨rfl, HB0.out _ Y4.out⟩
        | true =>
          cases e5 with
          | false =>
            go_wp2_with (first | (go_at_call 54; refine (H5.out _ Y4.out).mono ?_; rintro e y5 ⟨rfl, hy⟩; have Y5 : Hid (Below W0.heap.size W0 y5) := btrH' Y4.out hy; obtain ⟨a0, a1, a2, a3, a4, b0, b1, b2, b3, b4⟩ := HQ.out y5 Y5.out; clear hy) | (go_at_call 54; refine (H4.out _ Y3.out).mono ?_; rintro e y4 ⟨rfl, hy⟩; have Y4 : Hid (Below W0.heap.size W0 y4) := btrH' Y3.out hy; obtain ⟨a0, a1, a2, a3, a4, b0, b1, b2, b3, b4⟩ := HQ.out y4 Y4.out; clear hy) | (go_at_call 53; refine (H3.out _ Y2.out).mono ?_; rintro e y3 ⟨rfl, hy⟩; have Y3 : Hid (Below W0.heap.size W0 y3) := btrH' Y2.out hy; obtain ⟨a0, a1, a2, a3, a4, b0, b1, b2, b3, b4⟩ := HQ.out y3 Y3.out; clear hy) | (go_at_call 53; refine (H2.out _ Y1.out).mono ?_; rintro e y2 ⟨rfl, hy⟩; have Y2 : Hid (Below W0.heap.size W0 y2) := btrH' Y1.out hy; obtain ⟨a0, a1, a2, a3, a4, b0, b1, b2, b3, b4⟩ := HQ.out y2 Y2.out; clear hy) | (go_at_call 53; refine (H1.out _ Y0.out).mono ?_; rintro e y1 ⟨rfl, hy⟩; have Y1 : Hid (Below W0.heap.size W0 y1) := btrH' Y0.out hy; obtain ⟨a0, a1, a2, a3, a4, b0, b1, b2, b3, b4⟩ := HQ.out y1 Y1.out; clear hy))
            go_ret
            exact ⟨rfl, HB0.out _ Y5.out⟩
          | true =>
            go_wp2_with (first | (go_at_call 54; refine (H5.out _ Y4.out).mono ?_; rintro e y5 ⟨rfl, hy⟩; have Y5 : Hid (Below W0.heap.size W0 y5) := btrH' Y4.out hy; obtain ⟨a0, a1, a2, a3, a4, b0, b1, b2, b3, b4⟩ := HQ.out y5 Y5.out; clear hy) | (go_at_call 54; refine (H4.out _ Y3.out).mono ?_; rintro e y4 ⟨rfl, hy⟩; have Y4 : Hid (Below W0.heap.size W0 y4) := btrH' Y3.out hy; obtain ⟨a0, a1, a2, a3, a4, b0, b1, b2, b3, b4⟩ := HQ.out y4 Y4.out; clear hy) | (go_at_call 53; refine (H3.out _ Y2.out).mono ?_; rintro e y3 ⟨rfl, hy⟩; have Y3 : Hid (Below W0.heap.size W0 y3) := btrH' Y2.out hy; obtain ⟨a0, a1, a2, a3, a4, b0, b1, b2, b3, b4⟩ := HQ.out y3 Y3.out; clear hy) | (go_at_call 53; refine (H2.out _ Y1.out).mono ?_; rintro e y2 ⟨rfl, hy⟩; have Y2 : Hid (Below W0.heap.size W0 y2) := btrH' Y1.out hy; obtain ⟨a0, a1, a2, a3, a4, b0, b1, b2, b3, b4⟩ := HQ.out y2 Y2.out; clear hy) | (go_at_call 53; refine (H1.out _ Y0.out).mono ?_; rintro e y1 ⟨rfl, hy⟩; have Y1 : Hid (Below W0.heap.size W0 y1) := btrH' Y0.out hy; obtain ⟨a0, a1, a2, a3, a4, b0, b1, b2, b3, b4⟩ := HQ.out y1 Y1.out; clear hy))
            go_ret
            exact ⟨rfl, HB0.out _ Y5.out⟩
end Go.Proofs.YtodilocmfdeehaaGreatDoor.Hi
