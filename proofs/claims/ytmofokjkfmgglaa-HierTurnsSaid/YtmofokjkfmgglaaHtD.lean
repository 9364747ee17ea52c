/- HierTurns walked, at a hierarchy in form. -/
import Derived.Test.YtmofokjkfmgglaaHtC
import Derived.Test.YtmofokjkfmgglaaHrV
namespace Go.Proofs.Ytmofokjkfmgglaa.Hi
open Go.RowKit Go.Extern Go.Sort Go.Shelf

attribute [local go_sem] Oper.semAt_some

set_option maxRecDepth 100000 in
set_option maxHeartbeats 8000000 in
theorem turns_good (v : HV) (h : Hr) (w : World) (hH : HasH w v h) (hc : chk h = (0, [])) (hg : greatB h = false) :
    Calls Try.prog 4 #[hvl v h] w fun e w' => e = .returned (.bool true) ∧ Below w.heap.size w w' := by
  obtain ⟨k1, k2, k3, k4, k5, k6, k7, k8⟩ := chk_ok hc
  have hC : (stds h).length = h.up.length + h.dn.length := stds_len k5 k6
  have hg2 : h.up.length + h.dn.length ≤ 2000 := by
    unfold greatB at hg
    simp at hg
    omega
  have hct := turn_chk hc
  have htt := turn_twice hc
  have hgt := graph_turn hc
  have hgr := graph_right hc (by omega)
  have hsdt := fun i hi => other_sd hc (i := i) hi
  have e1 : (turnH h).node = h.node := rfl
  have e2 : (turnH h).up.length = h.dn.length := by simp [turnH]
  have e3 : (turnH h).dn.length = h.up.length := by simp [turnH]
  have e4 : (stds (turnH h)).length = h.up.length + h.dn.length := stds_len_turn k5 k6
  obtain ⟨t, ht⟩ : ∃ t, turnH h = t := ⟨_, rfl⟩
  have HTO : Hid (∀ u wx, HasH wx u h → Calls Try.prog 12 #[hvl u h] wx fun e w' => ∃ u', e = .returned (.tuple #[hvl u' t, .nilIface]) ∧ HasH w' u' t ∧ Below wx.heap.size wx w') := fun u wx hx => (turn_ok hx hc).mono (by rintro e w' ⟨u', rfl, a, _, c⟩; rw [ht] at a ⊢; exact ⟨u', rfl, a, c⟩)
  rw [ht] at hct htt hgt e1 e2 e3 e4
  have HTB : Hid (∀ u wx, HasH wx u t → Calls Try.prog 12 #[hvl u t] wx fun e w' => ∃ u', e = .returned (.tuple #[hvl u' h, .nilIface]) ∧ HasH w' u' h ∧ Below wx.heap.size wx w') := fun u wx hx => (turn_ok hx hct).mono (by rintro e w' ⟨u', rfl, a, _, c⟩; rw [htt] at a ⊢; exact ⟨u', rfl, a, c⟩)
  have HSD : Hid (∀ i, i < h.up.length + h.dn.length → (sd (stds t) (other h i)).tail = (sd (stds h) i).head ∧ (sd (stds t) (other h i)).head = (sd (stds h) i).tail ∧ (linkAt t (other h i)).wt = (linkAt h i).wt) := fun i hi => by
    have g := hsdt i hi
    rw [ht] at g
    refine ⟨by rw [g, flip_tail], by rw [g, flip_head], ?_⟩
    have a := (link_ok hct (i := other h i) (by rw [e4]; exact other_lt hi)).lk
    have b := (link_ok hc (i := i) (by rw [hC]; exact hi)).lk
    rw [a, b, g]
    simp [flipS, turnL_wt]
  have HGR2 : Hid (sortE (gArcs t (stds t)) = normA ((sortE (gArcs h (stds h))).map turn) ∧ graphErr (h.node.length : Int) (sortE (gArcs h (stds h))) = (0, [])) := ⟨hgt, hgr⟩
  have HCC : Hid (chk h = (0, []) ∧ chk t = (0, []) ∧ (stds h).length = h.up.length + h.dn.length ∧ (stds t).length = h.up.length + h.dn.length) := ⟨hc, hct, hC, e4⟩
  have HET : Hid (t.node = h.node ∧ t.up.length = h.dn.length ∧ t.dn.length = h.up.length) := ⟨e1, e2, e3⟩
  obtain ⟨z, hz⟩ : ∃ z, w.heap.size = z := ⟨_, rfl⟩
  obtain ⟨W0, hW0⟩ : ∃ W0, w.alloc (.cells (cellsH v h) 25) = W0 := ⟨_, rfl⟩
  have h0 : ∀ wx, Below W0.heap.size W0 wx → wx.heap[z]? = some (.cells (cellsH v h) 25) ∧ HasH wx v h ∧ Below w.heap.size w wx := fun wx hx => by
    have h1 : W0.heap[z]? = some (.cells (cellsH v h) 25) := by rw [← hW0, ← hz]; exact heap_newW _ _
    have h2 : Below w.heap.size w W0 := by rw [← hW0]; exact (Below.refl _ _).alloc (Nat.le_refl _) _
    have h3 := h2.trans (hx.mono h2.size)
    exact ⟨(hx.block _ (some_lt h1)).trans h1, hH.keep h3, h3⟩
  have HW0 : Hid (w.alloc (.cells (cellsH v h) 25) = W0) := hW0
  have H0 : Hid (type_of% h0) := h0
  have HGR : Hid (∀ wx, Below W0.heap.size W0 wx → Calls Try.prog 11 #[hvl v h] wx fun e w' => e = .returned (.bool false) ∧ Below wx.heap.size wx w') := fun wx _ => hg ▸ great_calls v h wx (by omega) (by omega)
  have HCK : Hid (∀ wx, Below W0.heap.size W0 wx → Calls Try.prog 13 #[hvl v h] wx fun e w' => e = .returned .nilIface ∧ Below wx.heap.size wx w') := fun wx hx => check_ok (h0 wx hx).2.1 hc
  have HCT : Hid (∀ wx, Calls Try.prog 15 #[hvl v h] wx fun e w' => e = .returned (.int .i64 ((h.up.length + h.dn.length : Nat) : Int)) ∧ Below wx.heap.size wx w') := fun wx => (count_calls v h wx (by omega) (by omega)).mono (by rintro e w' ⟨rfl, rfl⟩; exact ⟨rfl, (Below.refl _ _).alloc (Nat.le_refl _) _⟩)
  have HSH : Hid (Short h) := (Reach.short ⟨by omega, by omega, by omega, by omega, by omega⟩)
  have HLEN : Hid (h.node.length ≤ 65536 ∧ h.up.length + h.dn.length ≤ 2000) := ⟨k1, hg2⟩
  clear hW0 h0 hc hC hg hg2 k1 k2 k3 k4 k5 k6 k7 k8 hH hct htt hgt hgr hsdt e1 e2 e3 e4 ht
  have HF5 : Hid (∀ wx, Below W0.heap.size W0 wx → wx.cell? ⟨z, 0, none⟩ = some (.slice v.no h.node.length v.nc) ∧ wx.cell? ⟨z, 1, none⟩ = some (.slice v.uo h.upF.length v.uc) ∧ wx.cell? ⟨z, 2, none⟩ = some (.slice v.ul h.up.length v.ulc) ∧ wx.cell? ⟨z, 3, none⟩ = some (.slice v.wo h.dnF.length v.wc) ∧ wx.cell? ⟨z, 4, none⟩ = some (.slice v.dl h.dn.length v.dlc)) := fun wx hx => five_cells (H0.out wx hx).1
  unfold cellsH at HW0
  unfold hvl at HTO HTB HGR HCK HCT ⊢
  go_enter Try.func4, Try.ntmps4
  go_wp2_with fail
  rw [HW0.out]
  refine (awake10_calls W0).mono ?_
  rintro e w1 ⟨rfl, hb1⟩
  have HB1 : Hid (Below W0.heap.size W0 w1) := hb1
  obtain ⟨c0, c1, c2, c3, c4⟩ := HF5.out w1 hb1
  clear hb1
  go_wp2_with fail
  refine (HGR.out w1 HB1.out).mono ?_
  rintro e w2 ⟨rfl, hb2⟩
  have HB2 : Hid (Below W0.heap.size W0 w2) := btrH HB1.out hb2
  clear hb2 c0 c1 c2 c3 c4
  obtain ⟨c0, c1, c2, c3, c4⟩ := HF5.out w2 HB2.out
  go_wp2_with fail
  refine (HTO.out v w2 (H0.out w2 HB2.out).2.1).mono ?_
  rintro e w3 ⟨u, rfl, hU, hb3⟩
  have HU : Hid (HasH w3 u t) := hU
  have HB3 : Hid (Below W0.heap.size W0 w3) := btrH HB2.out hb3
  clear hb3 hU c0 c1 c2 c3 c4
  go_upto_region 6 with fail
  obtain ⟨y, hy⟩ : ∃ y, w3.heap.size = y := ⟨_, rfl⟩
  obtain ⟨W4, hW4⟩ : ∃ W4, w3.alloc (.cells #[.slice u.no t.node.length u.nc, .slice u.uo t.upF.length u.uc, .slice u.ul t.up.length u.ulc, .slice u.wo t.dnF.length u.wc, .slice u.dl t.dn.length u.dlc] 25) = W4 := ⟨_, rfl⟩
  have H4 : Hid (∀ wx, Below W4.heap.size W4 wx → (wx.cell? ⟨y, 0, none⟩ = some (.slice u.no t.node.length u.nc) ∧ wx.cell? ⟨y, 1, none⟩ = some (.slice u.uo t.upF.length u.uc) ∧ wx.cell? ⟨y, 2, none⟩ = some (.slice u.ul t.up.length u.ulc) ∧ wx.cell? ⟨y, 3, none⟩ = some (.slice u.wo t.dnF.length u.wc) ∧ wx.cell? ⟨y, 4, none⟩ = some (.slice u.dl t.dn.length u.dlc)) ∧ HasH wx u t ∧ Below W0.heap.size W0 wx) := fun wx hx => by
    have g1 : W4.heap[y]? = some (.cells #[.slice u.no t.node.length u.nc, .slice u.uo t.upF.length u.uc, .slice u.ul t.up.length u.ulc, .slice u.wo t.dnF.length u.wc, .slice u.dl t.dn.length u.dlc] 25) := by rw [← hW4, ← hy]; exact heap_newW _ _
    have g2 : Below w3.heap.size w3 W4 := by rw [← hW4]; exact (Below.refl _ _).alloc (Nat.le_refl _) _
    have g3 : Below w3.heap.size w3 wx := btrH g2 hx
    exact ⟨five_cells ((hx.block _ (some_lt g1)).trans g1), HU.out.keep g3, btrH HB3.out g3⟩
  rw [hW4, hy]
  clear hy hW4 HU HB3
  have HB4 : Hid (Below W4.heap.size W4 W4) := Below.refl _ _
  obtain ⟨d0, d1, d2, d3, d4⟩ := (H4.out W4 HB4.out).1
  go_wp2_with fail
  refine (HTB.out u W4 (H4.out W4 HB4.out).2.1).mono ?_
  rintro e w5 ⟨u2, rfl, hU2, hb5⟩
  have HU2 : Hid (HasH w5 u2 h) := hU2
  have HB5 : Hid (Below W4.heap.size W4 w5) := hb5
  clear hb5 hU2 d0 d1 d2 d3 d4
  go_upto_region 9 with fail
  obtain ⟨x, hx⟩ : ∃ x, w5.heap.size = x := ⟨_, rfl⟩
  obtain ⟨W6, hW6⟩ : ∃ W6, w5.alloc (.cells #[.slice u2.no h.node.length u2.nc, .slice u2.uo h.upF.length u2.uc, .slice u2.ul h.up.length u2.ulc, .slice u2.wo h.dnF.length u2.wc, .slice u2.dl h.dn.length u2.dlc] 25) = W6 := ⟨_, rfl⟩
  have H6 : Hid (∀ wx, Below W6.heap.size W6 wx → (wx.cell? ⟨x, 0, none⟩ = some (.slice u2.no h.node.length u2.nc) ∧ wx.cell? ⟨x, 1, none⟩ = some (.slice u2.uo h.upF.length u2.uc) ∧ wx.cell? ⟨x, 2, none⟩ = some (.slice u2.ul h.up.length u2.ulc) ∧ wx.cell? ⟨x, 3, none⟩ = some (.slice u2.wo h.dnF.length u2.wc) ∧ wx.cell? ⟨x, 4, none⟩ = some (.slice u2.dl h.dn.length u2.dlc)) ∧ HasH wx u2 h ∧ Below W4.heap.size W4 wx) := fun wx hx' => by
    have g1 : W6.heap[x]? = some (.cells #[.slice u2.no h.node.length u2.nc, .slice u2.uo h.upF.length u2.uc, .slice u2.ul h.up.length u2.ulc, .slice u2.wo h.dnF.length u2.wc, .slice u2.dl h.dn.length u2.dlc] 25) := by rw [← hW6, ← hx]; exact heap_newW _ _
    have g2 : Below w5.heap.size w5 W6 := by rw [← hW6]; exact (Below.refl _ _).alloc (Nat.le_refl _) _
    have g3 : Below w5.heap.size w5 wx := btrH g2 hx'
    exact ⟨five_cells ((hx'.block _ (some_lt g1)).trans g1), HU2.out.keep g3, btrH HB5.out g3⟩
  rw [hW6, hx]
  clear hx hW6 HU2 HB5
  have HA6 : Hid (∀ wx, Below W6.heap.size W6 wx → ((wx.cell? ⟨z, 0, none⟩ = some (.slice v.no h.node.length v.nc) ∧ wx.cell? ⟨z, 1, none⟩ = some (.slice v.uo h.upF.length v.uc) ∧ wx.cell? ⟨z, 2, none⟩ = some (.slice v.ul h.up.length v.ulc) ∧ wx.cell? ⟨z, 3, none⟩ = some (.slice v.wo h.dnF.length v.wc) ∧ wx.cell? ⟨z, 4, none⟩ = some (.slice v.dl h.dn.length v.dlc)) ∧ (wx.cell? ⟨y, 0, none⟩ = some (.slice u.no t.node.length u.nc) ∧ wx.cell? ⟨y, 1, none⟩ = some (.slice u.uo t.upF.length u.uc) ∧ wx.cell? ⟨y, 2, none⟩ = some (.slice u.ul t.up.length u.ulc) ∧ wx.cell? ⟨y, 3, none⟩ = some (.slice u.wo t.dnF.length u.wc) ∧ wx.cell? ⟨y, 4, none⟩ = some (.slice u.dl t.dn.length u.dlc)) ∧ (wx.cell? ⟨x, 0, none⟩ = some (.slice u2.no h.node.length u2.nc) ∧ wx.cell? ⟨x, 1, none⟩ = some (.slice u2.uo h.upF.length u2.uc) ∧ wx.cell? ⟨x, 2, none⟩ = some (.slice u2.ul h.up.length u2.ulc) ∧ wx.cell? ⟨x, 3, none⟩ = some (.slice u2.wo h.dnF.length u2.wc) ∧ wx.cell? ⟨x, 4, none⟩ = some (.slice u2.dl h.dn.length u2.dlc))) ∧ HasH wx v h ∧ HasH wx u t ∧ HasH wx u2 h ∧ Below w.heap.size w wx ∧ Below W0.heap.size W0 wx) := fun wx hx' => by
    have g6 := H6.out wx hx'
    have g4 := H4.out wx g6.2.2
    exact ⟨⟨HF5.out wx g4.2.2, g4.1, g6.1⟩, (H0.out wx g4.2.2).2.1, g4.2.1, g6.2.1, (H0.out wx g4.2.2).2.2, g4.2.2⟩
  have HCT6 : Hid (∀ wx, Below W6.heap.size W6 wx → Calls Try.prog 13 #[.agg #[.slice u.no t.node.length u.nc, .slice u.uo t.upF.length u.uc, .slice u.ul t.up.length u.ulc, .slice u.wo t.dnF.length u.wc, .slice u.dl t.dn.length u.dlc]] wx fun e w' => e = .returned .nilIface ∧ Below wx.heap.size wx w') := fun wx hx' => check_ok (HA6.out wx hx').2.2.1 HCC.out.2.1
  have HSM6 : Hid (∀ wx, Below W6.heap.size W6 wx → Calls Try.prog 8 #[.agg #[.slice u2.no h.node.length u2.nc, .slice u2.uo h.upF.length u2.uc, .slice u2.ul h.up.length u2.ulc, .slice u2.wo h.dnF.length u2.wc, .slice u2.dl h.dn.length u2.dlc], .agg #[.slice v.no h.node.length v.nc, .slice v.uo h.upF.length v.uc, .slice v.ul h.up.length v.ulc, .slice v.wo h.dnF.length v.wc, .slice v.dl h.dn.length v.dlc]] wx fun e w' => e = .returned (.bool true) ∧ Below wx.heap.size wx w') := fun wx hx' => by
    have g := hSame_calls u2 v h h wx (HA6.out wx hx').2.2.2.1 (HA6.out wx hx').2.1 HSH.out
    rw [decide_eq_true rfl] at g
    exact g
  have HSW6 : Hid (∀ wx, Below W6.heap.size W6 wx → Calls Try.prog 14 #[.slice u.no t.node.length u.nc, .slice v.no h.node.length v.nc] wx fun e w' => e = .returned (.bool true) ∧ Below wx.heap.size wx w') := fun wx hx' => by
    have g := sameW_calls u.no v.no u.nc v.nc t.node h.node wx (HA6.out wx hx').2.2.1.node (HA6.out wx hx').2.1.node (by rw [HET.out.1]; have := HLEN.out.1; omega)
    rw [decide_eq_true HET.out.1] at g
    exact g
  have q1 : (t.up.length : Int) = (h.dn.length : Int) := by rw [HET.out.2.1]
  have q2 : (t.dn.length : Int) = (h.up.length : Int) := by rw [HET.out.2.2]
  have HB6 : Hid (Below W6.heap.size W6 W6) := Below.refl _ _
  obtain ⟨⟨c0, c1, c2, c3, c4⟩, ⟨d0, d1, d2, d3, d4⟩, e0, e1, e2, e3, e4⟩ := (HA6.out W6 HB6.out).1
  go_wp2_with (first
    | (go_at_call 14; refine (HSW6.out _ Y3.out).mono ?_; rintro e y4 ⟨rfl, hy⟩; have Y4 : Hid (Below W6.heap.size W6 y4) := btrH Y3.out hy; obtain ⟨⟨c0, c1, c2, c3, c4⟩, ⟨d0, d1, d2, d3, d4⟩, e0, e1, e2, e3, e4⟩ := (HA6.out y4 Y4.out).1; clear hy)
    | (go_at_call 8; refine (HSM6.out _ Y2.out).mono ?_; rintro e y3 ⟨rfl, hy⟩; have Y3 : Hid (Below W6.heap.size W6 y3) := btrH Y2.out hy; obtain ⟨⟨c0, c1, c2, c3, c4⟩, ⟨d0, d1, d2, d3, d4⟩, e0, e1, e2, e3, e4⟩ := (HA6.out y3 Y3.out).1; clear hy)
    | (go_at_call 13; have gg := Y1; clear gg; refine (HCT6.out _ Y1.out).mono ?_; rintro e y2 ⟨rfl, hy⟩; have Y2 : Hid (Below W6.heap.size W6 y2) := btrH Y1.out hy; obtain ⟨⟨c0, c1, c2, c3, c4⟩, ⟨d0, d1, d2, d3, d4⟩, e0, e1, e2, e3, e4⟩ := (HA6.out y2 Y2.out).1; clear hy)
    | (go_at_call 13; refine (HCK.out _ (HA6.out _ HB6.out).2.2.2.2.2).mono ?_; rintro e y1 ⟨rfl, hy⟩; have Y1 : Hid (Below W6.heap.size W6 y1) := btrH HB6.out hy; obtain ⟨⟨c0, c1, c2, c3, c4⟩, ⟨d0, d1, d2, d3, d4⟩, e0, e1, e2, e3, e4⟩ := (HA6.out y1 Y1.out).1; clear hy)
    | fail)
  refine (HCT.out y4).mono ?_
  rintro e w7 ⟨rfl, hb7⟩
  have HB7 : Hid (Below W6.heap.size W6 w7) := btrH Y4.out hb7
  have HEN : Hid (∀ wx, Below W6.heap.size W6 wx → ∀ i, i < h.up.length + h.dn.length → Calls Try.prog 16 #[.agg #[.slice v.no h.node.length v.nc, .slice v.uo h.upF.length v.uc, .slice v.ul h.up.length v.ulc, .slice v.wo h.dnF.length v.wc, .slice v.dl h.dn.length v.dlc], .int .i64 (i : Int)] wx fun e w' => e = .returned (.tuple #[.int .i64 ((sd (stds h) i).tail : Int), .int .i64 ((sd (stds h) i).head : Int), .nilIface]) ∧ Below wx.heap.size wx w') := fun wx hx i hi => ends_ok (HA6.out wx hx).2.1 HCC.out.1 (by rw [HCC.out.2.2.1]; exact hi)
  have HET2 : Hid (∀ wx, Below W6.heap.size W6 wx → ∀ i, i < h.up.length + h.dn.length → Calls Try.prog 16 #[.agg #[.slice u.no t.node.length u.nc, .slice u.uo t.upF.length u.uc, .slice u.ul t.up.length u.ulc, .slice u.wo t.dnF.length u.wc, .slice u.dl t.dn.length u.dlc], .int .i64 ((other h i : Nat) : Int)] wx fun e w' => e = .returned (.tuple #[.int .i64 ((sd (stds h) i).head : Int), .int .i64 ((sd (stds h) i).tail : Int), .nilIface]) ∧ Below wx.heap.size wx w') := fun wx hx i hi => by
    have g := ends_ok (HA6.out wx hx).2.2.1 HCC.out.2.1 (i := other h i) (by rw [HCC.out.2.2.2]; exact other_lt hi)
    rw [(HSD.out i hi).1, (HSD.out i hi).2.1] at g
    exact g
  have HLK : Hid (∀ wx, Below W6.heap.size W6 wx → ∀ i, i < h.up.length + h.dn.length → Calls Try.prog 17 #[.agg #[.slice v.no h.node.length v.nc, .slice v.uo h.upF.length v.uc, .slice v.ul h.up.length v.ulc, .slice v.wo h.dnF.length v.wc, .slice v.dl h.dn.length v.dlc], .int .i64 (i : Int)] wx fun e w' => (∃ l : Lk, l.wt = (linkAt h i).wt ∧ e = .returned (.agg #[.int .u32 (l.hd : Int), .int .u64 (l.wt : Int), .int .u32 (l.lf : Int), .int .u32 (l.rt : Int)])) ∧ Below wx.heap.size wx w') := fun wx hx i hi => (link_calls v h i wx (HA6.out wx hx).2.1 (by have := HLEN.out.2; omega) hi).mono (by rintro e w' ⟨rfl, hb⟩; exact ⟨⟨linkAt h i, rfl, rfl⟩, hb⟩)
  have HLT : Hid (∀ wx, Below W6.heap.size W6 wx → ∀ i, i < h.up.length + h.dn.length → Calls Try.prog 17 #[.agg #[.slice u.no t.node.length u.nc, .slice u.uo t.upF.length u.uc, .slice u.ul t.up.length u.ulc, .slice u.wo t.dnF.length u.wc, .slice u.dl t.dn.length u.dlc], .int .i64 ((other h i : Nat) : Int)] wx fun e w' => (∃ l : Lk, l.wt = (linkAt h i).wt ∧ e = .returned (.agg #[.int .u32 (l.hd : Int), .int .u64 (l.wt : Int), .int .u32 (l.lf : Int), .int .u32 (l.rt : Int)])) ∧ Below wx.heap.size wx w') := fun wx hx i hi => (link_calls u t (other h i) wx (HA6.out wx hx).2.2.1 (by have := HLEN.out.2; rw [HET.out.2.2]; omega) (by rw [HET.out.2.1, HET.out.2.2, Nat.add_comm]; exact other_lt hi)).mono (by rintro e w' ⟨rfl, hb⟩; exact ⟨⟨linkAt t (other h i), (HSD.out i hi).2.2, rfl⟩, hb⟩)
  have HFW : Hid (∀ a b c d : Int, ∀ wx, (Instr.field 42 (.agg #[.int .u32 a, .int .u64 b, .int .u32 c, .int .u32 d]) 1).run Try.prog wx = .ok (.int .u64 b) wx) := field_wt
  have hup : h.up.length ≤ 2000 := by have := HLEN.out.2; omega
  have hdn : h.dn.length ≤ 2000 := by have := HLEN.out.2; omega
  clear hb7 c0 c1 c2 c3 c4 d0 d1 d2 d3 d4 e0 e1 e2 e3 e4 q1 q2 Y1 Y2 Y3 Y4
  generalize hCC : h.up.length + h.dn.length = C at *
  have hCB : C ≤ 2000 := HLEN.out.2
  go_wp2_with fail
  go_loopw [98] (fun iv wr => ∃ k : Nat, k ≤ C ∧ iv = .int .i64 k ∧ Hid (Below W6.heap.size W6 wr)) (fun iv _ => C - (intOf iv).toNat)
  case atStart => exact ⟨0, Nat.zero_le _, rfl, HB7.out⟩
  case round =>
    obtain ⟨k, hk, rfl, HB⟩ := hrel
    rcases Nat.lt_or_eq_of_le hk with h1 | h1
    · have hE := HEN.out
      have q6 : decide ((k : Int) < (C : Int)) = true := by simp; omega
      have i1 : IntKind.i64.wrap ((k : Int) + (h.dn.length : Int)) = ((k + h.dn.length : Nat) : Int) := by rw [IntKind.wrap_i64]; omega
      obtain ⟨⟨c0, c1, c2, c3, c4⟩, ⟨d0, d1, d2, d3, d4⟩, e0, e1, e2, e3, e4⟩ := (HA6.out wr HB.out).1
      clear hE
      by_cases hup2 : h.up.length ≤ k
      · have i2 : decide ((h.up.length : Int) ≤ (k : Int)) = true := by simp; omega
        have i3 : IntKind.i64.wrap ((k : Int) - (h.up.length : Int)) = ((k - h.up.length : Nat) : Int) := by rw [IntKind.wrap_i64]; omega
        have ho : k - h.up.length = other h k := by unfold other; rw [if_pos hup2]
        rw [ho] at i3
        clear ho
        go_wp2_with fail
        refine (HEN.out wr HB.out k h1).mono ?_
        rintro e w8 ⟨rfl, hb8⟩
        have HB8 : Hid (Below W6.heap.size W6 w8) := btrH HB.out hb8
        clear hb8 c0 c1 c2 c3 c4 d0 d1 d2 d3 d4 e0 e1 e2 e3 e4
        obtain ⟨⟨c0, c1, c2, c3, c4⟩, ⟨d0, d1, d2, d3, d4⟩, e0, e1, e2, e3, e4⟩ := (HA6.out w8 HB8.out).1
        go_wp2_with fail
        refine (HET2.out w8 HB8.out k h1).mono ?_
        rintro e w9 ⟨rfl, hb9⟩
        have HB9 : Hid (Below W6.heap.size W6 w9) := btrH HB8.out hb9
        clear hb9 c0 c1 c2 c3 c4 d0 d1 d2 d3 d4 e0 e1 e2 e3 e4
        obtain ⟨⟨c0, c1, c2, c3, c4⟩, ⟨d0, d1, d2, d3, d4⟩, e0, e1, e2, e3, e4⟩ := (HA6.out w9 HB9.out).1
        generalize (sd (stds h) k).tail = ta
        generalize (sd (stds h) k).head = he
        obtain ⟨wt, hwt⟩ : ∃ wt, (linkAt h k).wt = wt := ⟨_, rfl⟩
        have HL1 := HLK.out
        have HL2 := HLT.out
        have HL1' : Hid (∀ wx, Below W6.heap.size W6 wx → Calls Try.prog 17 #[.agg #[.slice v.no h.node.length v.nc, .slice v.uo h.upF.length v.uc, .slice v.ul h.up.length v.ulc, .slice v.wo h.dnF.length v.wc, .slice v.dl h.dn.length v.dlc], .int .i64 (k : Int)] wx fun e w' => (∃ l : Lk, l.wt = wt ∧ e = .returned (.agg #[.int .u32 (l.hd : Int), .int .u64 (l.wt : Int), .int .u32 (l.lf : Int), .int .u32 (l.rt : Int)])) ∧ Below wx.heap.size wx w') := fun wx hx => by rw [← hwt]; exact HLK.out wx hx k h1
        have HL2' : Hid (∀ wx, Below W6.heap.size W6 wx → Calls Try.prog 17 #[.agg #[.slice u.no t.node.length u.nc, .slice u.uo t.upF.length u.uc, .slice u.ul t.up.length u.ulc, .slice u.wo t.dnF.length u.wc, .slice u.dl t.dn.length u.dlc], .int .i64 ((other h k : Nat) : Int)] wx fun e w' => (∃ l : Lk, l.wt = wt ∧ e = .returned (.agg #[.int .u32 (l.hd : Int), .int .u64 (l.wt : Int), .int .u32 (l.lf : Int), .int .u32 (l.rt : Int)])) ∧ Below wx.heap.size wx w') := fun wx hx => by rw [← hwt]; exact HLT.out wx hx k h1
        clear HL1 HL2 hwt
        have xf := field_wt
        go_wp2_with fail
        go_region_held3 (fun w' => (w'.cell? ⟨z, 0, none⟩ = some (.slice v.no h.node.length v.nc) ∧ w'.cell? ⟨z, 1, none⟩ = some (.slice v.uo h.upF.length v.uc) ∧ w'.cell? ⟨z, 2, none⟩ = some (.slice v.ul h.up.length v.ulc) ∧ w'.cell? ⟨z, 3, none⟩ = some (.slice v.wo h.dnF.length v.wc) ∧ w'.cell? ⟨z, 4, none⟩ = some (.slice v.dl h.dn.length v.dlc)) ∧ w'.cell? ⟨y, 0, none⟩ = some (.slice u.no t.node.length u.nc) ∧ w'.cell? ⟨y, 1, none⟩ = some (.slice u.uo t.upF.length u.uc) ∧ w'.cell? ⟨y, 2, none⟩ = some (.slice u.ul t.up.length u.ulc) ∧ w'.cell? ⟨y, 3, none⟩ = some (.slice u.wo t.dnF.length u.wc) ∧ w'.cell? ⟨y, 4, none⟩ = some (.slice u.dl t.dn.length u.dlc)) (go_keep) (first
          | (go_at_call 17; have gg := V1; clear gg; refine (HL2'.out _ V1.out).mono ?_; rintro e v2 ⟨⟨l2, hl2, rfl⟩, hy⟩; have V2 : Hid (Below W6.heap.size W6 v2) := btrH V1.out hy; obtain ⟨⟨c0, c1, c2, c3, c4⟩, ⟨d0, d1, d2, d3, d4⟩, e0, e1, e2, e3, e4⟩ := (HA6.out v2 V2.out).1; rw [hl2]; clear hy hl2)
          | (go_at_call 17; refine (HL1'.out _ HB9.out.drew).mono ?_; rintro e v1 ⟨⟨l1, hl1, rfl⟩, hy⟩; have V1 : Hid (Below W6.heap.size W6 v1) := btrH HB9.out.drew hy; obtain ⟨⟨c0, c1, c2, c3, c4⟩, ⟨d0, d1, d2, d3, d4⟩, e0, e1, e2, e3, e4⟩ := (HA6.out v1 V1.out).1; rw [hl1]; clear hy hl1))
        clear c0 c1 c2 c3 c4 d0 d1 d2 d3 d4 e0 e1 e2 e3 e4
        go_wp2
        go_roundw
        case rel => exact ⟨k + 1, by omega, by go_num, V2.out⟩
        case measure => simp [intOf]; omega
      · have i2 : decide ((h.up.length : Int) ≤ (k : Int)) = false := by simp; omega
        have ho : k + h.dn.length = other h k := by unfold other; rw [if_neg hup2]
        rw [ho] at i1
        clear ho
        go_wp2_with fail
        refine (HEN.out wr HB.out k h1).mono ?_
        rintro e w8 ⟨rfl, hb8⟩
        have HB8 : Hid (Below W6.heap.size W6 w8) := btrH HB.out hb8
        clear hb8 c0 c1 c2 c3 c4 d0 d1 d2 d3 d4 e0 e1 e2 e3 e4
        obtain ⟨⟨c0, c1, c2, c3, c4⟩, ⟨d0, d1, d2, d3, d4⟩, e0, e1, e2, e3, e4⟩ := (HA6.out w8 HB8.out).1
        go_wp2_with fail
        refine (HET2.out w8 HB8.out k h1).mono ?_
        rintro e w9 ⟨rfl, hb9⟩
        have HB9 : Hid (Below W6.heap.size W6 w9) := btrH HB8.out hb9
        clear hb9 c0 c1 c2 c3 c4 d0 d1 d2 d3 d4 e0 e1 e2 e3 e4
        obtain ⟨⟨c0, c1, c2, c3, c4⟩, ⟨d0, d1, d2, d3, d4⟩, e0, e1, e2, e3, e4⟩ := (HA6.out w9 HB9.out).1
        generalize (sd (stds h) k).tail = ta
        generalize (sd (stds h) k).head = he
        obtain ⟨wt, hwt⟩ : ∃ wt, (linkAt h k).wt = wt := ⟨_, rfl⟩
        have HL1 := HLK.out
        have HL2 := HLT.out
        have HL1' : Hid (∀ wx, Below W6.heap.size W6 wx → Calls Try.prog 17 #[.agg #[.slice v.no h.node.length v.nc, .slice v.uo h.upF.length v.uc, .slice v.ul h.up.length v.ulc, .slice v.wo h.dnF.length v.wc, .slice v.dl h.dn.length v.dlc], .int .i64 (k : Int)] wx fun e w' => (∃ l : Lk, l.wt = wt ∧ e = .returned (.agg #[.int .u32 (l.hd : Int), .int .u64 (l.wt : Int), .int .u32 (l.lf : Int), .int .u32 (l.rt : Int)])) ∧ Below wx.heap.size wx w') := fun wx hx => by rw [← hwt]; exact HLK.out wx hx k h1
        have HL2' : Hid (∀ wx, Below W6.heap.size W6 wx → Calls Try.prog 17 #[.agg #[.slice u.no t.node.length u.nc, .slice u.uo t.upF.length u.uc, .slice u.ul t.up.length u.ulc, .slice u.wo t.dnF.length u.wc, .slice u.dl t.dn.length u.dlc], .int .i64 ((other h k : Nat) : Int)] wx fun e w' => (∃ l : Lk, l.wt = wt ∧ e = .returned (.agg #[.int .u32 (l.hd : Int), .int .u64 (l.wt : Int), .int .u32 (l.lf : Int), .int .u32 (l.rt : Int)])) ∧ Below wx.heap.size wx w') := fun wx hx => by rw [← hwt]; exact HLT.out wx hx k h1
        clear HL1 HL2 hwt
        have xf := field_wt
        go_wp2_with fail
        go_region_held3 (fun w' => (w'.cell? ⟨z, 0, none⟩ = some (.slice v.no h.node.length v.nc) ∧ w'.cell? ⟨z, 1, none⟩ = some (.slice v.uo h.upF.length v.uc) ∧ w'.cell? ⟨z, 2, none⟩ = some (.slice v.ul h.up.length v.ulc) ∧ w'.cell? ⟨z, 3, none⟩ = some (.slice v.wo h.dnF.length v.wc) ∧ w'.cell? ⟨z, 4, none⟩ = some (.slice v.dl h.dn.length v.dlc)) ∧ w'.cell? ⟨y, 0, none⟩ = some (.slice u.no t.node.length u.nc) ∧ w'.cell? ⟨y, 1, none⟩ = some (.slice u.uo t.upF.length u.uc) ∧ w'.cell? ⟨y, 2, none⟩ = some (.slice u.ul t.up.length u.ulc) ∧ w'.cell? ⟨y, 3, none⟩ = some (.slice u.wo t.dnF.length u.wc) ∧ w'.cell? ⟨y, 4, none⟩ = some (.slice u.dl t.dn.length u.dlc)) (go_keep) (first
          | (go_at_call 17; have gg := V1; clear gg; refine (HL2'.out _ V1.out).mono ?_; rintro e v2 ⟨⟨l2, hl2, rfl⟩, hy⟩; have V2 : Hid (Below W6.heap.size W6 v2) := btrH V1.out hy; obtain ⟨⟨c0, c1, c2, c3, c4⟩, ⟨d0, d1, d2, d3, d4⟩, e0, e1, e2, e3, e4⟩ := (HA6.out v2 V2.out).1; rw [hl2]; clear hy hl2)
          | (go_at_call 17; refine (HL1'.out _ HB9.out.drew).mono ?_; rintro e v1 ⟨⟨l1, hl1, rfl⟩, hy⟩; have V1 : Hid (Below W6.heap.size W6 v1) := btrH HB9.out.drew hy; obtain ⟨⟨c0, c1, c2, c3, c4⟩, ⟨d0, d1, d2, d3, d4⟩, e0, e1, e2, e3, e4⟩ := (HA6.out v1 V1.out).1; rw [hl1]; clear hy hl1))
        clear c0 c1 c2 c3 c4 d0 d1 d2 d3 d4 e0 e1 e2 e3 e4
        go_wp2
        go_roundw
        case rel => exact ⟨k + 1, by omega, by go_num, V2.out⟩
        case measure => simp [intOf]; omega
    · subst h1
      obtain ⟨A, hA⟩ : ∃ A, sortE (gArcs h (stds h)) = A := ⟨_, rfl⟩
      obtain ⟨n, hn⟩ : ∃ n, h.node.length = n := ⟨_, rfl⟩
      have HGH : Hid (∀ wx, Below W6.heap.size W6 wx → Calls Try.prog 18 #[.agg #[.slice v.no h.node.length v.nc, .slice v.uo h.upF.length v.uc, .slice v.ul h.up.length v.ulc, .slice v.wo h.dnF.length v.wc, .slice v.dl h.dn.length v.dlc]] wx fun e w' => ∃ lo k c, e = .returned (.tuple #[.agg #[.int .i64 (n : Int), .slice lo k c], .nilIface]) ∧ HasArcs w' (.slice lo k c) A ∧ Below wx.heap.size wx w') := fun wx hx => (graph_ok (HA6.out wx hx).2.1 HCC.out.1).mono (by rintro e w' ⟨lo, k, c, rfl, a, b⟩; rw [hA] at a; rw [hn]; exact ⟨lo, k, c, rfl, a, b⟩)
      have HGT : Hid (∀ wx, Below W6.heap.size W6 wx → Calls Try.prog 18 #[.agg #[.slice u.no t.node.length u.nc, .slice u.uo t.upF.length u.uc, .slice u.ul t.up.length u.ulc, .slice u.wo t.dnF.length u.wc, .slice u.dl t.dn.length u.dlc]] wx fun e w' => ∃ lo k c, e = .returned (.tuple #[.agg #[.int .i64 (n : Int), .slice lo k c], .nilIface]) ∧ HasArcs w' (.slice lo k c) (normA (A.map turn)) ∧ Below wx.heap.size wx w') := fun wx hx => (graph_ok (HA6.out wx hx).2.2.1 HCC.out.2.1).mono (by rintro e w' ⟨lo, k, c, rfl, a, b⟩; rw [HGR2.out.1, hA] at a; rw [HET.out.1, hn]; exact ⟨lo, k, c, rfl, a, b⟩)
      have HGE : Hid (graphErr (n : Int) A = (0, [])) := by have g := HGR2.out.2; rw [hA, hn] at g; exact g
      obtain ⟨⟨c0, c1, c2, c3, c4⟩, ⟨d0, d1, d2, d3, d4⟩, e0, e1, e2, e3, e4⟩ := (HA6.out wr HB.out).1
      clear hA hn
      go_wp2_with fail
      refine (HGH.out wr HB.out).mono ?_
      rintro e w8 ⟨lo, kk, cc, rfl, hA8, hb8⟩
      have HA8 : Hid (HasArcs w8 (.slice lo kk cc) A) := hA8
      have HB8 : Hid (Below W6.heap.size W6 w8) := btrH HB.out hb8
      clear hA8 hb8 c0 c1 c2 c3 c4 d0 d1 d2 d3 d4 e0 e1 e2 e3 e4
      go_upto_region 23 with fail
      obtain ⟨g, hg⟩ : ∃ g, w8.heap.size = g := ⟨_, rfl⟩
      obtain ⟨W8, hW8⟩ : ∃ W8, w8.alloc (.cells #[.int .i64 (n : Int), .slice lo kk cc] 46) = W8 := ⟨_, rfl⟩
      have HG8 : Hid (∀ wx, Below W8.heap.size W8 wx → wx.heap[g]? = some (.cells #[.int .i64 (n : Int), .slice lo kk cc] 46) ∧ HasArcs wx (.slice lo kk cc) A ∧ Below W6.heap.size W6 wx) := fun wx hx => by
        have g1 : W8.heap[g]? = some (.cells #[.int .i64 (n : Int), .slice lo kk cc] 46) := by rw [← hW8, ← hg]; exact heap_newW _ _
        have g2 : Below w8.heap.size w8 W8 := by rw [← hW8]; exact (Below.refl _ _).alloc (Nat.le_refl _) _
        have g3 : Below w8.heap.size w8 wx := btrH g2 hx
        exact ⟨(hx.block _ (some_lt g1)).trans g1, HA8.out.keep g3, btrH HB8.out g3⟩
      have hgi : Hid (w.heap.size ≤ g) := by show w.heap.size ≤ g; rw [← hg]; exact (HA6.out w8 HB8.out).2.2.2.2.1.size
      rw [hW8, hg]
      clear hg hW8 HA8 HB8
      have HB8 : Hid (Below W8.heap.size W8 W8) := Below.refl _ _
      obtain ⟨⟨c0, c1, c2, c3, c4⟩, ⟨d0, d1, d2, d3, d4⟩, e0, e1, e2, e3, e4⟩ := (HA6.out W8 (HG8.out W8 HB8.out).2.2).1
      go_wp2_with fail
      refine (HGT.out W8 (HG8.out W8 HB8.out).2.2).mono ?_
      rintro e w9 ⟨lp, kp, cp, rfl, hA9, hb9⟩
      have HA9 : Hid (HasArcs w9 (.slice lp kp cp) (normA (A.map turn))) := hA9
      have HB9 : Hid (Below W8.heap.size W8 w9) := hb9
      clear hA9 hb9 c0 c1 c2 c3 c4 d0 d1 d2 d3 d4 e0 e1 e2 e3 e4
      go_upto_region 24 with fail
      obtain ⟨p, hp⟩ : ∃ p, w9.heap.size = p := ⟨_, rfl⟩
      obtain ⟨W9, hW9⟩ : ∃ W9, w9.alloc (.cells #[.int .i64 (n : Int), .slice lp kp cp] 46) = W9 := ⟨_, rfl⟩
      have HG9 : Hid (GP g p n lo kk cc lp kp cp A (normA (A.map turn)) w W9) := by
        have g1 : W9.heap[p]? = some (.cells #[.int .i64 (n : Int), .slice lp kp cp] 46) := by rw [← hW9, ← hp]; exact heap_newW _ _
        have g2 : Below w9.heap.size w9 W9 := by rw [← hW9]; exact (Below.refl _ _).alloc (Nat.le_refl _) _
        have g3 := HG8.out W9 (btrH HB9.out g2)
        exact ⟨g3.1, g1, g3.2.1, HA9.out.keep g2, (HA6.out _ g3.2.2).2.2.2.2.1, by have := some_lt (HG8.out w9 HB9.out).1; omega, hgi.out⟩
      rw [hW9, hp]
      clear hp hW9 HA9 HB9 HG8 HGH HGT HA6 HEN HET2 HLK HLT H4 H6 HTO HTB HCK HCT HCT6 HSM6 HSW6
      obtain ⟨⟨c0, c1⟩, f0, f1⟩ := two_cells HG9.out.bg
      go_wp2_with fail
      refine (rev_good HG9.out.ag HGE.out).mono ?_
      rintro e wa ⟨lq, kq, cq, rfl, hAa, hba⟩
      have HGa : Hid (GP g p n lo kk cc lp kp cp A (normA (A.map turn)) w wa) := HG9.out.keep hba
      have HGb : Hid (GP g p n lq kq cq lp kp cp (A.map turn) (normA (A.map turn)) w ((wa.setCell ⟨g, 0, none⟩ (.int .i64 (n : Int))).setCell ⟨g, 1, none⟩ (.slice lq kq cq))) := HGa.out.store hAa
      clear c0 c1 f0 f1 hAa hba
      obtain ⟨⟨c0, c1⟩, f0, f1⟩ := two_cells HGa.out.bg
      go_upto_region 25 with fail
      generalize (wa.setCell ⟨g, 0, none⟩ (.int .i64 (n : Int))).setCell ⟨g, 1, none⟩ (.slice lq kq cq) = Wb at HGb ⊢
      clear c0 c1 f0 f1 HGa
      obtain ⟨⟨c0, c1⟩, f0, f1⟩ := two_cells HGb.out.bg
      go_wp2_with fail
      refine (of_good HGb.out.ag (good_turn HGE.out)).mono ?_
      rintro e wc ⟨lr, kr, cr, rfl, hAc, hbc⟩
      have HGc : Hid (GP g p n lq kq cq lp kp cp (A.map turn) (normA (A.map turn)) w wc) := HGb.out.keep hbc
      have HGd : Hid (GP g p n lr kr cr lp kp cp (normA (A.map turn)) (normA (A.map turn)) w ((wc.setCell ⟨g, 0, none⟩ (.int .i64 (n : Int))).setCell ⟨g, 1, none⟩ (.slice lr kr cr))) := HGc.out.store hAc
      clear c0 c1 f0 f1 hAc hbc
      obtain ⟨⟨c0, c1⟩, f0, f1⟩ := two_cells HGc.out.bg
      go_upto_region 26 with fail
      generalize (wc.setCell ⟨g, 0, none⟩ (.int .i64 (n : Int))).setCell ⟨g, 1, none⟩ (.slice lr kr cr) = Wd at HGd ⊢
      clear c0 c1 f0 f1 HGc
      obtain ⟨⟨c0, c1⟩, f0, f1⟩ := two_cells HGd.out.bg
      obtain ⟨⟨d0, d1⟩, e0, e1⟩ := two_cells HGd.out.bp
      have HSA : Hid (Calls Try.prog 21 #[.agg #[.int .i64 (n : Int), .slice lr kr cr], .agg #[.int .i64 (n : Int), .slice lp kp cp]] Wd fun e w' => e = .returned (.bool true) ∧ Below Wd.heap.size Wd w') := by
        have a1 := HGd.out.ag
        have a2 := HGd.out.ap
        have l1 := arcs_len a1
        have l2 := arcs_len a2
        subst l1 l2
        refine gsame_yes (n : Int) lr lp cr cp _ Wd a1 a2 ?_
        have := normA_len (A.map turn)
        have hg2 := ((good_iff _ _).1 HGE.out).1
        rw [List.length_map] at this
        show _ ≤ maxLen
        unfold maxLen
        omega
      go_wp2_with fail
      refine HSA.out.mono ?_
      rintro e we ⟨rfl, hbe⟩
      have HBe : Hid (Below w.heap.size w we) := HGd.out.bel.trans (hbe.mono HGd.out.bel.size)
      clear hbe
      go_wp2
      go_ret
      exact ⟨rfl, HBe.out⟩
end Go.Proofs.Ytmofokjkfmgglaa.Hi
