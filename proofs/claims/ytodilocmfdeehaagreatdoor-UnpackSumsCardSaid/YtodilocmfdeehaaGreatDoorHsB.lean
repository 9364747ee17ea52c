/- the reference's Twin: a hierarchy's copy in new memory. -/
import Derived.Test.YtodilocmfdeehaaGreatDoorHsA
import Derived.Test.YtodilocmfdeehaaGreatDoorHrZ
import Derived.Deep.RegionHeld3
namespace Go.Proofs.YtodilocmfdeehaaGreatDoor.Hi
open Go.RowKit Go.Extern Go.Shelf

attribute [local go_sem] Oper.semAt_some

/-- no list takes more than memory's reach. -/
structure Reach (h : Hr) : Prop where
  node : h.node.length * 4 ≤ 140737488351232
  upF : h.upF.length * 4 ≤ 140737488351232
  up : h.up.length * 24 ≤ 140737488351232
  dnF : h.dnF.length * 4 ≤ 140737488351232
  dn : h.dn.length * 24 ≤ 140737488351232
theorem own_high {w : World} {B n m z mc : Nat} {T : TypeId} {mo : Option Addr} {xs : List Value} (h : w.ownsRow B T z (.slice mo n mc) m xs) : ∀ a, mo = some a → B ≤ a.block := by
  rcases h.2 with ⟨e, _⟩ | ⟨g, cap, cur, e, hg, _⟩
  · injection e with e1 _ _
    intro a ha
    rw [e1] at ha
    cases ha
  · injection e with e1 _ _
    intro a ha
    rw [e1] at ha
    cases ha
    exact hg
theorem ws_far {w w' : World} {ao : Option Addr} {n c : Nat} {L : List Nat} (h : HasWs w (.slice ao n c) L) (hs : w.heap.size ≤ w'.heap.size) (hb : ∀ a, ao = some a → w'.heap[a.block]? = w.heap[a.block]?) : HasWs w' (.slice ao n c) L := by
  obtain ⟨ao', cap, e, hc, hr⟩ := h
  injection e with e1 e2 e3
  subst e1
  refine ⟨ao, cap, by rw [e2, e3], hc, fun j a hj => ?_⟩
  obtain ⟨g, b, off, ea, hl, h0⟩ := hr j a hj
  have hh := hb _ ea
  have key : ∀ o, w'.cell? ⟨b, o, none⟩ = w.cell? ⟨b, o, none⟩ := fun o => World.cell?_of_block (w := w) (w' := w') (a := ⟨b, o, none⟩) hh
  exact ⟨g, b, off, ea, Nat.lt_of_lt_of_le hl hs, (key _).trans h0⟩
theorem ls_far {w w' : World} {ao : Option Addr} {n c : Nat} {L : List Lk} (h : HasLs w (.slice ao n c) L) (hs : w.heap.size ≤ w'.heap.size) (hb : ∀ a, ao = some a → w'.heap[a.block]? = w.heap[a.block]?) : HasLs w' (.slice ao n c) L := by
  obtain ⟨ao', cap, e, hc, hr⟩ := h
  injection e with e1 e2 e3
  subst e1
  refine ⟨ao, cap, by rw [e2, e3], hc, fun j a hj => ?_⟩
  obtain ⟨g, b, off, ea, hl, h0, h1, h2, h3⟩ := hr j a hj
  have hh := hb _ ea
  have key : ∀ o, w'.cell? ⟨b, o, none⟩ = w.cell? ⟨b, o, none⟩ := fun o => World.cell?_of_block (w := w) (w' := w') (a := ⟨b, o, none⟩) hh
  exact ⟨g, b, off, ea, Nat.lt_of_lt_of_le hl hs, (key _).trans h0, (key _).trans h1, (key _).trans h2, (key _).trans h3⟩
theorem five_far (W : World) (b : Nat) (x0 x1 x2 x3 x4 : Value) : (∀ k, k ≠ b → (((((W.setCell ⟨b, 0, none⟩ x0).setCell ⟨b, 1, none⟩ x1).setCell ⟨b, 2, none⟩ x2).setCell ⟨b, 3, none⟩ x3).setCell ⟨b, 4, none⟩ x4).heap[k]? = W.heap[k]?) ∧ (((((W.setCell ⟨b, 0, none⟩ x0).setCell ⟨b, 1, none⟩ x1).setCell ⟨b, 2, none⟩ x2).setCell ⟨b, 3, none⟩ x3).setCell ⟨b, 4, none⟩ x4).heap.size = W.heap.size := by
  refine ⟨fun k hk => ?_, by simp [World.setCell]⟩
  simp only [World.setCell, Array.getElem?_modify, if_neg (fun e => hk (Eq.symm e))]
theorem set_five {W : World} {b : Nat} {p q r s t : Value} {T : TypeId} (h : W.heap[b]? = some (.cells #[p, q, r, s, t] T)) (x0 x1 x2 x3 x4 : Value) : (((((W.setCell ⟨b, 0, none⟩ x0).setCell ⟨b, 1, none⟩ x1).setCell ⟨b, 2, none⟩ x2).setCell ⟨b, 3, none⟩ x3).setCell ⟨b, 4, none⟩ x4).heap[b]? = some (.cells #[x0, x1, x2, x3, x4] T) := by
  have hlt := some_lt h
  simp only [World.setCell, Array.getElem?_modify]
  simp [h]
theorem twin_res {W : World} {z : Nat} {x0 x1 x2 x3 x4 : Value} {tmps : Array Value} (h1 : W.heap[z]? = some (.cells #[x0, x1, x2, x3, x4] 25)) (t4 : tmps[2]?.getD undef = .pointer (some ⟨z, 0, none⟩)) :
    (results Tryz.f10 tmps).run Tryz.prog W = .ok (.agg #[x0, x1, x2, x3, x4]) W := by
  obtain ⟨c0, c1, c2, c3, c4⟩ := five_cells h1
  simp [results, Tryz.results10, go_sem, t4, c0, c1, c2, c3, c4]

set_option maxRecDepth 100000 in
set_option maxHeartbeats 4000000 in
theorem twin_calls (v : HV) (h : Hr) (w : World) (hH : HasH w v h) (hr : Reach h) :
    Calls Tryz.prog 10 #[hvl v h] w fun e w' => ∃ u, e = .returned (hvl u h) ∧ HasH w' u h ∧ Below w.heap.size w w' := by
  obtain ⟨z, hz⟩ : ∃ z, w.heap.size = z := ⟨_, rfl⟩
  obtain ⟨W0, hW0⟩ : ∃ W0, (w.alloc (.cells (cellsH v h) 25)).alloc (.cells #[.slice none 0 0, .slice none 0 0, .slice none 0 0, .slice none 0 0, .slice none 0 0] 25) = W0 := ⟨_, rfl⟩
  have hB0 : Below w.heap.size w W0 := by rw [← hW0]; exact ((Below.refl _ w).alloc (Nat.le_refl _) _).alloc (by simp) _
  have h0 : W0.heap[z]? = some (.cells (cellsH v h) 25) := by
    rw [← hW0, ← hz]; exact (Below.heap_alloc _ _ _ (by simp)).trans (heap_newW _ _)
  have h1 : W0.heap[z + 1]? = some (.cells #[.slice none 0 0, .slice none 0 0, .slice none 0 0, .slice none 0 0, .slice none 0 0] 25) := by
    have g := heap_newW (w.alloc (.cells (cellsH v h) 25)) (.cells #[.slice none 0 0, .slice none 0 0, .slice none 0 0, .slice none 0 0, .slice none 0 0] 25)
    rw [World.size_alloc, hW0, hz] at g
    exact g
  have HB0 : Hid (∀ wx, Below W0.heap.size W0 wx → Below w.heap.size w wx ∧ wx.heap[z + 1]? = some (.cells #[.slice none 0 0, .slice none 0 0, .slice none 0 0, .slice none 0 0, .slice none 0 0] 25)) := fun wx hx => ⟨hB0.trans (hx.mono hB0.size), (hx.block _ (some_lt h1)).trans h1⟩
  have HQ : Hid (∀ wx, Below W0.heap.size W0 wx → wx.cell? ⟨z, 0, none⟩ = some (.slice v.no h.node.length v.nc) ∧ wx.cell? ⟨z, 1, none⟩ = some (.slice v.uo h.upF.length v.uc) ∧ wx.cell? ⟨z, 2, none⟩ = some (.slice v.ul h.up.length v.ulc) ∧ wx.cell? ⟨z, 3, none⟩ = some (.slice v.wo h.dnF.length v.wc) ∧ wx.cell? ⟨z, 4, none⟩ = some (.slice v.dl h.dn.length v.dlc)) := fun wx hx => five_cells ((hx.block _ (some_lt h0)).trans h0)
  have HZ : Hid (∀ wx, Below W0.heap.size W0 wx → (∀ i, i < 5 → wx.cell? ⟨z + 1, i, none⟩ = some (.slice none 0 0)) ∧ ∀ i, wx.frozen? ⟨z + 1, i, none⟩ = false) := fun wx hx => by
    have g := (hx.block _ (some_lt h1)).trans h1
    refine ⟨fun i hi => ?_, fun i => by simp [World.frozen?, g]⟩
    rcases (show i = 0 ∨ i = 1 ∨ i = 2 ∨ i = 3 ∨ i = 4 by omega) with rfl | rfl | rfl | rfl | rfl <;> simp [World.cell?, g]
  have H1 : Hid (∀ wx, Below W0.heap.size W0 wx → Calls Tryz.prog 33 #[.slice v.no h.node.length v.nc] wx fun e w' => ∃ mo mc, e = .returned (.slice mo h.node.length mc) ∧ HasWs w' (.slice mo h.node.length mc) h.node ∧ (∀ a, mo = some a → W0.heap.size ≤ a.block) ∧ Below wx.heap.size wx w') := fun wx hx => (twords_calls _ _ _ wx (hH.node.keep (hB0.trans (hx.mono hB0.size))) hr.node).mono (by rintro e w' ⟨mo, mc, rfl, ho, hb⟩; exact ⟨mo, mc, rfl, ws_of_own ho hH.node.ok, fun a ea => Nat.le_trans hx.size (own_high ho a ea), hb⟩)
  have H2 : Hid (∀ wx, Below W0.heap.size W0 wx → Calls Tryz.prog 33 #[.slice v.uo h.upF.length v.uc] wx fun e w' => ∃ mo mc, e = .returned (.slice mo h.upF.length mc) ∧ HasWs w' (.slice mo h.upF.length mc) h.upF ∧ (∀ a, mo = some a → W0.heap.size ≤ a.block) ∧ Below wx.heap.size wx w') := fun wx hx => (twords_calls _ _ _ wx (hH.upF.keep (hB0.trans (hx.mono hB0.size))) hr.upF).mono (by rintro e w' ⟨mo, mc, rfl, ho, hb⟩; exact ⟨mo, mc, rfl, ws_of_own ho hH.upF.ok, fun a ea => Nat.le_trans hx.size (own_high ho a ea), hb⟩)
  have H3 : Hid (∀ wx, Below W0.heap.size W0 wx → Calls Tryz.prog 34 #[.slice v.ul h.up.length v.ulc] wx fun e w' => ∃ mo mc, e = .returned (.slice mo h.up.length mc) ∧ HasLs w' (.slice mo h.up.length mc) h.up ∧ (∀ a, mo = some a → W0.heap.size ≤ a.block) ∧ Below wx.heap.size wx w') := fun wx hx => (tlinks_calls _ _ _ wx (hH.up.keep (hB0.trans (hx.mono hB0.size))) hr.up).mono (by rintro e w' ⟨mo, mc, rfl, ho, hb⟩; exact ⟨mo, mc, rfl, ls_of_own ho hH.up.ok, fun a ea => Nat.le_trans hx.size (own_high ho a ea), hb⟩)
  have H4 : Hid (∀ wx, Below W0.heap.size W0 wx → Calls Tryz.prog 33 #[.slice v.wo h.dnF.length v.wc] wx fun e w' => ∃ mo mc, e = .returned (.slice mo h.dnF.length mc) ∧ HasWs w' (.slice mo h.dnF.length mc) h.dnF ∧ (∀ a, mo = some a → W0.heap.size ≤ a.block) ∧ Below wx.heap.size wx w') := fun wx hx => (twords_calls _ _ _ wx (hH.dnF.keep (hB0.trans (hx.mono hB0.size))) hr.dnF).mono (by rintro e w' ⟨mo, mc, rfl, ho, hb⟩; exact ⟨mo, mc, rfl, ws_of_own ho hH.dnF.ok, fun a ea => Nat.le_trans hx.size (own_high ho a ea), hb⟩)
  have H5 : Hid (∀ wx, Below W0.heap.size W0 wx → Calls Tryz.prog 34 #[.slice v.dl h.dn.length v.dlc] wx fun e w' => ∃ mo mc, e = .returned (.slice mo h.dn.length mc) ∧ HasLs w' (.slice mo h.dn.length mc) h.dn ∧ (∀ a, mo = some a → W0.heap.size ≤ a.block) ∧ Below wx.heap.size wx w') := fun wx hx => (tlinks_calls _ _ _ wx (hH.dn.keep (hB0.trans (hx.mono hB0.size))) hr.dn).mono (by rintro e w' ⟨mo, mc, rfl, ho, hb⟩; exact ⟨mo, mc, rfl, ls_of_own ho hH.dn.ok, fun a ea => Nat.le_trans hx.size (own_high ho a ea), hb⟩)
  have HW0 : Hid ((w.alloc (.cells (cellsH v h) 25)).alloc (.cells #[.slice none 0 0, .slice none 0 0, .slice none 0 0, .slice none 0 0, .slice none 0 0] 25) = W0) := hW0
  clear hW0 h0 h1 hB0 hH hr
  have Y0 : Hid (Below W0.heap.size W0 W0) := Below.refl _ _
  obtain ⟨a0, a1, a2, a3, a4⟩ := HQ.out W0 Y0.out
  have HZZ : Hid (w.heap.size = z) := hz
  unfold cellsH at HW0
  unfold hvl
  go_enter Tryz.func10, Tryz.ntmps10
  go_upto_region 1 with fail
  rw [HW0.out]
  go_region_held3 (fun w' => w'.cell? ⟨z, 0, none⟩ = some (.slice v.no h.node.length v.nc) ∧ w'.cell? ⟨z, 1, none⟩ = some (.slice v.uo h.upF.length v.uc) ∧ w'.cell? ⟨z, 2, none⟩ = some (.slice v.ul h.up.length v.ulc) ∧ w'.cell? ⟨z, 3, none⟩ = some (.slice v.wo h.dnF.length v.wc) ∧ w'.cell? ⟨z, 4, none⟩ = some (.slice v.dl h.dn.length v.dlc)) (go_keep) (first
    | (go_at_call 34; refine (H5.out _ Y4.out).mono ?_; rintro e y5 ⟨m5, c5, rfl, hh, hg, hy⟩; have G5 : Hid (∀ a, m5 = some a → W0.heap.size ≤ a.block) := hg; clear hg; have Y5 : Hid (Below W0.heap.size W0 y5) := btrH' Y4.out hy; have X5_1 : Hid (HasWs y5 (.slice m1 h.node.length c1) h.node) := X4_1.out.keep hy; have X5_2 : Hid (HasWs y5 (.slice m2 h.upF.length c2) h.upF) := X4_2.out.keep hy; have X5_3 : Hid (HasLs y5 (.slice m3 h.up.length c3) h.up) := X4_3.out.keep hy; have X5_4 : Hid (HasWs y5 (.slice m4 h.dnF.length c4) h.dnF) := X4_4.out.keep hy; have X5_5 : Hid (HasLs y5 (.slice m5 h.dn.length c5) h.dn) := hh; obtain ⟨a0, a1, a2, a3, a4⟩ := HQ.out y5 Y5.out; obtain ⟨k0, k1⟩ := HZ.out y5 Y5.out; have k2 := k0 0 (by omega); have k3 := k0 1 (by omega); have k4 := k0 2 (by omega); have k5 := k0 3 (by omega); have k6 := k0 4 (by omega); have l2 := k1 0; have l3 := k1 1; have l4 := k1 2; have l5 := k1 3; have l6 := k1 4; clear k0 k1; clear hy hh)
    | (go_at_call 33; refine (H4.out _ Y3.out).mono ?_; rintro e y4 ⟨m4, c4, rfl, hh, hg, hy⟩; have G4 : Hid (∀ a, m4 = some a → W0.heap.size ≤ a.block) := hg; clear hg; have Y4 : Hid (Below W0.heap.size W0 y4) := btrH' Y3.out hy; have X4_1 : Hid (HasWs y4 (.slice m1 h.node.length c1) h.node) := X3_1.out.keep hy; have X4_2 : Hid (HasWs y4 (.slice m2 h.upF.length c2) h.upF) := X3_2.out.keep hy; have X4_3 : Hid (HasLs y4 (.slice m3 h.up.length c3) h.up) := X3_3.out.keep hy; have X4_4 : Hid (HasWs y4 (.slice m4 h.dnF.length c4) h.dnF) := hh; obtain ⟨a0, a1, a2, a3, a4⟩ := HQ.out y4 Y4.out; clear hy hh)
    | (go_at_call 34; refine (H3.out _ Y2.out).mono ?_; rintro e y3 ⟨m3, c3, rfl, hh, hg, hy⟩; have G3 : Hid (∀ a, m3 = some a → W0.heap.size ≤ a.block) := hg; clear hg; have Y3 : Hid (Below W0.heap.size W0 y3) := btrH' Y2.out hy; have X3_1 : Hid (HasWs y3 (.slice m1 h.node.length c1) h.node) := X2_1.out.keep hy; have X3_2 : Hid (HasWs y3 (.slice m2 h.upF.length c2) h.upF) := X2_2.out.keep hy; have X3_3 : Hid (HasLs y3 (.slice m3 h.up.length c3) h.up) := hh; obtain ⟨a0, a1, a2, a3, a4⟩ := HQ.out y3 Y3.out; clear hy hh)
    | (go_at_call 33; refine (H2.out _ Y1.out).mono ?_; rintro e y2 ⟨m2, c2, rfl, hh, hg, hy⟩; have G2 : Hid (∀ a, m2 = some a → W0.heap.size ≤ a.block) := hg; clear hg; have Y2 : Hid (Below W0.heap.size W0 y2) := btrH' Y1.out hy; have X2_1 : Hid (HasWs y2 (.slice m1 h.node.length c1) h.node) := X1_1.out.keep hy; have X2_2 : Hid (HasWs y2 (.slice m2 h.upF.length c2) h.upF) := hh; obtain ⟨a0, a1, a2, a3, a4⟩ := HQ.out y2 Y2.out; clear hy hh)
    | (go_at_call 33; refine (H1.out _ Y0.out.drew).mono ?_; rintro e y1 ⟨m1, c1, rfl, hh, hg, hy⟩; have G1 : Hid (∀ a, m1 = some a → W0.heap.size ≤ a.block) := hg; clear hg; have Y1 : Hid (Below W0.heap.size W0 y1) := btrH' Y0.out.drew hy; have X1_1 : Hid (HasWs y1 (.slice m1 h.node.length c1) h.node) := hh; obtain ⟨a0, a1, a2, a3, a4⟩ := HQ.out y1 Y1.out; clear hy hh))
  go_wp2
  have hS := set_five (HB0.out _ Y5.out).2 (.slice m1 h.node.length c1) (.slice m2 h.upF.length c2) (.slice m3 h.up.length c3) (.slice m4 h.dnF.length c4) (.slice m5 h.dn.length c5)
  obtain ⟨hf1, hf2⟩ := five_far y5 (z + 1) (.slice m1 h.node.length c1) (.slice m2 h.upF.length c2) (.slice m3 h.up.length c3) (.slice m4 h.dnF.length c4) (.slice m5 h.dn.length c5)
  have hlt : z + 1 < W0.heap.size := some_lt (HB0.out _ Y0.out).2
  have hbb : Below w.heap.size w (((((y5.setCell ⟨z + 1, 0, none⟩ (.slice m1 h.node.length c1)).setCell ⟨z + 1, 1, none⟩ (.slice m2 h.upF.length c2)).setCell ⟨z + 1, 2, none⟩ (.slice m3 h.up.length c3)).setCell ⟨z + 1, 3, none⟩ (.slice m4 h.dnF.length c4)).setCell ⟨z + 1, 4, none⟩ (.slice m5 h.dn.length c5)) := (((((HB0.out _ Y5.out).1.setCell (by rw [HZZ.out]; exact Nat.le_succ _) _).setCell (by rw [HZZ.out]; exact Nat.le_succ _) _).setCell (by rw [HZZ.out]; exact Nat.le_succ _) _).setCell (by rw [HZZ.out]; exact Nat.le_succ _) _).setCell (by rw [HZZ.out]; exact Nat.le_succ _) _
  refine bodyPost_ret (twin_res hS rfl) rfl ⟨⟨m1, m2, m3, m4, m5, c1, c2, c3, c4, c5⟩, rfl, ?_, hbb⟩
  generalize ((((y5.setCell ⟨z + 1, 0, none⟩ (.slice m1 h.node.length c1)).setCell ⟨z + 1, 1, none⟩ (.slice m2 h.upF.length c2)).setCell ⟨z + 1, 2, none⟩ (.slice m3 h.up.length c3)).setCell ⟨z + 1, 3, none⟩ (.slice m4 h.dnF.length c4)).setCell ⟨z + 1, 4, none⟩ (.slice m5 h.dn.length c5) = WE at hf1 hf2
  have hs : y5.heap.size ≤ WE.heap.size := Nat.le_of_eq hf2.symm
  exact ⟨ws_far X5_1.out hs (fun a ea => hf1 _ (by have := G1.out a ea; omega)), ws_far X5_2.out hs (fun a ea => hf1 _ (by have := G2.out a ea; omega)), ls_far X5_3.out hs (fun a ea => hf1 _ (by have := G3.out a ea; omega)), ws_far X5_4.out hs (fun a ea => hf1 _ (by have := G4.out a ea; omega)), ls_far X5_5.out hs (fun a ea => hf1 _ (by have := G5.out a ea; omega))⟩
end Go.Proofs.YtodilocmfdeehaaGreatDoor.Hi
