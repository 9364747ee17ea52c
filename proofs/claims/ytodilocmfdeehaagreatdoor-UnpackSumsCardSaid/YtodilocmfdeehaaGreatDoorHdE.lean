/- viaductref10.link: the error of a link. -/
import Derived.Test.YtodilocmfdeehaaGreatDoorHdD
import Derived.Test.YtodilocmfdeehaaGreatDoorHsF
namespace Go.Proofs.YtodilocmfdeehaaGreatDoor.Hi
open Go.RowKit Go.Extern Go.Shelf

attribute [local go_sem] Oper.semAt_some

theorem lk_res {W : World} {z : Nat} {x0 x1 : Value} {tmps : Array Value} (h1 : W.heap[z]? = some (.cells #[x0, x1] 36)) (t2 : tmps[6]?.getD undef = .pointer (some ⟨z, 0, none⟩)) :
    (results Tryz.f51 tmps).run Tryz.prog W = .ok (.agg #[x0, x1]) W := by
  have c0 : W.cell? ⟨z, 0, none⟩ = some x0 := by simp [World.cell?, h1]
  have c1 : W.cell? ⟨z, 1, none⟩ = some x1 := by simp [World.cell?, h1]
  simp [results, Tryz.results51, go_sem, t2, c0, c1]
theorem four_cells {w : World} {b : Nat} {T : TypeId} {a0 a1 a2 a3 : Value} (h : w.heap[b]? = some (.cells #[a0, a1, a2, a3] T)) : (w.cell? ⟨b, 0, none⟩ = some a0 ∧ w.cell? ⟨b, 1, none⟩ = some a1 ∧ w.cell? ⟨b, 2, none⟩ = some a2 ∧ w.cell? ⟨b, 3, none⟩ = some a3) ∧ w.frozen? ⟨b, 0, none⟩ = false ∧ w.frozen? ⟨b, 1, none⟩ = false ∧ w.frozen? ⟨b, 2, none⟩ = false ∧ w.frozen? ⟨b, 3, none⟩ = false := by simp [World.cell?, World.frozen?, h]

set_option maxRecDepth 100000 in
set_option maxHeartbeats 4000000 in
theorem link_low (v : HV) (h : Hr) (mo : Option Addr) (mc i : Nat) (w : World) (hH : HasH w v h) (hR : HasRk w (.slice mo (stds h).length mc) h) (hu : FOk h.upF h.up.length) (hd : FOk h.dnF h.dn.length) (hN : h.node.length ≤ 65536) (hL : h.up.length + h.dn.length ≤ 1048576) (hi : i < (stds h).length)
    (hlow : h.node.length ≤ (sd (stds h) i).lk.hd ∨ (sd (stds h) i).lk.hd ≤ (sd (stds h) i).rk) :
    Calls Tryz.prog 51 #[hvl v h, .slice mo (stds h).length mc, .int .i64 (i : Int)] w fun e w' => RA w (14, [(4, (i : Int))]) e w' := by
  have hlen := stds_len hu hd
  obtain ⟨z, hz⟩ : ∃ z, w.heap.size = z := ⟨_, rfl⟩
  obtain ⟨W0, hW0⟩ : ∃ W0, (w.alloc (.cells (cellsH v h) 25)).alloc (.cells #[.int .i64 0, .slice none 0 0] 36) = W0 := ⟨_, rfl⟩
  have hB0 : Below w.heap.size w W0 := by rw [← hW0]; exact ((Below.refl _ w).alloc (Nat.le_refl _) _).alloc (by simp) _
  have h0 : W0.heap[z]? = some (.cells (cellsH v h) 25) := by
    rw [← hW0, ← hz]; exact (Below.heap_alloc _ _ _ (by simp)).trans (heap_newW _ _)
  have h1 : W0.heap[z + 1]? = some (.cells #[.int .i64 0, .slice none 0 0] 36) := by
    have g := heap_newW (w.alloc (.cells (cellsH v h) 25)) (.cells #[.int .i64 0, .slice none 0 0] 36)
    rw [World.size_alloc, hW0, hz] at g
    exact g
  have HS0 : Hid (z + 1 < W0.heap.size) := some_lt h1
  have HQ : Hid (∀ wx, Below W0.heap.size W0 wx → (wx.cell? ⟨z, 0, none⟩ = some (.slice v.no h.node.length v.nc) ∧ wx.cell? ⟨z, 1, none⟩ = some (.slice v.uo h.upF.length v.uc) ∧ wx.cell? ⟨z, 2, none⟩ = some (.slice v.ul h.up.length v.ulc) ∧ wx.cell? ⟨z, 3, none⟩ = some (.slice v.wo h.dnF.length v.wc) ∧ wx.cell? ⟨z, 4, none⟩ = some (.slice v.dl h.dn.length v.dlc)) ∧ wx.heap[z + 1]? = some (.cells #[.int .i64 0, .slice none 0 0] 36) ∧ HasH wx v h ∧ Below w.heap.size w wx) := fun wx hx => by
    have g := hB0.trans (hx.mono hB0.size)
    exact ⟨five_cells ((hx.block _ (some_lt h0)).trans h0), (hx.block _ (some_lt h1)).trans h1, hH.keep g, g⟩
  have HLK : Hid (∀ wx, Below W0.heap.size W0 wx → ∀ j, j < (stds h).length → Calls Tryz.prog 27 #[hvl v h, .int .i64 (j : Int)] wx fun e w' => e = .returned (lvl (linkAt h j)) ∧ Below wx.heap.size wx w') := fun wx hx j hj => link_calls v h j wx (HQ.out wx hx).2.2.1 (by omega) (by omega)
  have hlk := stds_lk hu hd hi
  have HRK : Hid (∀ wx, Below W0.heap.size W0 wx → HasRk wx (.slice mo (stds h).length mc) h) := fun wx hx => hR.keep (HQ.out wx hx).2.2.2
  have hok : (linkAt h i).ok := by
    unfold linkAt
    rcases Nat.lt_or_ge i h.up.length with g | g
    · rw [List.getD_eq_getElem?_getD, List.getElem?_append_left g, List.getElem?_eq_getElem g]; exact hH.up.ok _ (List.getElem_mem g)
    · rw [List.getD_eq_getElem?_getD, List.getElem?_append_right g, List.getElem?_eq_getElem (by omega)]; exact hH.dn.ok _ (List.getElem_mem (by omega))
  have HEND : Hid (∀ wx, Below W0.heap.size W0 wx → ∀ (F : Int × List (Int × Int)) (fo : Option Addr) (fc : Nat), HasPlaces wx (.slice fo F.2.length fc) F.2 → (∀ a, fo = some a → a.block ≠ z + 1) → RA w F (.returned (.agg #[.int .i64 F.1, .slice fo F.2.length fc])) ((wx.setCell ⟨z + 1, 0, none⟩ (.int .i64 F.1)).setCell ⟨z + 1, 1, none⟩ (.slice fo F.2.length fc)) ∧ ((wx.setCell ⟨z + 1, 0, none⟩ (.int .i64 F.1)).setCell ⟨z + 1, 1, none⟩ (.slice fo F.2.length fc)).heap[z + 1]? = some (.cells #[.int .i64 F.1, .slice fo F.2.length fc] 36)) := fun wx hx F fo fc hp hne => by
    refine ⟨⟨fo, fc, rfl, pl_far hp (by simp [World.setCell]) (fun j hj ⟨a, ea, eb⟩ => (Below.heap_setCell _ _ _ _ (by rw [← eb]; exact hne a ea)).trans (Below.heap_setCell _ _ _ _ (by rw [← eb]; exact hne a ea))), ((HQ.out wx hx).2.2.2.setCell (p := ⟨z + 1, 0, none⟩) (by show w.heap.size ≤ z + 1; omega) _).setCell (p := ⟨z + 1, 1, none⟩) (by show w.heap.size ≤ z + 1; omega) _⟩, set_err (HQ.out wx hx).2.1 _ _⟩
  have HW0 : Hid ((w.alloc (.cells (cellsH v h) 25)).alloc (.cells #[.int .i64 0, .slice none 0 0] 36) = W0) := hW0
  obtain ⟨c0, c1, c2, c3, c4⟩ := (HQ.out W0 (Below.refl _ _)).1
  have HLI : Hid (∀ wx, Below W0.heap.size W0 wx → Calls Tryz.prog 27 #[hvl v h, .int .i64 (i : Int)] wx fun e w' => e = .returned (lvl (linkAt h i)) ∧ Below wx.heap.size wx w') := fun wx hx => HLK.out wx hx i hi
  obtain ⟨mb, emo, _⟩ := (HRK.out W0 (Below.refl _ _)).at hi
  subst emo
  have HRI : Hid (∀ wx, Below W0.heap.size W0 wx → ∀ j, j < (stds h).length → wx.cell? ⟨mb, j, none⟩ = some (.int .i64 ((sd (stds h) j).rk : Int))) := fun wx hx j hj => by
    obtain ⟨b, e, q, _⟩ := (HRK.out wx hx).at hj
    cases e
    exact q
  have HRM : Hid (mb < W0.heap.size) := by
    obtain ⟨b, e, _, cur, q⟩ := (HRK.out W0 (Below.refl _ _)).at hi
    cases e
    exact some_lt q
  obtain ⟨l, hl⟩ : ∃ l, linkAt h i = l := ⟨_, rfl⟩
  rw [hl] at HLI hok hlk
  obtain ⟨n, hn⟩ : ∃ n, (stds h).length = n := ⟨_, rfl⟩
  have HLN : Hid ((stds h).length = n ∧ n = h.up.length + h.dn.length) := ⟨hn, by omega⟩
  rw [hn] at hi ⊢
  have j1 : (0 : Int) ≤ (i : Int) := by omega
  have j2 : (i : Int) < (n : Int) := by omega
  have x1 : IntKind.i64.wrap (l.hd : Int) = (l.hd : Int) := by rw [IntKind.wrap_i64]; have := hok.1; omega
  have x2 : IntKind.u64.wrap (l.hd : Int) = (l.hd : Int) := by rw [IntKind.wrap_u64]; have := hok.1; omega
  have x3 : IntKind.u64.wrap (h.node.length : Int) = (h.node.length : Int) := by rw [IntKind.wrap_u64]; omega
  have x4 : IntKind.i64.wrap ((h.up.length : Int) + (h.dn.length : Int)) = (h.up.length : Int) + (h.dn.length : Int) := by rw [IntKind.wrap_i64]; omega
  have HOK : Hid l.ok := hok
  have n0 : z ≠ W0.heap.size := (by have := HS0.out; omega)
  have p0 : W0.heap.size ≠ z := n0.symm
  rw [← hlk] at hlow
  clear hW0 h0 h1 hB0 hH hR hok hl hlen hn hlk
  unfold cellsH at HW0
  unfold hvl at HLI HLK ⊢
  unfold lvl at HLI HLK
  go_enter Tryz.func51, Tryz.ntmps51
  go_upto_region 1 with fail
  rw [HW0.out]
  go_wp2_with fail
  go_region_held3 (fun w' => w'.cell? ⟨z, 0, none⟩ = some (.slice v.no h.node.length v.nc) ∧ w'.cell? ⟨z, 1, none⟩ = some (.slice v.uo h.upF.length v.uc) ∧ w'.cell? ⟨z, 2, none⟩ = some (.slice v.ul h.up.length v.ulc) ∧ w'.cell? ⟨z, 3, none⟩ = some (.slice v.wo h.dnF.length v.wc) ∧ w'.cell? ⟨z, 4, none⟩ = some (.slice v.dl h.dn.length v.dlc)) (go_keep) (first
    | (go_at_call 27; refine (HLI.out _ (by first | exact Below.refl _ _ | exact (Below.refl _ _).alloc (Nat.le_refl _) _ | exact bdrew (Below.refl _ _) _ | exact (bdrew (Below.refl _ _) _).alloc (Nat.le_refl _) _ | exact (Below.refl _ _).drew)).mono ?_; rintro e y1 ⟨rfl, hy⟩; have Y1 : Hid (Below W0.heap.size W0 y1) := (by first | exact hy | exact belA hy | exact belD hy | exact belAD hy); (first | (have Z : Hid (y1.heap[W0.heap.size]? = some (.cells #[.int .u32 0, .int .u64 0, .int .u32 0, .int .u32 0] 65)) := (hy.block _ (some_lt (heap_newW _ (.cells #[.int .u32 0, .int .u64 0, .int .u32 0, .int .u32 0] 65)))).trans (heap_newW _ (.cells #[.int .u32 0, .int .u64 0, .int .u32 0, .int .u32 0] 65)); obtain ⟨⟨z0, z1, z2, z3⟩, f0, f1, f2, f3⟩ := four_cells Z.out) | skip); have n1 : z ≠ y1.heap.size := (by have := HS0.out; have := Y1.out.size; omega); have p1 : y1.heap.size ≠ z := n1.symm; clear c0 c1 c2 c3 c4; obtain ⟨c0, c1, c2, c3, c4⟩ := (HQ.out y1 Y1.out).1; clear hy))
  · have HX : Hid (Below W0.heap.size W0 (y1.alloc (.cells #[.int .u32 (l.hd : Int), .int .u64 (l.wt : Int), .int .u32 (l.lf : Int), .int .u32 (l.rt : Int)] 65)) ∧ (y1.alloc (.cells #[.int .u32 (l.hd : Int), .int .u64 (l.wt : Int), .int .u32 (l.lf : Int), .int .u32 (l.rt : Int)] 65)).heap[y1.heap.size]? = some (.cells #[.int .u32 (l.hd : Int), .int .u64 (l.wt : Int), .int .u32 (l.lf : Int), .int .u32 (l.rt : Int)] 65) ∧ z + 1 < y1.heap.size) := ⟨Y1.out.alloc Y1.out.size _, heap_newW _ _, Nat.lt_of_lt_of_le HS0.out Y1.out.size⟩
    clear Y1 c0 c1 c2 c3 c4 n1 p1
    generalize (y1.alloc (.cells #[.int .u32 (l.hd : Int), .int .u64 (l.wt : Int), .int .u32 (l.lf : Int), .int .u32 (l.rt : Int)] 65)) = WX at *
    generalize y1.heap.size = q at *
    have HY : Hid (∀ wx, Below WX.heap.size WX wx → wx.heap[q]? = some (.cells #[.int .u32 (l.hd : Int), .int .u64 (l.wt : Int), .int .u32 (l.lf : Int), .int .u32 (l.rt : Int)] 65) ∧ Below W0.heap.size W0 wx) := fun wx hx => ⟨(hx.block _ (some_lt HX.out.2.1)).trans HX.out.2.1, btrH' HX.out.1 hx⟩
    have HQZ : Hid (z + 1 < q) := HX.out.2.2
    clear HX
    go_wp2_with fail
    refine (E_calls 14 WX).mono ?_
    rintro e w1 ⟨rfl, hb1⟩
    have B1 : Hid (Below WX.heap.size WX w1) := hb1
    clear hb1
    go_wp2_with fail
    refine (refAt_calls 4 (i : Int) 14 w1).mono ?_
    rintro e w2 ⟨g, rfl, hg, hb2⟩
    have B2 : Hid (Below WX.heap.size WX w2) := btrH' B1.out hb2
    obtain ⟨s, hs⟩ : ∃ s, w2.heap.size = s := ⟨_, rfl⟩
    obtain ⟨W3, hW3⟩ : ∃ W3, w2.alloc (.cells #[.int .i64 14, .slice (some ⟨g, 0, none⟩) 1 1] 36) = W3 := ⟨_, rfl⟩
    have HW3 : Hid (w2.alloc (.cells #[.int .i64 14, .slice (some ⟨g, 0, none⟩) 1 1] 36) = W3) := hW3
    have B3 : Hid (Below WX.heap.size WX W3) := by show Below _ _ _; rw [← hW3]; exact B2.out.alloc B2.out.size _
    have HG : Hid (g ≠ z + 1) := fun e => by
      have := (HQ.out w2 (HY.out w2 B2.out).2).2.1
      rw [← e, hg] at this
      simp at this
    have HP : Hid (∀ wx, Below W3.heap.size W3 wx → HasPlaces wx (.slice (some ⟨g, 0, none⟩) 1 1) [(4, (i : Int))] ∧ wx.heap[s]? = some (.cells #[.int .i64 14, .slice (some ⟨g, 0, none⟩) 1 1] 36) ∧ Below WX.heap.size WX wx) := fun wx hx => by
      have e1 : W3.heap[g]? = some (.cells #[.int .i64 4, .int .i64 (i : Int)] 78) := by rw [← hW3]; exact (Below.heap_alloc _ _ _ (some_lt hg)).trans hg
      have e2 : W3.heap[s]? = some (.cells #[.int .i64 14, .slice (some ⟨g, 0, none⟩) 1 1] 36) := by rw [← hW3, ← hs]; exact heap_newW _ _
      exact ⟨pl_one ((hx.block _ (some_lt e1)).trans e1), (hx.block _ (some_lt e2)).trans e2, btrH' B3.out hx⟩
    clear hb2 hg hW3 B1 B2 B3
    go_upto_region 3 with fail
    rw [HW3.out]
    clear HW3
    obtain ⟨⟨k0, k1, k2, k3⟩, _⟩ := four_cells (HY.out W3 (HP.out W3 (Below.refl _ _)).2.2).1
    have kr := HRI.out W3 (HY.out W3 (HP.out W3 (Below.refl _ _)).2.2).2 i (by rw [HLN.out.1]; exact hi)
    have HW3 : Hid (Below W3.heap.size W3 W3) := Below.refl _ _
    go_wp2_with fail
    by_cases ga : h.node.length ≤ l.hd
    · have ia : decide ((l.hd : Int) ≥ (h.node.length : Int)) = true := by simp; omega
      have ib : decide (h.node.length ≤ l.hd) = true := by simpa using ga
      go_quiet (fail)
      have HW4 : Hid (Below W3.heap.size W3 (W3.drewN nq)) := bdrew HW3.out _
      generalize W3.drewN nq = W4 at *
      obtain ⟨s0, s1, _, _⟩ := cell_two (HP.out W4 HW4.out).2.1
      obtain ⟨d0, d1, f0, f1⟩ := cell_two (HQ.out W4 (HY.out W4 (HP.out W4 HW4.out).2.2).2).2.1
      go_wp2
      obtain ⟨r1, r2⟩ := HEND.out W4 (HY.out W4 (HP.out W4 HW4.out).2.2).2 (14, [(4, (i : Int))]) (some ⟨g, 0, none⟩) 1 (HP.out W4 HW4.out).1 (fun a e => by cases e; exact HG.out)
      exact bodyPost_ret (lk_res r2 rfl) rfl r1
    · have gb : l.hd ≤ (sd (stds h) i).rk := hlow.resolve_left ga
      have ia : decide ((l.hd : Int) ≥ (h.node.length : Int)) = false := by simp; omega
      have ib : decide (h.node.length ≤ l.hd) = false := by simpa using ga
      have ic : decide ((l.hd : Int) ≤ ((sd (stds h) i).rk : Int)) = true := by simp; omega
      have id : decide (l.hd ≤ (sd (stds h) i).rk) = true := by simpa using gb
      go_quiet (fail)
      have HW4 : Hid (Below W3.heap.size W3 (W3.drewN nq)) := bdrew HW3.out _
      generalize W3.drewN nq = W4 at *
      obtain ⟨s0, s1, _, _⟩ := cell_two (HP.out W4 HW4.out).2.1
      obtain ⟨d0, d1, f0, f1⟩ := cell_two (HQ.out W4 (HY.out W4 (HP.out W4 HW4.out).2.2).2).2.1
      go_wp2
      obtain ⟨r1, r2⟩ := HEND.out W4 (HY.out W4 (HP.out W4 HW4.out).2.2).2 (14, [(4, (i : Int))]) (some ⟨g, 0, none⟩) 1 (HP.out W4 HW4.out).1 (fun a e => by cases e; exact HG.out)
      exact bodyPost_ret (lk_res r2 rfl) rfl r1
  · have HX : Hid (Below W0.heap.size W0 ((((y1.setCell ⟨W0.heap.size, 0, none⟩ (.int .u32 (l.hd : Int))).setCell ⟨W0.heap.size, 1, none⟩ (.int .u64 (l.wt : Int))).setCell ⟨W0.heap.size, 2, none⟩ (.int .u32 (l.lf : Int))).setCell ⟨W0.heap.size, 3, none⟩ (.int .u32 (l.rt : Int))) ∧ ((((y1.setCell ⟨W0.heap.size, 0, none⟩ (.int .u32 (l.hd : Int))).setCell ⟨W0.heap.size, 1, none⟩ (.int .u64 (l.wt : Int))).setCell ⟨W0.heap.size, 2, none⟩ (.int .u32 (l.lf : Int))).setCell ⟨W0.heap.size, 3, none⟩ (.int .u32 (l.rt : Int))).heap[W0.heap.size]? = some (.cells #[.int .u32 (l.hd : Int), .int .u64 (l.wt : Int), .int .u32 (l.lf : Int), .int .u32 (l.rt : Int)] 65) ∧ z + 1 < W0.heap.size) := ⟨(((Y1.out.setCell (p := ⟨W0.heap.size, 0, none⟩) (Nat.le_refl _) _).setCell (p := ⟨W0.heap.size, 1, none⟩) (Nat.le_refl _) _).setCell (p := ⟨W0.heap.size, 2, none⟩) (Nat.le_refl _) _).setCell (p := ⟨W0.heap.size, 3, none⟩) (Nat.le_refl _) _, set_four Z.out _ _ _ _, HS0.out⟩
    clear Y1 Z c0 c1 c2 c3 c4 n1 p1 z0 z1 z2 z3 f0 f1 f2 f3
    generalize ((((y1.setCell ⟨W0.heap.size, 0, none⟩ (.int .u32 (l.hd : Int))).setCell ⟨W0.heap.size, 1, none⟩ (.int .u64 (l.wt : Int))).setCell ⟨W0.heap.size, 2, none⟩ (.int .u32 (l.lf : Int))).setCell ⟨W0.heap.size, 3, none⟩ (.int .u32 (l.rt : Int))) = WX at *
    obtain ⟨q, hq⟩ : ∃ q, W0.heap.size = q := ⟨_, rfl⟩
    have HX' : Hid (Below W0.heap.size W0 WX ∧ WX.heap[q]? = some (.cells #[.int .u32 (l.hd : Int), .int .u64 (l.wt : Int), .int .u32 (l.lf : Int), .int .u32 (l.rt : Int)] 65) ∧ z + 1 < q) := by rw [← hq]; exact HX.out
    clear HX
    have HX := HX'
    clear HX'
    rw [hq]
    clear hq
    have HY : Hid (∀ wx, Below WX.heap.size WX wx → wx.heap[q]? = some (.cells #[.int .u32 (l.hd : Int), .int .u64 (l.wt : Int), .int .u32 (l.lf : Int), .int .u32 (l.rt : Int)] 65) ∧ Below W0.heap.size W0 wx) := fun wx hx => ⟨(hx.block _ (some_lt HX.out.2.1)).trans HX.out.2.1, btrH' HX.out.1 hx⟩
    have HQZ : Hid (z + 1 < q) := HX.out.2.2
    clear HX
    go_wp2_with fail
    refine (E_calls 14 WX).mono ?_
    rintro e w1 ⟨rfl, hb1⟩
    have B1 : Hid (Below WX.heap.size WX w1) := hb1
    clear hb1
    go_wp2_with fail
    refine (refAt_calls 4 (i : Int) 14 w1).mono ?_
    rintro e w2 ⟨g, rfl, hg, hb2⟩
    have B2 : Hid (Below WX.heap.size WX w2) := btrH' B1.out hb2
    obtain ⟨s, hs⟩ : ∃ s, w2.heap.size = s := ⟨_, rfl⟩
    obtain ⟨W3, hW3⟩ : ∃ W3, w2.alloc (.cells #[.int .i64 14, .slice (some ⟨g, 0, none⟩) 1 1] 36) = W3 := ⟨_, rfl⟩
    have HW3 : Hid (w2.alloc (.cells #[.int .i64 14, .slice (some ⟨g, 0, none⟩) 1 1] 36) = W3) := hW3
    have B3 : Hid (Below WX.heap.size WX W3) := by show Below _ _ _; rw [← hW3]; exact B2.out.alloc B2.out.size _
    have HG : Hid (g ≠ z + 1) := fun e => by
      have := (HQ.out w2 (HY.out w2 B2.out).2).2.1
      rw [← e, hg] at this
      simp at this
    have HP : Hid (∀ wx, Below W3.heap.size W3 wx → HasPlaces wx (.slice (some ⟨g, 0, none⟩) 1 1) [(4, (i : Int))] ∧ wx.heap[s]? = some (.cells #[.int .i64 14, .slice (some ⟨g, 0, none⟩) 1 1] 36) ∧ Below WX.heap.size WX wx) := fun wx hx => by
      have e1 : W3.heap[g]? = some (.cells #[.int .i64 4, .int .i64 (i : Int)] 78) := by rw [← hW3]; exact (Below.heap_alloc _ _ _ (some_lt hg)).trans hg
      have e2 : W3.heap[s]? = some (.cells #[.int .i64 14, .slice (some ⟨g, 0, none⟩) 1 1] 36) := by rw [← hW3, ← hs]; exact heap_newW _ _
      exact ⟨pl_one ((hx.block _ (some_lt e1)).trans e1), (hx.block _ (some_lt e2)).trans e2, btrH' B3.out hx⟩
    clear hb2 hg hW3 B1 B2 B3
    go_upto_region 3 with fail
    rw [HW3.out]
    clear HW3
    obtain ⟨⟨k0, k1, k2, k3⟩, _⟩ := four_cells (HY.out W3 (HP.out W3 (Below.refl _ _)).2.2).1
    have kr := HRI.out W3 (HY.out W3 (HP.out W3 (Below.refl _ _)).2.2).2 i (by rw [HLN.out.1]; exact hi)
    have HW3 : Hid (Below W3.heap.size W3 W3) := Below.refl _ _
    go_wp2_with fail
    by_cases ga : h.node.length ≤ l.hd
    · have ia : decide ((l.hd : Int) ≥ (h.node.length : Int)) = true := by simp; omega
      have ib : decide (h.node.length ≤ l.hd) = true := by simpa using ga
      go_quiet (fail)
      have HW4 : Hid (Below W3.heap.size W3 (W3.drewN nq)) := bdrew HW3.out _
      generalize W3.drewN nq = W4 at *
      obtain ⟨s0, s1, _, _⟩ := cell_two (HP.out W4 HW4.out).2.1
      obtain ⟨d0, d1, f0, f1⟩ := cell_two (HQ.out W4 (HY.out W4 (HP.out W4 HW4.out).2.2).2).2.1
      go_wp2
      obtain ⟨r1, r2⟩ := HEND.out W4 (HY.out W4 (HP.out W4 HW4.out).2.2).2 (14, [(4, (i : Int))]) (some ⟨g, 0, none⟩) 1 (HP.out W4 HW4.out).1 (fun a e => by cases e; exact HG.out)
      exact bodyPost_ret (lk_res r2 rfl) rfl r1
    · have gb : l.hd ≤ (sd (stds h) i).rk := hlow.resolve_left ga
      have ia : decide ((l.hd : Int) ≥ (h.node.length : Int)) = false := by simp; omega
      have ib : decide (h.node.length ≤ l.hd) = false := by simpa using ga
      have ic : decide ((l.hd : Int) ≤ ((sd (stds h) i).rk : Int)) = true := by simp; omega
      have id : decide (l.hd ≤ (sd (stds h) i).rk) = true := by simpa using gb
      go_quiet (fail)
      have HW4 : Hid (Below W3.heap.size W3 (W3.drewN nq)) := bdrew HW3.out _
      generalize W3.drewN nq = W4 at *
      obtain ⟨s0, s1, _, _⟩ := cell_two (HP.out W4 HW4.out).2.1
      obtain ⟨d0, d1, f0, f1⟩ := cell_two (HQ.out W4 (HY.out W4 (HP.out W4 HW4.out).2.2).2).2.1
      go_wp2
      obtain ⟨r1, r2⟩ := HEND.out W4 (HY.out W4 (HP.out W4 HW4.out).2.2).2 (14, [(4, (i : Int))]) (some ⟨g, 0, none⟩) 1 (HP.out W4 HW4.out).1 (fun a e => by cases e; exact HG.out)
      exact bodyPost_ret (lk_res r2 rfl) rfl r1
end Go.Proofs.YtodilocmfdeehaaGreatDoor.Hi
