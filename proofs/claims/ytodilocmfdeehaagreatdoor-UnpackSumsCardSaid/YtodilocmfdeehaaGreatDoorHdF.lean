/- viaductref10.link, whole. -/
import Derived.Test.YtodilocmfdeehaaGreatDoorHdL
namespace Go.Proofs.YtodilocmfdeehaaGreatDoor.Hi
open Go.RowKit Go.Extern Go.Shelf

attribute [local go_sem] Oper.semAt_some


set_option maxRecDepth 100000 in
set_option maxHeartbeats 4000000 in
theorem rlink_form (v : HV) (h : Hr) (mo : Option Addr) (mc i : Nat) (w : World) (hH : HasH w v h) (hR : HasRk w (.slice mo (stds h).length mc) h) (hu : FOk h.upF h.up.length) (hd : FOk h.dnF h.dn.length) (hN : h.node.length ≤ 65536) (hL : h.up.length + h.dn.length ≤ 1048576) (hi : i < (stds h).length)
    (hsh : (rising (stds h) i = false ∨ (sd (stds h) i).lk.hd ≤ (sd (stds h) i).rk ∨ h.node.length ≤ (sd (stds h) i).lk.hd) ∨ (sd (stds h) i).lk.plain = true ∨ (stds h).length ≤ (sd (stds h) i).lk.lf ∨ (stds h).length ≤ (sd (stds h) i).lk.rt ∨ (sd (stds h) i).lk.lf < h.up.length ∨ h.up.length ≤ (sd (stds h) i).lk.rt) :
    Calls Tryz.prog 51 #[hvl v h, .slice mo (stds h).length mc, .int .i64 (i : Int)] w fun e w' => RA w (if lerr h.node.length (stds h) i = 0 then ((0 : Int), ([] : List (Int × Int))) else (lerr h.node.length (stds h) i, [(4, (i : Int))])) e w' := by
  have hlen := stds_len hu hd
  obtain ⟨z, hz⟩ : ∃ z, w.heap.size = z := ⟨_, rfl⟩
  obtain ⟨W0, hW0⟩ : ∃ W0, (w.alloc (.cells (cellsH v h) 25)).alloc (.cells #[.int .i64 0, .slice none 0 0] 36) = W0 := ⟨_, rfl⟩
  have hB0 : Below w.heap.size w W0 := by rw [← hW0]; exact ((Below.refl _ w).alloc (Nat.le_refl _) _).alloc (by simp) _
  have h0 : W0.heap[z]? = some (.cells (cellsH v h) 25) := by
    rw [← hW0, ← hz]; exact (Below.heap_alloc _ _ _ (by simp)).trans (heap_newW _ _)
  have h1 : W0.heap[z + 1]? = some (.cells #[.int .i64 0, .slice none 0 0] 36) := by
    have g := heap_newW (w.alloc (.cells (cellsH v h) 25)) (.cells #[.int .i64 0, .slice none 0 0] 36)
    rw [World.size_alloc, hW0, hz] at g
    exact g
  have HS0 : Hid (z + 1 < W0.heap.size) := some_lt h1
  have HQ : Hid (∀ wx, Below W0.heap.size W0 wx → (wx.cell? ⟨z, 0, none⟩ = some (.slice v.no h.node.length v.nc) ∧ wx.cell? ⟨z, 1, none⟩ = some (.slice v.uo h.upF.length v.uc) ∧ wx.cell? ⟨z, 2, none⟩ = some (.slice v.ul h.up.length v.ulc) ∧ wx.cell? ⟨z, 3, none⟩ = some (.slice v.wo h.dnF.length v.wc) ∧ wx.cell? ⟨z, 4, none⟩ = some (.slice v.dl h.dn.length v.dlc)) ∧ wx.heap[z + 1]? = some (.cells #[.int .i64 0, .slice none 0 0] 36) ∧ HasH wx v h ∧ Below w.heap.size w wx) := fun wx hx => by
    have g := hB0.trans (hx.mono hB0.size)
    exact ⟨five_cells ((hx.block _ (some_lt h0)).trans h0), (hx.block _ (some_lt h1)).trans h1, hH.keep g, g⟩
  have HLK : Hid (∀ wx, Below W0.heap.size W0 wx → ∀ j, j < (stds h).length → Calls Tryz.prog 27 #[hvl v h, .int .i64 (j : Int)] wx fun e w' => e = .returned (lvl (linkAt h j)) ∧ Below wx.heap.size wx w') := fun wx hx j hj => link_calls v h j wx (HQ.out wx hx).2.2.1 (by omega) (by omega)
  have hlk := stds_lk hu hd hi
  have HRK : Hid (∀ wx, Below W0.heap.size W0 wx → HasRk wx (.slice mo (stds h).length mc) h) := fun wx hx => hR.keep (HQ.out wx hx).2.2.2
  have hok : (linkAt h i).ok := by
    unfold linkAt
    rcases Nat.lt_or_ge i h.up.length with g | g
    · rw [List.getD_eq_getElem?_getD, List.getElem?_append_left g, List.getElem?_eq_getElem g]; exact hH.up.ok _ (List.getElem_mem g)
    · rw [List.getD_eq_getElem?_getD, List.getElem?_append_right g, List.getElem?_eq_getElem (by omega)]; exact hH.dn.ok _ (List.getElem_mem (by omega))
  have HEND : Hid (∀ wx, Below W0.heap.size W0 wx → ∀ (F : Int × List (Int × Int)) (fo : Option Addr) (fc : Nat), HasPlaces wx (.slice fo F.2.length fc) F.2 → (∀ a, fo = some a → a.block ≠ z + 1) → RA w F (.returned (.agg #[.int .i64 F.1, .slice fo F.2.length fc])) ((wx.setCell ⟨z + 1, 0, none⟩ (.int .i64 F.1)).setCell ⟨z + 1, 1, none⟩ (.slice fo F.2.length fc)) ∧ ((wx.setCell ⟨z + 1, 0, none⟩ (.int .i64 F.1)).setCell ⟨z + 1, 1, none⟩ (.slice fo F.2.length fc)).heap[z + 1]? = some (.cells #[.int .i64 F.1, .slice fo F.2.length fc] 36)) := fun wx hx F fo fc hp hne => by
    refine ⟨⟨fo, fc, rfl, pl_far hp (by simp [World.setCell]) (fun j hj ⟨a, ea, eb⟩ => (Below.heap_setCell _ _ _ _ (by rw [← eb]; exact hne a ea)).trans (Below.heap_setCell _ _ _ _ (by rw [← eb]; exact hne a ea))), ((HQ.out wx hx).2.2.2.setCell (p := ⟨z + 1, 0, none⟩) (by show w.heap.size ≤ z + 1; omega) _).setCell (p := ⟨z + 1, 1, none⟩) (by show w.heap.size ≤ z + 1; omega) _⟩, set_err (HQ.out wx hx).2.1 _ _⟩
  have HW0 : Hid ((w.alloc (.cells (cellsH v h) 25)).alloc (.cells #[.int .i64 0, .slice none 0 0] 36) = W0) := hW0
  obtain ⟨c0, c1, c2, c3, c4⟩ := (HQ.out W0 (Below.refl _ _)).1
  have HLI : Hid (∀ wx, Below W0.heap.size W0 wx → Calls Tryz.prog 27 #[hvl v h, .int .i64 (i : Int)] wx fun e w' => e = .returned (lvl (linkAt h i)) ∧ Below wx.heap.size wx w') := fun wx hx => HLK.out wx hx i hi
  obtain ⟨mb, emo, _⟩ := (HRK.out W0 (Below.refl _ _)).at hi
  subst emo
  have HRI : Hid (∀ wx, Below W0.heap.size W0 wx → ∀ j, j < (stds h).length → wx.cell? ⟨mb, j, none⟩ = some (.int .i64 ((sd (stds h) j).rk : Int))) := fun wx hx j hj => by
    obtain ⟨b, e, q, _⟩ := (HRK.out wx hx).at hj
    cases e
    exact q
  have HRM : Hid (mb < W0.heap.size) := by
    obtain ⟨b, e, _, cur, q⟩ := (HRK.out W0 (Below.refl _ _)).at hi
    cases e
    exact some_lt q
  obtain ⟨l, hl⟩ : ∃ l, linkAt h i = l := ⟨_, rfl⟩
  rw [hl] at HLI hok hlk
  obtain ⟨n, hn⟩ : ∃ n, (stds h).length = n := ⟨_, rfl⟩
  have HLN : Hid ((stds h).length = n ∧ n = h.up.length + h.dn.length) := ⟨hn, by omega⟩
  rw [hn] at hi ⊢
  have j1 : (0 : Int) ≤ (i : Int) := by omega
  have j2 : (i : Int) < (n : Int) := by omega
  have x1 : IntKind.i64.wrap (l.hd : Int) = (l.hd : Int) := by rw [IntKind.wrap_i64]; have := hok.1; omega
  have x2 : IntKind.u64.wrap (l.hd : Int) = (l.hd : Int) := by rw [IntKind.wrap_u64]; have := hok.1; omega
  have x3 : IntKind.u64.wrap (h.node.length : Int) = (h.node.length : Int) := by rw [IntKind.wrap_u64]; omega
  have x4 : IntKind.i64.wrap ((h.up.length : Int) + (h.dn.length : Int)) = (h.up.length : Int) + (h.dn.length : Int) := by rw [IntKind.wrap_i64]; omega
  have HOK : Hid l.ok := hok
  have n0 : z ≠ W0.heap.size := (by have := HS0.out; omega)
  have p0 : W0.heap.size ≠ z := n0.symm
  have HSH : Hid ((rising (stds h) i = false ∨ l.hd ≤ (sd (stds h) i).rk ∨ h.node.length ≤ l.hd) ∨ l.plain = true ∨ (stds h).length ≤ l.lf ∨ (stds h).length ≤ l.rt ∨ l.lf < h.up.length ∨ h.up.length ≤ l.rt) := by rw [hlk]; exact hsh
  clear hsh
  have HLK1 : Hid (l = (sd (stds h) i).lk) := hlk
  obtain ⟨R, hRR⟩ : ∃ R, (if lerr h.node.length (stds h) i = 0 then ((0 : Int), ([] : List (Int × Int))) else (lerr h.node.length (stds h) i, [(4, (i : Int))])) = R := ⟨_, rfl⟩
  rw [hRR]
  have HLOW : Hid (rising (stds h) i = false ∨ l.hd ≤ (sd (stds h) i).rk ∨ h.node.length ≤ l.hd → R = (14, [(4, (i : Int))])) := fun g => by
    rw [hlk] at g
    have e : lerr h.node.length (stds h) i = 14 := by unfold lerr; rw [if_pos g]
    rw [← hRR, e]; rfl
  have HMK : Hid (¬(rising (stds h) i = false ∨ l.hd ≤ (sd (stds h) i).rk ∨ h.node.length ≤ l.hd) → R = if making (sd (stds h) i) (stds h) = 0 then (0, []) else (making (sd (stds h) i) (stds h), [(4, (i : Int))])) := fun g => by
    rw [hlk] at g
    have e : lerr h.node.length (stds h) i = making (sd (stds h) i) (stds h) := by unfold lerr; rw [if_neg g]
    rw [← hRR, e]
  have HRS : Hid (rising (stds h) i = false ↔ i ≠ 0 ∧ i ≠ h.up.length ∧ (sd (stds h) (i - 1)).rk = (sd (stds h) i).rk ∧ l.hd ≤ (linkAt h (i - 1)).hd) := by rw [← hl]; exact rising_false hu hd (by omega)
  clear hRR
  clear hW0 h0 h1 hB0 hH hR hok hl hlen hn hlk
  unfold cellsH at HW0
  unfold hvl at HLI HLK ⊢
  unfold lvl at HLI HLK
  go_enter Tryz.func51, Tryz.ntmps51
  go_upto_region 1 with fail
  rw [HW0.out]
  go_wp2_with fail
  rename_i K1 aK1
  have KEY1 : ∀ (b17 b18 b19 b20 b21 b22 b23 b24 b25 b26 b27 b28 b29 : Value) (q : Nat) (WX : World), Hid (Below W0.heap.size W0 WX ∧ WX.heap[q]? = some (.cells #[.int .u32 (l.hd : Int), .int .u64 (l.wt : Int), .int .u32 (l.lf : Int), .int .u32 (l.rt : Int)] 65) ∧ z + 1 < q) → K1 { tmps := #[(.agg #[.slice v.no h.node.length v.nc, .slice v.uo h.upF.length v.uc, .slice v.ul h.up.length v.ulc, .slice v.wo h.dnF.length v.wc, .slice v.dl h.dn.length v.dlc]), (.slice (some ⟨mb, 0, none⟩) n mc), (.int .i64 (i : Int)), (.pointer (some ⟨z, 0, none⟩)), undef, undef, (.pointer (some ⟨z + 1, 0, none⟩)), (.pointer (some ⟨q, 0, none⟩)), (.int .i64 (h.node.length : Int)), (.int .i64 ((h.up.length : Int) + (h.dn.length : Int))), undef, undef, undef, undef, undef, undef, undef, b17, b18, b19, b20, b21, b22, b23, b24, b25, b26, b27, b28, b29, undef, undef, undef, undef, undef, undef, undef, undef, undef, undef, undef, undef, undef, undef, undef, undef, undef, undef, undef, undef, undef, undef, undef, undef, undef, undef, undef, undef, undef, undef, undef, undef, undef, undef, undef, undef, undef, undef, undef, undef, undef, undef, undef, undef, undef, undef, undef, undef, undef, undef, undef, undef, undef, undef, undef, undef, undef, undef, undef, undef, undef, undef, undef, undef, undef, undef, undef, undef, undef, undef, undef, undef, undef, undef, undef, undef, undef, undef, undef, undef, undef, undef, undef, undef, undef, undef, undef, undef, undef, undef, undef, undef, undef, undef, undef, undef, undef, undef, undef, undef, undef, undef, undef, undef, undef, undef, undef, undef, undef, undef, undef, undef, undef, undef, undef, undef, undef, undef, undef, undef, undef, undef, undef, undef, undef, undef, undef, undef, undef, undef, undef, undef, undef, undef, undef, undef, undef, undef, undef, undef, undef, undef, undef, undef, undef, undef, undef, undef, undef, undef, undef, undef, undef, undef, undef, undef, undef, undef, undef, undef, undef, undef, undef, undef], defers := [] } WX := by
    clear c0 c1 c2 c3 c4
    intro b17 b18 b19 b20 b21 b22 b23 b24 b25 b26 b27 b28 b29 q WX HX
    refine aK1 _ _ ?_
    have HY : Hid (∀ wx, Below WX.heap.size WX wx → wx.heap[q]? = some (.cells #[.int .u32 (l.hd : Int), .int .u64 (l.wt : Int), .int .u32 (l.lf : Int), .int .u32 (l.rt : Int)] 65) ∧ Below W0.heap.size W0 wx) := fun wx hx => ⟨(hx.block _ (some_lt HX.out.2.1)).trans HX.out.2.1, btrH' HX.out.1 hx⟩
    have HQZ : Hid (z + 1 < q) := HX.out.2.2
    clear HX
    go_wp2_with fail
    refine (E_calls 14 WX).mono ?_
    rintro e w1 ⟨rfl, hb1⟩
    have B1 : Hid (Below WX.heap.size WX w1) := hb1
    clear hb1
    go_wp2_with fail
    refine (refAt_calls 4 (i : Int) 14 w1).mono ?_
    rintro e w2 ⟨g, rfl, hg, hb2⟩
    have B2 : Hid (Below WX.heap.size WX w2) := btrH' B1.out hb2
    obtain ⟨s, hs⟩ : ∃ s, w2.heap.size = s := ⟨_, rfl⟩
    obtain ⟨W3, hW3⟩ : ∃ W3, w2.alloc (.cells #[.int .i64 14, .slice (some ⟨g, 0, none⟩) 1 1] 36) = W3 := ⟨_, rfl⟩
    have HW3 : Hid (w2.alloc (.cells #[.int .i64 14, .slice (some ⟨g, 0, none⟩) 1 1] 36) = W3) := hW3
    have B3 : Hid (Below WX.heap.size WX W3) := by show Below _ _ _; rw [← hW3]; exact B2.out.alloc B2.out.size _
    have HG : Hid (g ≠ z + 1) := fun e => by
      have := (HQ.out w2 (HY.out w2 B2.out).2).2.1
      rw [← e, hg] at this
      simp at this
    have HP : Hid (∀ wx, Below W3.heap.size W3 wx → HasPlaces wx (.slice (some ⟨g, 0, none⟩) 1 1) [(4, (i : Int))] ∧ wx.heap[s]? = some (.cells #[.int .i64 14, .slice (some ⟨g, 0, none⟩) 1 1] 36) ∧ Below WX.heap.size WX wx) := fun wx hx => by
      have e1 : W3.heap[g]? = some (.cells #[.int .i64 4, .int .i64 (i : Int)] 78) := by rw [← hW3]; exact (Below.heap_alloc _ _ _ (some_lt hg)).trans hg
      have e2 : W3.heap[s]? = some (.cells #[.int .i64 14, .slice (some ⟨g, 0, none⟩) 1 1] 36) := by rw [← hW3, ← hs]; exact heap_newW _ _
      exact ⟨pl_one ((hx.block _ (some_lt e1)).trans e1), (hx.block _ (some_lt e2)).trans e2, btrH' B3.out hx⟩
    clear hb2 hg hW3 B1 B2 B3
    go_upto_region 3 with fail
    rw [HW3.out]
    clear HW3
    obtain ⟨⟨k0, k1, k2, k3⟩, _⟩ := four_cells (HY.out W3 (HP.out W3 (Below.refl _ _)).2.2).1
    have kr := HRI.out W3 (HY.out W3 (HP.out W3 (Below.refl _ _)).2.2).2 i (by rw [HLN.out.1]; exact hi)
    have HW3 : Hid (Below W3.heap.size W3 W3) := Below.refl _ _
    go_wp2_with fail
    by_cases ga : h.node.length ≤ l.hd
    · have ia : decide ((l.hd : Int) ≥ (h.node.length : Int)) = true := by simp; omega
      have ib : decide (h.node.length ≤ l.hd) = true := by simpa using ga
      go_quiet (fail)
      have HW4 : Hid (Below W3.heap.size W3 (W3.drewN nq)) := bdrew HW3.out _
      generalize W3.drewN nq = W4 at *
      have eR : R = (14, [(4, (i : Int))]) := HLOW.out (.inr (.inr ga))
      obtain ⟨s0, s1, _, _⟩ := cell_two (HP.out W4 HW4.out).2.1
      obtain ⟨d0, d1, f0, f1⟩ := cell_two (HQ.out W4 (HY.out W4 (HP.out W4 HW4.out).2.2).2).2.1
      go_wp2
      obtain ⟨r1, r2⟩ := HEND.out W4 (HY.out W4 (HP.out W4 HW4.out).2.2).2 (14, [(4, (i : Int))]) (some ⟨g, 0, none⟩) 1 (HP.out W4 HW4.out).1 (fun a e => by cases e; exact HG.out)
      exact bodyPost_ret (lk_res r2 rfl) rfl (by rw [eR]; exact r1)
    have ia : decide ((l.hd : Int) ≥ (h.node.length : Int)) = false := by simp; omega
    have ib : decide (h.node.length ≤ l.hd) = false := by simpa using ga
    by_cases gb : l.hd ≤ (sd (stds h) i).rk
    · have ic : decide ((l.hd : Int) ≤ ((sd (stds h) i).rk : Int)) = true := by simp; omega
      have id : decide (l.hd ≤ (sd (stds h) i).rk) = true := by simpa using gb
      go_quiet (fail)
      have HW4 : Hid (Below W3.heap.size W3 (W3.drewN nq)) := bdrew HW3.out _
      generalize W3.drewN nq = W4 at *
      have eR : R = (14, [(4, (i : Int))]) := HLOW.out (.inr (.inl gb))
      obtain ⟨s0, s1, _, _⟩ := cell_two (HP.out W4 HW4.out).2.1
      obtain ⟨d0, d1, f0, f1⟩ := cell_two (HQ.out W4 (HY.out W4 (HP.out W4 HW4.out).2.2).2).2.1
      go_wp2
      obtain ⟨r1, r2⟩ := HEND.out W4 (HY.out W4 (HP.out W4 HW4.out).2.2).2 (14, [(4, (i : Int))]) (some ⟨g, 0, none⟩) 1 (HP.out W4 HW4.out).1 (fun a e => by cases e; exact HG.out)
      exact bodyPost_ret (lk_res r2 rfl) rfl (by rw [eR]; exact r1)
    have ic : decide ((l.hd : Int) ≤ ((sd (stds h) i).rk : Int)) = false := by simp; omega
    have id : decide (l.hd ≤ (sd (stds h) i).rk) = false := by simpa using gb
    go_quiet (fail)
    have HW4 : Hid (Below W3.heap.size W3 (W3.drewN nq)) := bdrew HW3.out _
    generalize W3.drewN nq = W4 at *
    clear k0 k1 k2 k3 kr
    obtain ⟨c0, c1, c2, c3, c4⟩ := (HQ.out W4 (HY.out W4 (HP.out W4 HW4.out).2.2).2).1
    obtain ⟨⟨k0, k1, k2, k3⟩, _⟩ := four_cells (HY.out W4 (HP.out W4 HW4.out).2.2).1
    have kr := HRI.out W4 (HY.out W4 (HP.out W4 HW4.out).2.2).2 i (by rw [HLN.out.1]; exact hi)
    go_wp2_with fail
    rename_i K5 aK5
    by_cases hrf : rising (stds h) i = false
    · clear c0 c1 c2 c3 c4 k0 k1 k2 k3 kr
      have KEY5T : ∀ (b17 b18 b19 b20 b21 b22 b23 b24 b25 b26 b27 b28 b29 b30 b31 b32 b33 b34 b35 b36 b37 b38 b39 b40 b41 b42 b43 b44 b45 b46 b47 b48 b49 b50 b51 b52 b53 b54 b55 b56 b57 b58 b59 b60 b61 b62 b63 b64 b65 b66 b67 b68 b69 b70 b71 b72 b73 b74 b75 b76 b77 b78 b79 : Value) (WY : World), Hid (Below W3.heap.size W3 WY) → K5 { tmps := #[(.agg #[.slice v.no h.node.length v.nc, .slice v.uo h.upF.length v.uc, .slice v.ul h.up.length v.ulc, .slice v.wo h.dnF.length v.wc, .slice v.dl h.dn.length v.dlc]), (.slice (some ⟨mb, 0, none⟩) n mc), (.int .i64 (i : Int)), (.pointer (some ⟨z, 0, none⟩)), undef, undef, (.pointer (some ⟨z + 1, 0, none⟩)), (.pointer (some ⟨q, 0, none⟩)), (.int .i64 (h.node.length : Int)), (.int .i64 ((h.up.length : Int) + (h.dn.length : Int))), (.pointer (some ⟨s, 0, none⟩)), undef, undef, undef, undef, undef, undef, b17, b18, b19, b20, b21, b22, b23, b24, b25, b26, b27, b28, b29, b30, b31, b32, b33, b34, b35, b36, b37, b38, b39, b40, b41, b42, b43, b44, b45, b46, b47, b48, b49, b50, b51, b52, b53, b54, b55, b56, b57, b58, b59, b60, b61, b62, b63, b64, b65, b66, b67, b68, b69, b70, b71, b72, b73, b74, b75, b76, b77, b78, b79, (.bool true), undef, undef, undef, undef, undef, undef, undef, undef, undef, undef, undef, undef, undef, undef, undef, undef, undef, undef, undef, undef, undef, undef, undef, undef, undef, undef, undef, undef, undef, undef, undef, undef, undef, undef, undef, undef, undef, undef, undef, undef, undef, undef, undef, undef, undef, undef, undef, undef, undef, undef, undef, undef, undef, undef, undef, undef, undef, undef, undef, undef, undef, undef, undef, undef, undef, undef, undef, undef, undef, undef, undef, undef, undef, undef, undef, undef, undef, undef, undef, undef, undef, undef, undef, undef, undef, undef, undef, undef, undef, undef, undef, undef, undef, undef, undef, undef, undef, undef, undef, undef, undef, undef, undef, undef, undef, undef, undef, undef, undef, undef, undef, undef, undef], defers := [] } WY := by
        intro b17 b18 b19 b20 b21 b22 b23 b24 b25 b26 b27 b28 b29 b30 b31 b32 b33 b34 b35 b36 b37 b38 b39 b40 b41 b42 b43 b44 b45 b46 b47 b48 b49 b50 b51 b52 b53 b54 b55 b56 b57 b58 b59 b60 b61 b62 b63 b64 b65 b66 b67 b68 b69 b70 b71 b72 b73 b74 b75 b76 b77 b78 b79 WY HWY
        refine aK5 _ _ ?_
        have eR : R = (14, [(4, (i : Int))]) := HLOW.out (.inl hrf)
        obtain ⟨s0, s1, _, _⟩ := cell_two (HP.out WY HWY.out).2.1
        obtain ⟨d0, d1, f0, f1⟩ := cell_two (HQ.out WY (HY.out WY (HP.out WY HWY.out).2.2).2).2.1
        go_wp2
        obtain ⟨r1, r2⟩ := HEND.out WY (HY.out WY (HP.out WY HWY.out).2.2).2 (14, [(4, (i : Int))]) (some ⟨g, 0, none⟩) 1 (HP.out WY HWY.out).1 (fun a e => by cases e; exact HG.out)
        exact bodyPost_ret (lk_res r2 rfl) rfl (by rw [eR]; exact r1)
      obtain ⟨t1, t2, t3, t4⟩ := HRS.out.mp hrf
      obtain ⟨c0, c1, c2, c3, c4⟩ := (HQ.out W4 (HY.out W4 (HP.out W4 HW4.out).2.2).2).1
      obtain ⟨⟨k0, k1, k2, k3⟩, _⟩ := four_cells (HY.out W4 (HP.out W4 HW4.out).2.2).1
      have kr := HRI.out W4 (HY.out W4 (HP.out W4 HW4.out).2.2).2 i (by rw [HLN.out.1]; exact hi)
      obtain ⟨m, hm⟩ : ∃ m, i = m + 1 := ⟨i - 1, by omega⟩
      have em : i - 1 = m := by omega
      have xm : IntKind.i64.wrap ((i : Int) - 1) = (m : Int) := by have := HLN.out.2; rw [IntKind.wrap_i64]; omega
      have j3 : (0 : Int) ≤ (m : Int) := by omega
      have j4 : (m : Int) < (n : Int) := by omega
      have j5 : m < n := by omega
      have HLM : Hid (∀ wx, Below W0.heap.size W0 wx → Calls Tryz.prog 27 #[(.agg #[.slice v.no h.node.length v.nc, .slice v.uo h.upF.length v.uc, .slice v.ul h.up.length v.ulc, .slice v.wo h.dnF.length v.wc, .slice v.dl h.dn.length v.dlc]), .int .i64 (m : Int)] wx fun e w' => e = .returned (.agg #[.int .u32 ((linkAt h m).hd : Int), .int .u64 ((linkAt h m).wt : Int), .int .u32 ((linkAt h m).lf : Int), .int .u32 ((linkAt h m).rt : Int)]) ∧ Below wx.heap.size wx w') := fun wx hx => HLK.out wx hx m (by rw [HLN.out.1]; exact j5)
      have hxf := field_hd ((linkAt h m).hd : Int) ((linkAt h m).wt : Int) ((linkAt h m).lf : Int) ((linkAt h m).rt : Int)
      have HEM : Hid (i - 1 = m) := em
      have HIM : Hid (i = m + 1) := hm
      clear em hm
      have km := HRI.out W4 (HY.out W4 (HP.out W4 HW4.out).2.2).2 m (by rw [HLN.out.1]; exact j5)
      rw [HEM.out] at t3 t4
      have u1 : ((i : Int) == 0) = false := by simp; omega
      have u2 : (i == 0) = false := by simpa using t1
      have u3 : ((i : Int) == (h.up.length : Int)) = false := by simp; omega
      have u4 : (i == h.up.length) = false := by simpa using t2
      have u5 : (((sd (stds h) m).rk : Int) == ((sd (stds h) i).rk : Int)) = true := by simp; omega
      have u6 : ((sd (stds h) m).rk == (sd (stds h) i).rk) = true := by simpa using t3
      have u7 : decide ((l.hd : Int) ≤ ((linkAt h m).hd : Int)) = true := by simp; omega
      have u8 : decide (l.hd ≤ (linkAt h m).hd) = true := by simpa using t4
      have v1 : ((i : Int) != 0) = true := by simp; omega
      have v2 : ((i : Int) != (h.up.length : Int)) = true := by simp; omega
      have v3 : (i != 0) = true := by simpa using t1
      have v4 : (i != h.up.length) = true := by simpa using t2
      clear t1 t2 t3 t4
      go_region_held3 (fun w' => w'.cell? ⟨z, 0, none⟩ = some (.slice v.no h.node.length v.nc) ∧ w'.cell? ⟨z, 1, none⟩ = some (.slice v.uo h.upF.length v.uc) ∧ w'.cell? ⟨z, 2, none⟩ = some (.slice v.ul h.up.length v.ulc) ∧ w'.cell? ⟨z, 3, none⟩ = some (.slice v.wo h.dnF.length v.wc) ∧ w'.cell? ⟨z, 4, none⟩ = some (.slice v.dl h.dn.length v.dlc) ∧ w'.cell? ⟨q, 0, none⟩ = some (.int .u32 (l.hd : Int)) ∧ w'.cell? ⟨mb, i, none⟩ = some (.int .i64 ((sd (stds h) i).rk : Int)) ∧ w'.cell? ⟨mb, m, none⟩ = some (.int .i64 ((sd (stds h) m).rk : Int))) (go_keep) (first | (go_at_call 27; refine (HLM.out _ (HY.out _ (HP.out _ (by first | exact HW4.out | exact HW4.out.drew | exact bdrew HW4.out _)).2.2).2).mono ?_; rintro e y5 ⟨rfl, hy⟩; have Y5 : Hid (Below W3.heap.size W3 y5) := btrH' (by first | exact HW4.out | exact HW4.out.drew | exact bdrew HW4.out _) hy; clear c0 c1 c2 c3 c4 k0 k1 k2 k3 kr km hy; obtain ⟨c0, c1, c2, c3, c4⟩ := (HQ.out y5 (HY.out y5 (HP.out y5 Y5.out).2.2).2).1; obtain ⟨⟨k0, k1, k2, k3⟩, _⟩ := four_cells (HY.out y5 (HP.out y5 Y5.out).2.2).1; have kr := HRI.out y5 (HY.out y5 (HP.out y5 Y5.out).2.2).2 i (by rw [HLN.out.1]; exact hi); have km := HRI.out y5 (HY.out y5 (HP.out y5 Y5.out).2.2).2 m (by rw [HLN.out.1]; omega)))
      all_goals exact KEY5T _ _ _ _ _ _ _ _ _ _ _ _ _ _ _ _ _ _ _ _ _ _ _ _ _ _ _ _ _ _ _ _ _ _ _ _ _ _ _ _ _ _ _ _ _ _ _ _ _ _ _ _ _ _ _ _ _ _ _ _ _ _ _ _ (by first | exact Y5.out | exact Y5.out.drew | exact bdrew Y5.out _ | exact HW4.out | exact HW4.out.drew | exact bdrew HW4.out _)
    · have KEY5 : ∀ (b17 b18 b19 b20 b21 b22 b23 b24 b25 b26 b27 b28 b29 b30 b31 b32 b33 b34 b35 b36 b37 b38 b39 b40 b41 b42 b43 b44 b45 b46 b47 b48 b49 b50 b51 b52 b53 b54 b55 b56 b57 b58 b59 b60 b61 b62 b63 b64 b65 b66 b67 b68 b69 b70 b71 b72 b73 b74 b75 b76 b77 b78 b79 : Value) (WY : World), Hid (Below W3.heap.size W3 WY) → K5 { tmps := #[(.agg #[.slice v.no h.node.length v.nc, .slice v.uo h.upF.length v.uc, .slice v.ul h.up.length v.ulc, .slice v.wo h.dnF.length v.wc, .slice v.dl h.dn.length v.dlc]), (.slice (some ⟨mb, 0, none⟩) n mc), (.int .i64 (i : Int)), (.pointer (some ⟨z, 0, none⟩)), undef, undef, (.pointer (some ⟨z + 1, 0, none⟩)), (.pointer (some ⟨q, 0, none⟩)), (.int .i64 (h.node.length : Int)), (.int .i64 ((h.up.length : Int) + (h.dn.length : Int))), (.pointer (some ⟨s, 0, none⟩)), undef, undef, undef, undef, undef, undef, b17, b18, b19, b20, b21, b22, b23, b24, b25, b26, b27, b28, b29, b30, b31, b32, b33, b34, b35, b36, b37, b38, b39, b40, b41, b42, b43, b44, b45, b46, b47, b48, b49, b50, b51, b52, b53, b54, b55, b56, b57, b58, b59, b60, b61, b62, b63, b64, b65, b66, b67, b68, b69, b70, b71, b72, b73, b74, b75, b76, b77, b78, b79, (.bool false), undef, undef, undef, undef, undef, undef, undef, undef, undef, undef, undef, undef, undef, undef, undef, undef, undef, undef, undef, undef, undef, undef, undef, undef, undef, undef, undef, undef, undef, undef, undef, undef, undef, undef, undef, undef, undef, undef, undef, undef, undef, undef, undef, undef, undef, undef, undef, undef, undef, undef, undef, undef, undef, undef, undef, undef, undef, undef, undef, undef, undef, undef, undef, undef, undef, undef, undef, undef, undef, undef, undef, undef, undef, undef, undef, undef, undef, undef, undef, undef, undef, undef, undef, undef, undef, undef, undef, undef, undef, undef, undef, undef, undef, undef, undef, undef, undef, undef, undef, undef, undef, undef, undef, undef, undef, undef, undef, undef, undef, undef, undef, undef, undef], defers := [] } WY := by
        clear c0 c1 c2 c3 c4 k0 k1 k2 k3 kr
        intro b17 b18 b19 b20 b21 b22 b23 b24 b25 b26 b27 b28 b29 b30 b31 b32 b33 b34 b35 b36 b37 b38 b39 b40 b41 b42 b43 b44 b45 b46 b47 b48 b49 b50 b51 b52 b53 b54 b55 b56 b57 b58 b59 b60 b61 b62 b63 b64 b65 b66 b67 b68 b69 b70 b71 b72 b73 b74 b75 b76 b77 b78 b79 WY HWY
        refine aK5 _ _ ?_
        go_wp2_with fail
        refine (E_calls 8 WY).mono ?_
        rintro e w5 ⟨rfl, hb⟩
        have B5 : Hid (Below W3.heap.size W3 w5) := btrH' HWY.out hb
        clear hb
        go_wp2_with fail
        refine (refAt_calls 4 (i : Int) 8 w5).mono ?_
        rintro e w6 ⟨g2, rfl, hg, hb⟩
        have B6 : Hid (Below W3.heap.size W3 w6) := btrH' B5.out hb
        obtain ⟨s2, hs2⟩ : ∃ s, w6.heap.size = s := ⟨_, rfl⟩
        obtain ⟨W7, hW7⟩ : ∃ W7, w6.alloc (.cells #[.int .i64 8, .slice (some ⟨g2, 0, none⟩) 1 1] 36) = W7 := ⟨_, rfl⟩
        have HW7 : Hid (w6.alloc (.cells #[.int .i64 8, .slice (some ⟨g2, 0, none⟩) 1 1] 36) = W7) := hW7
        have B7 : Hid (Below W3.heap.size W3 W7) := by show Below _ _ _; rw [← hW7]; exact B6.out.alloc B6.out.size _
        have HG2 : Hid (g2 ≠ z + 1) := fun e => by
          have := (HQ.out w6 (HY.out w6 (HP.out w6 B6.out).2.2).2).2.1
          rw [← e, hg] at this
          simp at this
        have HP7 : Hid (∀ wx, Below W7.heap.size W7 wx → HasPlaces wx (.slice (some ⟨g2, 0, none⟩) 1 1) [(4, (i : Int))] ∧ wx.heap[s2]? = some (.cells #[.int .i64 8, .slice (some ⟨g2, 0, none⟩) 1 1] 36) ∧ Below W3.heap.size W3 wx) := fun wx hx => by
          have e1 : W7.heap[g2]? = some (.cells #[.int .i64 4, .int .i64 (i : Int)] 78) := by rw [← hW7]; exact (Below.heap_alloc _ _ _ (some_lt hg)).trans hg
          have e2 : W7.heap[s2]? = some (.cells #[.int .i64 8, .slice (some ⟨g2, 0, none⟩) 1 1] 36) := by rw [← hW7, ← hs2]; exact heap_newW _ _
          exact ⟨pl_one ((hx.block _ (some_lt e1)).trans e1), (hx.block _ (some_lt e2)).trans e2, btrH' B7.out hx⟩
        have HPL : Hid (Calls Tryz.prog 26 #[.agg #[.int .u32 (l.hd : Int), .int .u64 (l.wt : Int), .int .u32 (l.lf : Int), .int .u32 (l.rt : Int)]] W7 fun e w' => e = .returned (.bool l.plain) ∧ Below W7.heap.size W7 w') := by
          have := tplain_calls l W7
          unfold lvl at this
          exact this
        clear hb hg hW7 B5 B6
        go_upto_region 8 with fail
        rw [HW7.out]
        clear HW7
        obtain ⟨⟨k0, k1, k2, k3⟩, _⟩ := four_cells (HY.out W7 (HP.out W7 B7.out).2.2).1
        go_wp2_with fail
        refine HPL.out.mono ?_
        rintro e w8 ⟨rfl, hb⟩
        have B8 : Hid (Below W7.heap.size W7 w8) := hb
        have Hw8 : Hid (Below W3.heap.size W3 w8) := (HP7.out w8 hb).2.2
        clear hb k0 k1 k2 k3
        obtain ⟨⟨k0, k1, k2, k3⟩, _⟩ := four_cells (HY.out w8 (HP.out w8 Hw8.out).2.2).1
        obtain ⟨c0, c1, c2, c3, c4⟩ := (HQ.out w8 (HY.out w8 (HP.out w8 Hw8.out).2.2).2).1
        have HM := HMK.out (fun o => o.elim hrf (fun o => o.elim gb ga))
        have HHM : Hid (R = if making (sd (stds h) i) (stds h) = 0 then (0, []) else (making (sd (stds h) i) (stds h), [(4, (i : Int))])) := HM
        clear HM
        cases hp : l.plain with
        | true =>
          by_cases hw : 2147483647 < l.wt
          · have a1 : decide ((l.wt : Int) > 2147483647) = true := by simp; omega
            have a2 : decide (2147483647 < l.wt) = true := by simpa using hw
            have eR : R = (8, [(4, (i : Int))]) := by rw [HHM.out]; unfold making; rw [← HLK1.out, if_pos hp, if_pos hw]; rfl
            obtain ⟨s0, s1, _, _⟩ := cell_two (HP7.out w8 B8.out).2.1
            obtain ⟨d0, d1, f0, f1⟩ := cell_two (HQ.out w8 (HY.out w8 (HP.out w8 Hw8.out).2.2).2).2.1
            go_wp2
            obtain ⟨r1, r2⟩ := HEND.out w8 (HY.out w8 (HP.out w8 Hw8.out).2.2).2 (8, [(4, (i : Int))]) (some ⟨g2, 0, none⟩) 1 (HP7.out w8 B8.out).1 (fun a e => by cases e; exact HG2.out)
            exact bodyPost_ret (lk_res r2 rfl) rfl (by rw [eR]; exact r1)
          · have a1 : decide ((l.wt : Int) > 2147483647) = false := by simp; omega
            have a2 : decide (2147483647 < l.wt) = false := by simpa using hw
            have eR : R = (0, []) := by rw [HHM.out]; unfold making; rw [← HLK1.out, if_pos hp, if_neg hw]; rfl
            obtain ⟨s0, s1, _, _⟩ := cell_two (HP7.out w8 B8.out).2.1
            obtain ⟨d0, d1, f0, f1⟩ := cell_two (HQ.out w8 (HY.out w8 (HP.out w8 Hw8.out).2.2).2).2.1
            go_wp2
            obtain ⟨r1, r2⟩ := HEND.out w8 (HY.out w8 (HP.out w8 Hw8.out).2.2).2 (0, []) none 0 (pl_nil _) (fun a e => by cases e)
            exact bodyPost_ret (lk_res r2 rfl) rfl (by rw [eR]; exact r1)
        | false =>
          have y1 : IntKind.u64.wrap (l.lf : Int) = (l.lf : Int) := by rw [IntKind.wrap_u64]; have := HOK.out.2.2.1; omega
          have y2 : IntKind.u64.wrap (l.rt : Int) = (l.rt : Int) := by rw [IntKind.wrap_u64]; have := HOK.out.2.2.2; omega
          have y3 : IntKind.u64.wrap ((h.up.length : Int) + (h.dn.length : Int)) = (h.up.length : Int) + (h.dn.length : Int) := by rw [IntKind.wrap_u64]; omega
          have y4 : IntKind.i64.wrap (l.lf : Int) = (l.lf : Int) := by rw [IntKind.wrap_i64]; have := HOK.out.2.2.1; omega
          have y5 : IntKind.i64.wrap (l.rt : Int) = (l.rt : Int) := by rw [IntKind.wrap_i64]; have := HOK.out.2.2.2; omega
          by_cases p1 : h.up.length + h.dn.length ≤ l.lf
          · have a1 : decide ((l.lf : Int) ≥ (h.up.length : Int) + (h.dn.length : Int)) = true := by simp; omega
            have a2 : decide ((h.up.length : Int) + (h.dn.length : Int) ≤ (l.lf : Int)) = true := by simp; omega
            have eR : R = (14, [(4, (i : Int))]) := by rw [HHM.out, mk_a (s := sd (stds h) i) (all := stds h) (by rw [← HLK1.out]; exact hp) (Or.inl (by rw [← HLK1.out, HLN.out.1, HLN.out.2]; exact p1))]; rfl
            obtain ⟨s0, s1, _, _⟩ := cell_two (HP.out w8 Hw8.out).2.1
            obtain ⟨d0, d1, f0, f1⟩ := cell_two (HQ.out w8 (HY.out w8 (HP.out w8 Hw8.out).2.2).2).2.1
            go_wp2
            obtain ⟨r1, r2⟩ := HEND.out w8 (HY.out w8 (HP.out w8 Hw8.out).2.2).2 (14, [(4, (i : Int))]) (some ⟨g, 0, none⟩) 1 (HP.out w8 Hw8.out).1 (fun a e => by cases e; exact HG.out)
            exact bodyPost_ret (lk_res r2 rfl) rfl (by rw [eR]; exact r1)
          have a1 : decide ((l.lf : Int) ≥ (h.up.length : Int) + (h.dn.length : Int)) = false := by simp; omega
          have a2 : decide ((h.up.length : Int) + (h.dn.length : Int) ≤ (l.lf : Int)) = false := by simp; omega
          by_cases p2 : h.up.length + h.dn.length ≤ l.rt
          · have a3 : decide ((l.rt : Int) ≥ (h.up.length : Int) + (h.dn.length : Int)) = true := by simp; omega
            have a4 : decide ((h.up.length : Int) + (h.dn.length : Int) ≤ (l.rt : Int)) = true := by simp; omega
            have eR : R = (14, [(4, (i : Int))]) := by rw [HHM.out, mk_a (s := sd (stds h) i) (all := stds h) (by rw [← HLK1.out]; exact hp) (Or.inr (by rw [← HLK1.out, HLN.out.1, HLN.out.2]; exact p2))]; rfl
            obtain ⟨s0, s1, _, _⟩ := cell_two (HP.out w8 Hw8.out).2.1
            obtain ⟨d0, d1, f0, f1⟩ := cell_two (HQ.out w8 (HY.out w8 (HP.out w8 Hw8.out).2.2).2).2.1
            go_wp2
            obtain ⟨r1, r2⟩ := HEND.out w8 (HY.out w8 (HP.out w8 Hw8.out).2.2).2 (14, [(4, (i : Int))]) (some ⟨g, 0, none⟩) 1 (HP.out w8 Hw8.out).1 (fun a e => by cases e; exact HG.out)
            exact bodyPost_ret (lk_res r2 rfl) rfl (by rw [eR]; exact r1)
          have a3 : decide ((l.rt : Int) ≥ (h.up.length : Int) + (h.dn.length : Int)) = false := by simp; omega
          have a4 : decide ((h.up.length : Int) + (h.dn.length : Int) ≤ (l.rt : Int)) = false := by simp; omega
          have HU1 : Hid ((sd (stds h) l.lf).up = decide (l.lf < h.up.length)) := sd_up hu hd (by rw [HLN.out.1, HLN.out.2]; omega)
          have HU2 : Hid ((sd (stds h) l.rt).up = decide (l.rt < h.up.length)) := sd_up hu hd (by rw [HLN.out.1, HLN.out.2]; omega)
          have HNL : Hid (¬((stds h).length ≤ l.lf ∨ (stds h).length ≤ l.rt)) := by show ¬ _; rw [HLN.out.1, HLN.out.2]; omega
          by_cases p3 : l.lf < h.up.length
          · have a5 : decide ((l.lf : Int) < (h.up.length : Int)) = true := by simp; omega
            have a6 : decide (l.lf < h.up.length) = true := by simpa using p3
            have eR : R = (14, [(4, (i : Int))]) := by rw [HHM.out, mk_b (s := sd (stds h) i) (all := stds h) (by rw [← HLK1.out]; exact hp) (by rw [← HLK1.out]; exact HNL.out) (Or.inl (by rw [← HLK1.out, HU1.out]; exact a6))]; rfl
            obtain ⟨s0, s1, _, _⟩ := cell_two (HP.out w8 Hw8.out).2.1
            obtain ⟨d0, d1, f0, f1⟩ := cell_two (HQ.out w8 (HY.out w8 (HP.out w8 Hw8.out).2.2).2).2.1
            go_wp2
            obtain ⟨r1, r2⟩ := HEND.out w8 (HY.out w8 (HP.out w8 Hw8.out).2.2).2 (14, [(4, (i : Int))]) (some ⟨g, 0, none⟩) 1 (HP.out w8 Hw8.out).1 (fun a e => by cases e; exact HG.out)
            exact bodyPost_ret (lk_res r2 rfl) rfl (by rw [eR]; exact r1)
          have a5 : decide ((l.lf : Int) < (h.up.length : Int)) = false := by simp; omega
          have a6 : decide (l.lf < h.up.length) = false := by simpa using p3
          by_cases p4 : h.up.length ≤ l.rt
          · have a7 : decide ((l.rt : Int) ≥ (h.up.length : Int)) = true := by simp; omega
            have a8 : decide (h.up.length ≤ l.rt) = true := by simpa using p4
            have eR : R = (14, [(4, (i : Int))]) := by rw [HHM.out, mk_b (s := sd (stds h) i) (all := stds h) (by rw [← HLK1.out]; exact hp) (by rw [← HLK1.out]; exact HNL.out) (Or.inr (by rw [← HLK1.out, HU2.out]; exact decide_eq_false (by omega)))]; rfl
            obtain ⟨s0, s1, _, _⟩ := cell_two (HP.out w8 Hw8.out).2.1
            obtain ⟨d0, d1, f0, f1⟩ := cell_two (HQ.out w8 (HY.out w8 (HP.out w8 Hw8.out).2.2).2).2.1
            go_wp2
            obtain ⟨r1, r2⟩ := HEND.out w8 (HY.out w8 (HP.out w8 Hw8.out).2.2).2 (14, [(4, (i : Int))]) (some ⟨g, 0, none⟩) 1 (HP.out w8 Hw8.out).1 (fun a e => by cases e; exact HG.out)
            exact bodyPost_ret (lk_res r2 rfl) rfl (by rw [eR]; exact r1)
          have a7 : decide ((l.rt : Int) ≥ (h.up.length : Int)) = false := by simp; omega
          have a8 : decide (h.up.length ≤ l.rt) = false := by simpa using p4
          exfalso
          rcases HSH.out with (o | o | o) | o | o | o | o | o
          · exact hrf o
          · exact gb o
          · exact ga o
          · rw [hp] at o; exact Bool.false_ne_true o
          · exact HNL.out (.inl o)
          · exact HNL.out (.inr o)
          · exact p3 o
          · exact p4 o
      by_cases t1 : i = 0
      · have v1 : ((i : Int) != 0) = false := by simp; omega
        have HT1 : Hid (i = 0) := t1
        clear t1
        go_quiet (fail)
        all_goals exact KEY5 _ _ _ _ _ _ _ _ _ _ _ _ _ _ _ _ _ _ _ _ _ _ _ _ _ _ _ _ _ _ _ _ _ _ _ _ _ _ _ _ _ _ _ _ _ _ _ _ _ _ _ _ _ _ _ _ _ _ _ _ _ _ _ _ (by first | exact HW4.out | exact HW4.out.drew | exact bdrew HW4.out _)
      have u1 : ((i : Int) == 0) = false := by simp; omega
      have v1 : ((i : Int) != 0) = true := by simp; omega
      by_cases t2 : i = h.up.length
      · have v3 : ((i : Int) != (h.up.length : Int)) = false := by simp; omega
        have HT2 : Hid (i = h.up.length) := t2
        clear t2
        go_quiet (fail)
        all_goals exact KEY5 _ _ _ _ _ _ _ _ _ _ _ _ _ _ _ _ _ _ _ _ _ _ _ _ _ _ _ _ _ _ _ _ _ _ _ _ _ _ _ _ _ _ _ _ _ _ _ _ _ _ _ _ _ _ _ _ _ _ _ _ _ _ _ _ (by first | exact HW4.out | exact HW4.out.drew | exact bdrew HW4.out _)
      have u3 : ((i : Int) == (h.up.length : Int)) = false := by simp; omega
      have v3 : ((i : Int) != (h.up.length : Int)) = true := by simp; omega
      obtain ⟨m, hm⟩ : ∃ m, i = m + 1 := ⟨i - 1, by omega⟩
      have em : i - 1 = m := by omega
      have xm : IntKind.i64.wrap ((i : Int) - 1) = (m : Int) := by have := HLN.out.2; rw [IntKind.wrap_i64]; omega
      have j3 : (0 : Int) ≤ (m : Int) := by omega
      have j4 : (m : Int) < (n : Int) := by omega
      have j5 : m < n := by omega
      have HLM : Hid (∀ wx, Below W0.heap.size W0 wx → Calls Tryz.prog 27 #[(.agg #[.slice v.no h.node.length v.nc, .slice v.uo h.upF.length v.uc, .slice v.ul h.up.length v.ulc, .slice v.wo h.dnF.length v.wc, .slice v.dl h.dn.length v.dlc]), .int .i64 (m : Int)] wx fun e w' => e = .returned (.agg #[.int .u32 ((linkAt h m).hd : Int), .int .u64 ((linkAt h m).wt : Int), .int .u32 ((linkAt h m).lf : Int), .int .u32 ((linkAt h m).rt : Int)]) ∧ Below wx.heap.size wx w') := fun wx hx => HLK.out wx hx m (by rw [HLN.out.1]; exact j5)
      have hxf := field_hd ((linkAt h m).hd : Int) ((linkAt h m).wt : Int) ((linkAt h m).lf : Int) ((linkAt h m).rt : Int)
      have HEM : Hid (i - 1 = m) := em
      have HIM : Hid (i = m + 1) := hm
      clear em hm
      have km := HRI.out W4 (HY.out W4 (HP.out W4 HW4.out).2.2).2 m (by rw [HLN.out.1]; exact j5)
      by_cases t3 : (sd (stds h) m).rk = (sd (stds h) i).rk
      · have t4 : (linkAt h m).hd < l.hd := by
          rcases Nat.lt_or_ge (linkAt h m).hd l.hd with g' | g'
          · exact g'
          · exact absurd (HRS.out.mpr ⟨t1, t2, by rw [HEM.out]; exact t3, by rw [HEM.out]; exact g'⟩) hrf
        have u5 : (((sd (stds h) m).rk : Int) == ((sd (stds h) i).rk : Int)) = true := by simp; omega
        have u7 : decide ((l.hd : Int) ≤ ((linkAt h m).hd : Int)) = false := by simp; omega
        have u8 : decide (l.hd ≤ (linkAt h m).hd) = false := by simp; omega
        clear t1 t2 t3 t4
        go_region_held3 (fun w' => w'.cell? ⟨z, 0, none⟩ = some (.slice v.no h.node.length v.nc) ∧ w'.cell? ⟨z, 1, none⟩ = some (.slice v.uo h.upF.length v.uc) ∧ w'.cell? ⟨z, 2, none⟩ = some (.slice v.ul h.up.length v.ulc) ∧ w'.cell? ⟨z, 3, none⟩ = some (.slice v.wo h.dnF.length v.wc) ∧ w'.cell? ⟨z, 4, none⟩ = some (.slice v.dl h.dn.length v.dlc) ∧ w'.cell? ⟨q, 0, none⟩ = some (.int .u32 (l.hd : Int)) ∧ w'.cell? ⟨mb, i, none⟩ = some (.int .i64 ((sd (stds h) i).rk : Int)) ∧ w'.cell? ⟨mb, m, none⟩ = some (.int .i64 ((sd (stds h) m).rk : Int))) (go_keep) (first | (go_at_call 27; refine (HLM.out _ (HY.out _ (HP.out _ (by first | exact HW4.out | exact HW4.out.drew | exact bdrew HW4.out _)).2.2).2).mono ?_; rintro e y5 ⟨rfl, hy⟩; have Y5 : Hid (Below W3.heap.size W3 y5) := btrH' (by first | exact HW4.out | exact HW4.out.drew | exact bdrew HW4.out _) hy; clear c0 c1 c2 c3 c4 k0 k1 k2 k3 kr km hy; obtain ⟨c0, c1, c2, c3, c4⟩ := (HQ.out y5 (HY.out y5 (HP.out y5 Y5.out).2.2).2).1; obtain ⟨⟨k0, k1, k2, k3⟩, _⟩ := four_cells (HY.out y5 (HP.out y5 Y5.out).2.2).1; have kr := HRI.out y5 (HY.out y5 (HP.out y5 Y5.out).2.2).2 i (by rw [HLN.out.1]; exact hi); have km := HRI.out y5 (HY.out y5 (HP.out y5 Y5.out).2.2).2 m (by rw [HLN.out.1]; omega)))
        all_goals exact KEY5 _ _ _ _ _ _ _ _ _ _ _ _ _ _ _ _ _ _ _ _ _ _ _ _ _ _ _ _ _ _ _ _ _ _ _ _ _ _ _ _ _ _ _ _ _ _ _ _ _ _ _ _ _ _ _ _ _ _ _ _ _ _ _ _ (by first | exact Y5.out | exact Y5.out.drew | exact bdrew Y5.out _ | exact HW4.out | exact HW4.out.drew | exact bdrew HW4.out _)
      · have u5 : (((sd (stds h) m).rk : Int) == ((sd (stds h) i).rk : Int)) = false := by simp; omega
        clear t1 t2 t3
        go_quiet (fail)
        all_goals exact KEY5 _ _ _ _ _ _ _ _ _ _ _ _ _ _ _ _ _ _ _ _ _ _ _ _ _ _ _ _ _ _ _ _ _ _ _ _ _ _ _ _ _ _ _ _ _ _ _ _ _ _ _ _ _ _ _ _ _ _ _ _ _ _ _ _ (by first | exact HW4.out | exact HW4.out.drew | exact bdrew HW4.out _)
  go_region_held3 (fun w' => w'.cell? ⟨z, 0, none⟩ = some (.slice v.no h.node.length v.nc) ∧ w'.cell? ⟨z, 1, none⟩ = some (.slice v.uo h.upF.length v.uc) ∧ w'.cell? ⟨z, 2, none⟩ = some (.slice v.ul h.up.length v.ulc) ∧ w'.cell? ⟨z, 3, none⟩ = some (.slice v.wo h.dnF.length v.wc) ∧ w'.cell? ⟨z, 4, none⟩ = some (.slice v.dl h.dn.length v.dlc)) (go_keep) (first
    | (go_at_call 27; refine (HLI.out _ (by first | exact Below.refl _ _ | exact (Below.refl _ _).alloc (Nat.le_refl _) _ | exact bdrew (Below.refl _ _) _ | exact (bdrew (Below.refl _ _) _).alloc (Nat.le_refl _) _ | exact (Below.refl _ _).drew)).mono ?_; rintro e y1 ⟨rfl, hy⟩; have Y1 : Hid (Below W0.heap.size W0 y1) := (by first | exact hy | exact belA hy | exact belD hy | exact belAD hy); (first | (have Z : Hid (y1.heap[W0.heap.size]? = some (.cells #[.int .u32 0, .int .u64 0, .int .u32 0, .int .u32 0] 65)) := (hy.block _ (some_lt (heap_newW _ (.cells #[.int .u32 0, .int .u64 0, .int .u32 0, .int .u32 0] 65)))).trans (heap_newW _ (.cells #[.int .u32 0, .int .u64 0, .int .u32 0, .int .u32 0] 65)); obtain ⟨⟨z0, z1, z2, z3⟩, f0, f1, f2, f3⟩ := four_cells Z.out) | skip); have n1 : z ≠ y1.heap.size := (by have := HS0.out; have := Y1.out.size; omega); have p1 : y1.heap.size ≠ z := n1.symm; clear c0 c1 c2 c3 c4; obtain ⟨c0, c1, c2, c3, c4⟩ := (HQ.out y1 Y1.out).1; clear hy))
  · exact KEY1 _ _ _ _ _ _ _ _ _ _ _ _ _ y1.heap.size _ ⟨Y1.out.alloc Y1.out.size _, heap_newW _ _, Nat.lt_of_lt_of_le HS0.out Y1.out.size⟩
  · exact KEY1 _ _ _ _ _ _ _ _ _ _ _ _ _ W0.heap.size _ ⟨(((Y1.out.setCell (p := ⟨W0.heap.size, 0, none⟩) (Nat.le_refl _) _).setCell (p := ⟨W0.heap.size, 1, none⟩) (Nat.le_refl _) _).setCell (p := ⟨W0.heap.size, 2, none⟩) (Nat.le_refl _) _).setCell (p := ⟨W0.heap.size, 3, none⟩) (Nat.le_refl _) _, set_four Z.out _ _ _ _, HS0.out⟩
end Go.Proofs.YtodilocmfdeehaaGreatDoor.Hi
