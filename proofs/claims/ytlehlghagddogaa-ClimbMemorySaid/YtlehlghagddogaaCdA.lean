/- viaductref20.Dists at a hierarchy in form. (gencd.py) -/
import Derived.Test.YtlehlghagddogaaCbY
namespace Go.Proofs.Ytlehlghagddogaa.Cb
open Go.RowKit Go.Extern Go.Shelf Hi

attribute [local go_sem] Oper.semAt_some

theorem infoU20 : (Try.prog.info? 36).map (fun i => (i.zero, i.size, i.bytes)) = some (some (.int .u64 0), 1, 8) := by kernel_rfl
theorem four_c20 {w : World} {b : Nat} {T : TypeId} {a0 a1 a2 a3 : Value} (h : w.heap[b]? = some (.cells #[a0, a1, a2, a3] T)) : w.cell? ⟨b, 0, none⟩ = some a0 ∧ w.cell? ⟨b, 1, none⟩ = some a1 ∧ w.cell? ⟨b, 2, none⟩ = some a2 ∧ w.cell? ⟨b, 3, none⟩ = some a3 := by simp [World.cell?, h]

set_option maxRecDepth 100000 in
set_option maxHeartbeats 8000000 in
theorem dists_aux (no uo ul wo dl : Option Addr) (nc uc ulc wc dlc : Nat) (h : Hr) (s : Nat) (w : World) (hH : HasH w ⟨no, uo, ul, wo, dl, nc, uc, ulc, wc, dlc⟩ h) (hc : chk h = (0, [])) (hs : s < h.node.length) :
    Calls Try.prog 36 #[hvl ⟨no, uo, ul, wo, dl, nc, uc, ulc, wc, dlc⟩ h, .int .i64 (s : Int)] w fun e w' => ∃ D, e = .returned (.slice (some ⟨D, 0, none⟩) h.node.length h.node.length) ∧ RAt u64v w' D h.node.length (dv (lens (rowL h.upF h.up) h.node.length s)) ∧ w.heap.size ≤ D ∧ Below w.heap.size w w' := by
  obtain ⟨k1, k2, k3, k4, k5, k6, k7, k8⟩ := chk_ok hc
  have HK : Hid (FOk h.upF h.up.length ∧ h.upF.length = h.node.length + 1) := ⟨k5, k3⟩
  have HROW : Hid (∀ r, r < h.node.length → ∀ l ∈ rowL h.upF h.up r, r < l.hd ∧ l.hd < h.node.length ∧ l.wt ≤ 140737488355328) := fun r hr l hl => row_form hc hr (Or.inl hl)
  obtain ⟨z, hz⟩ : ∃ z, w.heap.size = z := ⟨_, rfl⟩
  obtain ⟨W0, hW0⟩ : ∃ W0, w.alloc (.cells (cellsH ⟨no, uo, ul, wo, dl, nc, uc, ulc, wc, dlc⟩ h) 25) = W0 := ⟨_, rfl⟩
  have HQ : Hid (∀ wx, Below W0.heap.size W0 wx → (wx.cell? ⟨z, 0, none⟩ = some (.slice no h.node.length nc) ∧ wx.cell? ⟨z, 1, none⟩ = some (.slice uo h.upF.length uc) ∧ wx.cell? ⟨z, 2, none⟩ = some (.slice ul h.up.length ulc) ∧ wx.cell? ⟨z, 3, none⟩ = some (.slice wo h.dnF.length wc) ∧ wx.cell? ⟨z, 4, none⟩ = some (.slice dl h.dn.length dlc)) ∧ HasH wx ⟨no, uo, ul, wo, dl, nc, uc, ulc, wc, dlc⟩ h ∧ Below w.heap.size w wx) := fun wx hx => by
    have h1 : W0.heap[z]? = some (.cells (cellsH ⟨no, uo, ul, wo, dl, nc, uc, ulc, wc, dlc⟩ h) 25) := by rw [← hW0, ← hz]; exact heap_newW _ _
    have h2 : Below w.heap.size w W0 := by rw [← hW0]; exact (Below.refl _ _).alloc (Nat.le_refl _) _
    have h3 := btrH' h2 hx
    exact ⟨five_cells ((hx.block _ (some_lt h1)).trans h1), hH.keep h3, h3⟩
  have HW0 : Hid (w.alloc (.cells (cellsH ⟨no, uo, ul, wo, dl, nc, uc, ulc, wc, dlc⟩ h) 25) = W0) := hW0
  clear hW0 hH hc k3 k4 k5 k6 k7 k8
  unfold hvl
  unfold cellsH at HW0
  simp only at HW0 ⊢
  have hmk := run_make_row' (P := Try.prog) 80 36 (.int .u64 0) 8 Try.underlying80 infoU20 rfl .i64 .i64 h.node.length (by omega) (by omega)
  obtain ⟨D, hD⟩ : ∃ s, W0.heap.size = s := ⟨_, rfl⟩
  obtain ⟨W7, hW7⟩ : ∃ W7, W0.alloc (.cells (madeCells #[.int .u64 0] h.node.length) 36) = W7 := ⟨_, rfl⟩
  have HW7 : Hid (W0.alloc (.cells (madeCells #[.int .u64 0] h.node.length) 36) = W7) := hW7
  have H7 : Hid (RAt u64v W7 D h.node.length (fun j => if j < 0 then far else 0) ∧ Below W0.heap.size W0 W7) := by
    rw [← hW7, ← hD]
    exact ⟨(made_at u64v (0 : Int) 36 W0 h.node.length).eq (fun j _ => by simp), (Below.refl _ _).alloc (Nat.le_refl _) _⟩
  have HDW : Hid (W0.heap.size ≤ D ∧ w.heap.size ≤ D) := by
    have := (HQ.out W0 (Below.refl _ _)).2.2.size
    rw [← hD]; exact ⟨Nat.le_refl _, this⟩
  obtain ⟨c0, c1, c2, c3, c4⟩ := (HQ.out W0 (Below.refl _ _)).1
  clear hW7
  go_enter Try.func36, Try.ntmps36
  go_upto_region 1 with fail
  rw [HW0.out]
  clear HW0 hz
  go_upto_region 2 with fail
  rw [HW7.out]
  clear HW7 hmk hD c0 c1 c2 c3 c4
  go_wp2_with fail
  go_loopw [16] (fun iv wr => ∃ k : Nat, k ≤ h.node.length ∧ iv = .int .i64 k ∧ Hid (RAt u64v wr D h.node.length (fun j => if j < k then far else 0)) ∧ Hid (Below W0.heap.size W0 wr)) (fun iv _ => h.node.length - (intOf iv).toNat)
  case atStart => exact ⟨0, Nat.zero_le _, rfl, H7.out.1, H7.out.2⟩
  case round =>
    obtain ⟨k, hk, rfl, HD1, HBW⟩ := hrel
    rcases Nat.lt_or_eq_of_le hk with h1 | h1
    · have ck := HD1.out.cell k h1
      have fk := HD1.out.free k
      have i2 : (0 : Int) ≤ (k : Int) := by omega
      have i3 : (k : Int) < (h.node.length : Int) := by omega
      have q6 : decide ((k : Int) < (h.node.length : Int)) = true := by simp; omega
      have q6n : decide (k < h.node.length) = true := by simp; omega
      have HN1 : Hid (RAt u64v (wr.setCell ⟨D, k, none⟩ (.int .u64 18446744073709551615)) D h.node.length (fun j => if j < k + 1 then far else 0) ∧ Below W0.heap.size W0 (wr.setCell ⟨D, k, none⟩ (.int .u64 18446744073709551615))) := ⟨(HD1.out.set far h1).eq (fun j _ => by unfold upd; by_cases e : j = k <;> by_cases g : j < k <;> simp [e, g] <;> omega), HBW.out.setCell (p := ⟨D, k, none⟩) HDW.out.1 _⟩
      go_wp2
      go_roundw
      case rel => exact ⟨k + 1, by omega, by go_num, HN1.out.1, HN1.out.2⟩
      case measure => simp [intOf]; omega
    · have q6 : decide ((k : Int) < (h.node.length : Int)) = false := by simp; omega
      have q6n : decide (k < h.node.length) = false := by simp; omega
      have HD2 : Hid (RAt u64v wr D h.node.length (fun _ => far)) := HD1.out.eq (fun j hj => by rw [h1, if_pos hj])
      have cs := HD2.out.cell s hs
      have fs := HD2.out.free s
      have i2 : (0 : Int) ≤ (s : Int) := by omega
      have i3 : (s : Int) < (h.node.length : Int) := by omega
      have cs' : wr.cell? ⟨D, s, none⟩ = some (.int .u64 18446744073709551615) := cs
      have HS0 : Hid (RAt u64v (wr.setCell ⟨D, s, none⟩ (.int .u64 0)) D h.node.length (dv (start h.node.length s)) ∧ Below W0.heap.size W0 (wr.setCell ⟨D, s, none⟩ (.int .u64 0))) := ⟨(HD2.out.set (0 : Int) hs).eq (fun j _ => (dv_start hs j).symm), HBW.out.setCell (p := ⟨D, s, none⟩) HDW.out.1 _⟩
      clear HD1 h1 hk cs HD2
      go_wp2_with fail
      go_loopw [28] (fun iv wr => ∃ (r : Nat) (vs : List (Option Int)), r ≤ h.node.length ∧ iv = .int .i64 r ∧ Hid (Mid (rowL h.upF h.up) h.node.length s r vs) ∧ Hid (RAt u64v wr D h.node.length (dv vs)) ∧ Hid (Below W0.heap.size W0 wr)) (fun iv _ => h.node.length - (intOf iv).toNat)
      case atStart => exact ⟨0, start h.node.length s, Nat.zero_le _, rfl, mid_start _ _ _, HS0.out.1, HS0.out.2⟩
      case round =>
        obtain ⟨r, vs, hr, rfl, HM, HD5, HB5⟩ := hrel
        rcases Nat.lt_or_eq_of_le hr with h1 | h1
        · generalize hWW3 : wr = WR at *
          clear hWW3
          have i2 : (0 : Int) ≤ (r : Int) := by omega
          have i3n : (r : Int) < (h.node.length : Int) := by omega
          have q6 : decide ((r : Int) < (h.node.length : Int)) = true := by simp; omega
          have q6n : decide (r < h.node.length) = true := by simp; omega
          rcases dv_range HM.out.len h1 with ⟨d, hd⟩ | hnone
          · have hd0 := low_some HM.out.low HM.out.len k1 hd
            have cdr := HD5.out.cell r h1
            rw [dv_some hd] at cdr
            have cdr' : WR.cell? ⟨D, r, none⟩ = some (.int .u64 d) := cdr
            have n1 : (d == 18446744073709551615) = false := by simp; omega
            have HHD : Hid (vs[r]? = some (some d)) := hd
            clear cdr hd
            obtain ⟨c0, c1, c2, c3, c4⟩ := (HQ.out WR HB5.out).1
            have hF := (HQ.out WR HB5.out).2.1.upF
            have hU := (HQ.out WR HB5.out).2.1.up
            obtain ⟨fb, foff, e1, hbl, hcF⟩ := hF.cells (by rw [HK.out.2]; omega)
            have ca := hcF r (by rw [HK.out.2]; omega)
            have cb := hcF (r + 1) (by rw [HK.out.2]; omega)
            have hxy := HK.out.1.le r (by rw [HK.out.2]; omega)
            have hyL := HK.out.1.atmost (a := r + 1) (by rw [HK.out.2]; omega)
            have hcap : h.up.length ≤ ulc := hU.cap
            obtain ⟨so2, hso, hcut⟩ := cut_lks ul h.up.length ulc (nth h.upF r) (nth h.upF (r + 1)) hxy (by omega)
            have HLS0 : Hid (∀ wx, Below W0.heap.size W0 wx → (rowL h.upF h.up r).length = nth h.upF (r + 1) - nth h.upF r ∧ HasLs wx (.slice so2 (nth h.upF (r + 1) - nth h.upF r) (ulc - nth h.upF r)) (rowL h.upF h.up r)) := fun wx hx => ls_cut HK.out.1 (by rw [HK.out.2]; omega) (HQ.out wx hx).2.1.up hso
            obtain ⟨x, hx⟩ : ∃ x, nth h.upF r = x := ⟨_, rfl⟩
            obtain ⟨y, hy⟩ : ∃ y, nth h.upF (r + 1) = y := ⟨_, rfl⟩
            obtain ⟨T, hT⟩ : ∃ T, y - x = T := ⟨_, rfl⟩
            rw [hx, hy, hT] at hcut HLS0
            rw [hx] at ca
            rw [hy] at cb
            have HTL : Hid ((rowL h.upF h.up r).length = T) := (HLS0.out WR HB5.out).1
            have HLS : Hid (∀ wx, Below W0.heap.size W0 wx → HasLs wx (.slice so2 T (ulc - x)) (rowL h.upF h.up r)) := fun wx hx => (HLS0.out wx hx).2
            obtain ⟨fu, hfu⟩ : ∃ fu, h.upF.length = fu := ⟨_, rfl⟩
            have hfn : fu = h.node.length + 1 := by rw [← hfu]; exact HK.out.2
            have i3 : (r : Int) < (fu : Int) := by omega
            have i4 : (r : Int) + 1 < (fu : Int) := by omega
            have i5 : IntKind.i64.wrap ((r : Int) + 1) = (r : Int) + 1 := by rw [IntKind.wrap_i64]; omega
            rw [hfu] at c1
            have HFU : Hid (h.upF.length = fu) := hfu
            have hTb : T ≤ 1152921504606846976 := by have := (HQ.out WR HB5.out).2.1; have g := hyL; omega
            clear hso hF hU hcF hxy hcap hx hy hT hfu hfn HLS0 hyL hbl
            subst e1
            go_wp2_with fail
            go_quiet (fail)
            obtain ⟨WQ, hWQ⟩ : ∃ WQ, WR.drewN nq = WQ := ⟨_, rfl⟩
            rw [hWQ]
            have HWQ : Hid (RAt u64v WQ D h.node.length (dv vs) ∧ Below W0.heap.size W0 WQ) := by
              have g : Below WR.heap.size WR WQ := by rw [← hWQ]; exact bdrew (Below.refl _ _) _
              exact ⟨HD5.out.keep g, btrH' HB5.out g⟩
            clear hWQ c0 c1 c2 c3 c4 ca cb hcut HD5 HB5 cdr'
            go_wp2_with fail
            go_loopw [51] (fun iv wr => ∃ t : Nat, t ≤ T ∧ iv = .int .i64 t ∧ Hid (RAt u64v wr D h.node.length (dv (relaxs d ((rowL h.upF h.up r).take t) vs))) ∧ Hid (Below W0.heap.size W0 wr)) (fun iv _ => T - (intOf iv).toNat)
            case atStart => exact ⟨0, Nat.zero_le _, rfl, HWQ.out.1.eq (fun j _ => by rw [List.take_zero]; rfl), HWQ.out.2⟩
            case round =>
              obtain ⟨t, ht, rfl, HD6, HB4⟩ := hrel
              rcases Nat.lt_or_eq_of_le ht with h2 | h2
              · obtain ⟨l, hl⟩ : ∃ l, (rowL h.upF h.up r)[t]? = some l := ⟨_, List.getElem?_eq_getElem (by rw [HTL.out]; exact h2)⟩
                have hlm : l ∈ rowL h.upF h.up r := List.mem_of_getElem? hl
                obtain ⟨hlo, lb, loff, e1, hll, l0, l1, l2, l3⟩ := (HLS.out wr HB4.out).at hl
                obtain ⟨lh, lw, ll, lr⟩ := l
                simp only at l0 l1 l2 l3
                obtain ⟨hl1, hl2, hl3⟩ := HROW.out r h1 _ hlm
                have hlh : lh < h.node.length := hl2
                have hlr : r < lh := hl1
                have hlw : lw ≤ 140737488355328 := hl3
                have HVL9 : Hid ((relaxs d ((rowL h.upF h.up r).take t) vs).length = h.node.length) := by show _ = _; rw [relaxs_len]; exact HM.out.len
                have HVR : Hid (dv (relaxs d ((rowL h.upF h.up r).take t) vs) r = d) := by
                  refine dv_some ?_
                  rw [relaxs_other _ _ (fun l hl => by have := (HROW.out r h1 l (List.mem_of_mem_take hl)).1; omega)]
                  exact HHD.out
                obtain ⟨kk, hkk⟩ : ∃ kk, dv (relaxs d ((rowL h.upF h.up r).take t) vs) lh = kk := ⟨_, rfl⟩
                have HST : Hid (∀ j, dv (relaxs d ((rowL h.upF h.up r).take (t + 1)) vs) j = upd (dv (relaxs d ((rowL h.upF h.up r).take t) vs)) lh (if d + (lw : Int) < kk then d + (lw : Int) else kk) j) := fun j => by
                  rw [relaxs_snoc hl, ← hkk]
                  exact dv_relax (by rw [HVL9.out]; exact hlh) (by unfold far; simp only; omega) j
                have HKK : Hid (dv (relaxs d ((rowL h.upF h.up r).take t) vs) lh = kk) := hkk
                subst e1
                have j2 : (0 : Int) ≤ (t : Int) := by omega
                have j3 : (t : Int) < (T : Int) := by omega
                have j4 : (0 : Int) ≤ (lh : Int) := by omega
                have j5 : (lh : Int) < (h.node.length : Int) := by omega
                have j8 : IntKind.i64.wrap (lh : Int) = (lh : Int) := by rw [IntKind.wrap_i64]; omega
                have j9 : IntKind.u64.wrap (d + (lw : Int)) = d + (lw : Int) := by rw [IntKind.wrap_u64]; omega
                have q8 : decide ((t : Int) < (T : Int)) = true := by simp; omega
                have q8n : decide (t < T) = true := by simp; omega
                obtain ⟨bx, hbx⟩ : ∃ s, wr.heap.size = s := ⟨_, rfl⟩
                obtain ⟨W1, hW1⟩ : ∃ W1, wr.alloc (.cells #[.int .u32 (lh : Int), .int .u64 (lw : Int), .int .u32 (ll : Int), .int .u32 (lr : Int)] 64) = W1 := ⟨_, rfl⟩
                have HW1 : Hid (wr.alloc (.cells #[.int .u32 (lh : Int), .int .u64 (lw : Int), .int .u32 (ll : Int), .int .u32 (lr : Int)] 64) = W1) := hW1
                have H1 : Hid (∀ wx, Below W1.heap.size W1 wx → wx.heap[bx]? = some (.cells #[.int .u32 (lh : Int), .int .u64 (lw : Int), .int .u32 (ll : Int), .int .u32 (lr : Int)] 64) ∧ RAt u64v wx D h.node.length (dv (relaxs d ((rowL h.upF h.up r).take t) vs)) ∧ Below W0.heap.size W0 wx) := fun wx hx => by
                  have g1 : W1.heap[bx]? = some (.cells #[.int .u32 (lh : Int), .int .u64 (lw : Int), .int .u32 (ll : Int), .int .u32 (lr : Int)] 64) := by rw [← hW1, ← hbx]; exact heap_newW _ _
                  have g2 : Below wr.heap.size wr W1 := by rw [← hW1]; exact (Below.refl _ _).alloc (Nat.le_refl _) _
                  have g3 := btrH' g2 hx
                  exact ⟨(hx.block _ (some_lt g1)).trans g1, HD6.out.keep g3, btrH' HB4.out g3⟩
                clear hW1 hl hl1 hl2 hl3 hlo hll hkk hlm
                go_upto_region 15 with fail
                rw [HW1.out]
                clear HW1 l0 l1 l2 l3 hbx
                have HS15 : Hid (∀ wx, Below W1.heap.size W1 wx → (fun w' => w'.cell? ⟨bx, 0, none⟩ = some (.int .u32 (lh : Int)) ∧ w'.cell? ⟨bx, 1, none⟩ = some (.int .u64 (lw : Int)) ∧ w'.cell? ⟨D, lh, none⟩ = some (.int .u64 kk) ∧ w'.cell? ⟨D, r, none⟩ = some (.int .u64 d) ∧ Hid (Below W1.heap.size W1 w')) wx) := fun wx hx => by
                  obtain ⟨g1, g2, g3⟩ := H1.out wx hx
                  obtain ⟨b0, b1, _, _⟩ := four_c20 g1
                  have a1 := g2.cell lh hlh
                  have a2 := g2.cell r h1
                  rw [HKK.out] at a1
                  rw [HVR.out] at a2
                  exact ⟨b0, b1, a1, a2, hx⟩
                refine wp_region_Z (z := 17) (S := (fun w' => w'.cell? ⟨bx, 0, none⟩ = some (.int .u32 (lh : Int)) ∧ w'.cell? ⟨bx, 1, none⟩ = some (.int .u64 (lw : Int)) ∧ w'.cell? ⟨D, lh, none⟩ = some (.int .u64 kk) ∧ w'.cell? ⟨D, r, none⟩ = some (.int .u64 d) ∧ Hid (Below W1.heap.size W1 w'))) (by kernel_rfl) (HS15.out _ (Below.refl _ _).drew) ?_
                refine wpAnyZ_take (i := 0) (oi := { dst := Option.some 55, op := Op.move (Operand.tmp 5), type := 80, pos := "ref.go:30", after := #[], guard := Option.none }) (oz := { dst := Option.none, op := Op.store 36 (Operand.tmp 71) (Operand.tmp 70), type := 0, pos := "ref.go:30", after := #[{ on := 16, ground := Ground.data }, { on := 15, ground := Ground.data }, { on := 0, ground := Ground.phase }, { on := 1, ground := Ground.phase }, { on := 2, ground := Ground.phase }, { on := 3, ground := Ground.phase }, { on := 4, ground := Ground.phase }, { on := 5, ground := Ground.phase }, { on := 6, ground := Ground.phase }, { on := 7, ground := Ground.phase }, { on := 8, ground := Ground.phase }, { on := 9, ground := Ground.phase }, { on := 10, ground := Ground.phase }, { on := 11, ground := Ground.phase }, { on := 12, ground := Ground.phase }, { on := 13, ground := Ground.phase }, { on := 14, ground := Ground.phase }, { on := 15, ground := Ground.phase }], guard := Option.none }) (v := ?va0) rfl rfl (by kernel_rfl) (by kernel_rfl) (by kernel_rfl) (by kernel_rfl) (by kernel_rfl) (fun _ _ _ h => h) (YieldsM.of_if (Or.inl ⟨by rfl, ?ha0⟩)) ?ra0
                case ha0 => ((intro wz hSw; (try dsimp only at hSw); go_simp); try (with_reducible rfl))
                try simp only [Act.put, List.setIfInBounds_toArray, List.set_cons_zero, List.set_cons_succ]
                refine wpAnyZ_take (i := 1) (oi := { dst := Option.some 56, op := Op.fieldAddr 64 (Operand.tmp 9) 0, type := 0, pos := "ref.go:30", after := #[], guard := Option.none }) (oz := { dst := Option.none, op := Op.store 36 (Operand.tmp 71) (Operand.tmp 70), type := 0, pos := "ref.go:30", after := #[{ on := 16, ground := Ground.data }, { on := 15, ground := Ground.data }, { on := 0, ground := Ground.phase }, { on := 1, ground := Ground.phase }, { on := 2, ground := Ground.phase }, { on := 3, ground := Ground.phase }, { on := 4, ground := Ground.phase }, { on := 5, ground := Ground.phase }, { on := 6, ground := Ground.phase }, { on := 7, ground := Ground.phase }, { on := 8, ground := Ground.phase }, { on := 9, ground := Ground.phase }, { on := 10, ground := Ground.phase }, { on := 11, ground := Ground.phase }, { on := 12, ground := Ground.phase }, { on := 13, ground := Ground.phase }, { on := 14, ground := Ground.phase }, { on := 15, ground := Ground.phase }], guard := Option.none }) (v := ?va1) rfl rfl (by kernel_rfl) (by kernel_rfl) (by kernel_rfl) (by kernel_rfl) (by kernel_rfl) (fun _ _ _ h => h) (YieldsM.of_if (Or.inl ⟨by rfl, ?ha1⟩)) ?ra1
                case ha1 => ((intro wz hSw; (try dsimp only at hSw); go_simp); try (with_reducible rfl))
                try simp only [Act.put, List.setIfInBounds_toArray, List.set_cons_zero, List.set_cons_succ]
                refine wpAnyZ_take (i := 2) (oi := { dst := Option.some 57, op := Op.load 62 (Operand.tmp 56), type := 62, pos := "ref.go:30", after := #[{ on := 1, ground := Ground.data }], guard := Option.none }) (oz := { dst := Option.none, op := Op.store 36 (Operand.tmp 71) (Operand.tmp 70), type := 0, pos := "ref.go:30", after := #[{ on := 16, ground := Ground.data }, { on := 15, ground := Ground.data }, { on := 0, ground := Ground.phase }, { on := 1, ground := Ground.phase }, { on := 2, ground := Ground.phase }, { on := 3, ground := Ground.phase }, { on := 4, ground := Ground.phase }, { on := 5, ground := Ground.phase }, { on := 6, ground := Ground.phase }, { on := 7, ground := Ground.phase }, { on := 8, ground := Ground.phase }, { on := 9, ground := Ground.phase }, { on := 10, ground := Ground.phase }, { on := 11, ground := Ground.phase }, { on := 12, ground := Ground.phase }, { on := 13, ground := Ground.phase }, { on := 14, ground := Ground.phase }, { on := 15, ground := Ground.phase }], guard := Option.none }) (v := ?va2) rfl rfl (by kernel_rfl) (by kernel_rfl) (by kernel_rfl) (by kernel_rfl) (by kernel_rfl) (fun _ _ _ h => h) (YieldsM.of_if (Or.inl ⟨by rfl, ?ha2⟩)) ?ra2
                case ha2 => ((intro wz hSw; (try dsimp only at hSw); go_simp); try (with_reducible rfl))
                try simp only [Act.put, List.setIfInBounds_toArray, List.set_cons_zero, List.set_cons_succ]
                refine wpAnyZ_take (i := 3) (oi := { dst := Option.some 58, op := Op.move (Operand.tmp 5), type := 80, pos := "ref.go:30", after := #[], guard := Option.none }) (oz := { dst := Option.none, op := Op.store 36 (Operand.tmp 71) (Operand.tmp 70), type := 0, pos := "ref.go:30", after := #[{ on := 16, ground := Ground.data }, { on := 15, ground := Ground.data }, { on := 0, ground := Ground.phase }, { on := 1, ground := Ground.phase }, { on := 2, ground := Ground.phase }, { on := 3, ground := Ground.phase }, { on := 4, ground := Ground.phase }, { on := 5, ground := Ground.phase }, { on := 6, ground := Ground.phase }, { on := 7, ground := Ground.phase }, { on := 8, ground := Ground.phase }, { on := 9, ground := Ground.phase }, { on := 10, ground := Ground.phase }, { on := 11, ground := Ground.phase }, { on := 12, ground := Ground.phase }, { on := 13, ground := Ground.phase }, { on := 14, ground := Ground.phase }, { on := 15, ground := Ground.phase }], guard := Option.none }) (v := ?va3) rfl rfl (by kernel_rfl) (by kernel_rfl) (by kernel_rfl) (by kernel_rfl) (by kernel_rfl) (fun _ _ _ h => h) (YieldsM.of_if (Or.inl ⟨by rfl, ?ha3⟩)) ?ra3
                case ha3 => ((intro wz hSw; (try dsimp only at hSw); go_simp); try (with_reducible rfl))
                try simp only [Act.put, List.setIfInBounds_toArray, List.set_cons_zero, List.set_cons_succ]
                refine wpAnyZ_take (i := 4) (oi := { dst := Option.some 59, op := Op.fieldAddr 64 (Operand.tmp 9) 0, type := 0, pos := "ref.go:30", after := #[], guard := Option.none }) (oz := { dst := Option.none, op := Op.store 36 (Operand.tmp 71) (Operand.tmp 70), type := 0, pos := "ref.go:30", after := #[{ on := 16, ground := Ground.data }, { on := 15, ground := Ground.data }, { on := 0, ground := Ground.phase }, { on := 1, ground := Ground.phase }, { on := 2, ground := Ground.phase }, { on := 3, ground := Ground.phase }, { on := 4, ground := Ground.phase }, { on := 5, ground := Ground.phase }, { on := 6, ground := Ground.phase }, { on := 7, ground := Ground.phase }, { on := 8, ground := Ground.phase }, { on := 9, ground := Ground.phase }, { on := 10, ground := Ground.phase }, { on := 11, ground := Ground.phase }, { on := 12, ground := Ground.phase }, { on := 13, ground := Ground.phase }, { on := 14, ground := Ground.phase }, { on := 15, ground := Ground.phase }], guard := Option.none }) (v := ?va4) rfl rfl (by kernel_rfl) (by kernel_rfl) (by kernel_rfl) (by kernel_rfl) (by kernel_rfl) (fun _ _ _ h => h) (YieldsM.of_if (Or.inl ⟨by rfl, ?ha4⟩)) ?ra4
                case ha4 => ((intro wz hSw; (try dsimp only at hSw); go_simp); try (with_reducible rfl))
                try simp only [Act.put, List.setIfInBounds_toArray, List.set_cons_zero, List.set_cons_succ]
                refine wpAnyZ_take (i := 5) (oi := { dst := Option.some 60, op := Op.load 62 (Operand.tmp 59), type := 62, pos := "ref.go:30", after := #[{ on := 4, ground := Ground.data }], guard := Option.none }) (oz := { dst := Option.none, op := Op.store 36 (Operand.tmp 71) (Operand.tmp 70), type := 0, pos := "ref.go:30", after := #[{ on := 16, ground := Ground.data }, { on := 15, ground := Ground.data }, { on := 0, ground := Ground.phase }, { on := 1, ground := Ground.phase }, { on := 2, ground := Ground.phase }, { on := 3, ground := Ground.phase }, { on := 4, ground := Ground.phase }, { on := 5, ground := Ground.phase }, { on := 6, ground := Ground.phase }, { on := 7, ground := Ground.phase }, { on := 8, ground := Ground.phase }, { on := 9, ground := Ground.phase }, { on := 10, ground := Ground.phase }, { on := 11, ground := Ground.phase }, { on := 12, ground := Ground.phase }, { on := 13, ground := Ground.phase }, { on := 14, ground := Ground.phase }, { on := 15, ground := Ground.phase }], guard := Option.none }) (v := ?va5) rfl rfl (by kernel_rfl) (by kernel_rfl) (by kernel_rfl) (by kernel_rfl) (by kernel_rfl) (fun _ _ _ h => h) (YieldsM.of_if (Or.inl ⟨by rfl, ?ha5⟩)) ?ra5
                case ha5 => ((intro wz hSw; (try dsimp only at hSw); go_simp); try (with_reducible rfl))
                try simp only [Act.put, List.setIfInBounds_toArray, List.set_cons_zero, List.set_cons_succ]
                refine wpAnyZ_take (i := 6) (oi := { dst := Option.some 61, op := Op.indexAddr 80 (Operand.tmp 58) (Operand.tmp 60), type := 0, pos := "ref.go:30", after := #[{ on := 3, ground := Ground.data }, { on := 5, ground := Ground.data }], guard := Option.none }) (oz := { dst := Option.none, op := Op.store 36 (Operand.tmp 71) (Operand.tmp 70), type := 0, pos := "ref.go:30", after := #[{ on := 16, ground := Ground.data }, { on := 15, ground := Ground.data }, { on := 0, ground := Ground.phase }, { on := 1, ground := Ground.phase }, { on := 2, ground := Ground.phase }, { on := 3, ground := Ground.phase }, { on := 4, ground := Ground.phase }, { on := 5, ground := Ground.phase }, { on := 6, ground := Ground.phase }, { on := 7, ground := Ground.phase }, { on := 8, ground := Ground.phase }, { on := 9, ground := Ground.phase }, { on := 10, ground := Ground.phase }, { on := 11, ground := Ground.phase }, { on := 12, ground := Ground.phase }, { on := 13, ground := Ground.phase }, { on := 14, ground := Ground.phase }, { on := 15, ground := Ground.phase }], guard := Option.none }) (v := ?va6) rfl rfl (by kernel_rfl) (by kernel_rfl) (by kernel_rfl) (by kernel_rfl) (by kernel_rfl) (fun _ _ _ h => h) (YieldsM.of_if (Or.inl ⟨by rfl, ?ha6⟩)) ?ra6
                case ha6 => ((intro wz hSw; (try dsimp only at hSw); go_simp); try (with_reducible rfl))
                try simp only [Act.put, List.setIfInBounds_toArray, List.set_cons_zero, List.set_cons_succ]
                refine wpAnyZ_take (i := 7) (oi := { dst := Option.some 62, op := Op.load 36 (Operand.tmp 61), type := 36, pos := "ref.go:30", after := #[{ on := 6, ground := Ground.data }], guard := Option.none }) (oz := { dst := Option.none, op := Op.store 36 (Operand.tmp 71) (Operand.tmp 70), type := 0, pos := "ref.go:30", after := #[{ on := 16, ground := Ground.data }, { on := 15, ground := Ground.data }, { on := 0, ground := Ground.phase }, { on := 1, ground := Ground.phase }, { on := 2, ground := Ground.phase }, { on := 3, ground := Ground.phase }, { on := 4, ground := Ground.phase }, { on := 5, ground := Ground.phase }, { on := 6, ground := Ground.phase }, { on := 7, ground := Ground.phase }, { on := 8, ground := Ground.phase }, { on := 9, ground := Ground.phase }, { on := 10, ground := Ground.phase }, { on := 11, ground := Ground.phase }, { on := 12, ground := Ground.phase }, { on := 13, ground := Ground.phase }, { on := 14, ground := Ground.phase }, { on := 15, ground := Ground.phase }], guard := Option.none }) (v := ?va7) rfl rfl (by kernel_rfl) (by kernel_rfl) (by kernel_rfl) (by kernel_rfl) (by kernel_rfl) (fun _ _ _ h => h) (YieldsM.of_if (Or.inl ⟨by rfl, ?ha7⟩)) ?ra7
                case ha7 => ((intro wz hSw; (try dsimp only at hSw); go_simp); try (with_reducible rfl))
                try simp only [Act.put, List.setIfInBounds_toArray, List.set_cons_zero, List.set_cons_succ]
                refine wpAnyZ_take (i := 8) (oi := { dst := Option.some 63, op := Op.move (Operand.tmp 5), type := 80, pos := "ref.go:30", after := #[], guard := Option.none }) (oz := { dst := Option.none, op := Op.store 36 (Operand.tmp 71) (Operand.tmp 70), type := 0, pos := "ref.go:30", after := #[{ on := 16, ground := Ground.data }, { on := 15, ground := Ground.data }, { on := 0, ground := Ground.phase }, { on := 1, ground := Ground.phase }, { on := 2, ground := Ground.phase }, { on := 3, ground := Ground.phase }, { on := 4, ground := Ground.phase }, { on := 5, ground := Ground.phase }, { on := 6, ground := Ground.phase }, { on := 7, ground := Ground.phase }, { on := 8, ground := Ground.phase }, { on := 9, ground := Ground.phase }, { on := 10, ground := Ground.phase }, { on := 11, ground := Ground.phase }, { on := 12, ground := Ground.phase }, { on := 13, ground := Ground.phase }, { on := 14, ground := Ground.phase }, { on := 15, ground := Ground.phase }], guard := Option.none }) (v := ?va8) rfl rfl (by kernel_rfl) (by kernel_rfl) (by kernel_rfl) (by kernel_rfl) (by kernel_rfl) (fun _ _ _ h => h) (YieldsM.of_if (Or.inl ⟨by rfl, ?ha8⟩)) ?ra8
                case ha8 => ((intro wz hSw; (try dsimp only at hSw); go_simp); try (with_reducible rfl))
                try simp only [Act.put, List.setIfInBounds_toArray, List.set_cons_zero, List.set_cons_succ]
                refine wpAnyZ_take (i := 9) (oi := { dst := Option.some 64, op := Op.move (Operand.tmp 7), type := 3, pos := "ref.go:30", after := #[], guard := Option.none }) (oz := { dst := Option.none, op := Op.store 36 (Operand.tmp 71) (Operand.tmp 70), type := 0, pos := "ref.go:30", after := #[{ on := 16, ground := Ground.data }, { on := 15, ground := Ground.data }, { on := 0, ground := Ground.phase }, { on := 1, ground := Ground.phase }, { on := 2, ground := Ground.phase }, { on := 3, ground := Ground.phase }, { on := 4, ground := Ground.phase }, { on := 5, ground := Ground.phase }, { on := 6, ground := Ground.phase }, { on := 7, ground := Ground.phase }, { on := 8, ground := Ground.phase }, { on := 9, ground := Ground.phase }, { on := 10, ground := Ground.phase }, { on := 11, ground := Ground.phase }, { on := 12, ground := Ground.phase }, { on := 13, ground := Ground.phase }, { on := 14, ground := Ground.phase }, { on := 15, ground := Ground.phase }], guard := Option.none }) (v := ?va9) rfl rfl (by kernel_rfl) (by kernel_rfl) (by kernel_rfl) (by kernel_rfl) (by kernel_rfl) (fun _ _ _ h => h) (YieldsM.of_if (Or.inl ⟨by rfl, ?ha9⟩)) ?ra9
                case ha9 => ((intro wz hSw; (try dsimp only at hSw); go_simp); try (with_reducible rfl))
                try simp only [Act.put, List.setIfInBounds_toArray, List.set_cons_zero, List.set_cons_succ]
                refine wpAnyZ_take (i := 10) (oi := { dst := Option.some 65, op := Op.indexAddr 80 (Operand.tmp 63) (Operand.tmp 64), type := 0, pos := "ref.go:30", after := #[{ on := 8, ground := Ground.data }, { on := 9, ground := Ground.data }], guard := Option.none }) (oz := { dst := Option.none, op := Op.store 36 (Operand.tmp 71) (Operand.tmp 70), type := 0, pos := "ref.go:30", after := #[{ on := 16, ground := Ground.data }, { on := 15, ground := Ground.data }, { on := 0, ground := Ground.phase }, { on := 1, ground := Ground.phase }, { on := 2, ground := Ground.phase }, { on := 3, ground := Ground.phase }, { on := 4, ground := Ground.phase }, { on := 5, ground := Ground.phase }, { on := 6, ground := Ground.phase }, { on := 7, ground := Ground.phase }, { on := 8, ground := Ground.phase }, { on := 9, ground := Ground.phase }, { on := 10, ground := Ground.phase }, { on := 11, ground := Ground.phase }, { on := 12, ground := Ground.phase }, { on := 13, ground := Ground.phase }, { on := 14, ground := Ground.phase }, { on := 15, ground := Ground.phase }], guard := Option.none }) (v := ?va10) rfl rfl (by kernel_rfl) (by kernel_rfl) (by kernel_rfl) (by kernel_rfl) (by kernel_rfl) (fun _ _ _ h => h) (YieldsM.of_if (Or.inl ⟨by rfl, ?ha10⟩)) ?ra10
                case ha10 => ((intro wz hSw; (try dsimp only at hSw); go_simp); try (with_reducible rfl))
                try simp only [Act.put, List.setIfInBounds_toArray, List.set_cons_zero, List.set_cons_succ]
                refine wpAnyZ_take (i := 11) (oi := { dst := Option.some 66, op := Op.load 36 (Operand.tmp 65), type := 36, pos := "ref.go:30", after := #[{ on := 10, ground := Ground.data }], guard := Option.none }) (oz := { dst := Option.none, op := Op.store 36 (Operand.tmp 71) (Operand.tmp 70), type := 0, pos := "ref.go:30", after := #[{ on := 16, ground := Ground.data }, { on := 15, ground := Ground.data }, { on := 0, ground := Ground.phase }, { on := 1, ground := Ground.phase }, { on := 2, ground := Ground.phase }, { on := 3, ground := Ground.phase }, { on := 4, ground := Ground.phase }, { on := 5, ground := Ground.phase }, { on := 6, ground := Ground.phase }, { on := 7, ground := Ground.phase }, { on := 8, ground := Ground.phase }, { on := 9, ground := Ground.phase }, { on := 10, ground := Ground.phase }, { on := 11, ground := Ground.phase }, { on := 12, ground := Ground.phase }, { on := 13, ground := Ground.phase }, { on := 14, ground := Ground.phase }, { on := 15, ground := Ground.phase }], guard := Option.none }) (v := ?va11) rfl rfl (by kernel_rfl) (by kernel_rfl) (by kernel_rfl) (by kernel_rfl) (by kernel_rfl) (fun _ _ _ h => h) (YieldsM.of_if (Or.inl ⟨by rfl, ?ha11⟩)) ?ra11
                case ha11 => ((intro wz hSw; (try dsimp only at hSw); go_simp); try (with_reducible rfl))
                try simp only [Act.put, List.setIfInBounds_toArray, List.set_cons_zero, List.set_cons_succ]
                refine wpAnyZ_take (i := 12) (oi := { dst := Option.some 67, op := Op.fieldAddr 64 (Operand.tmp 9) 1, type := 0, pos := "ref.go:30", after := #[], guard := Option.none }) (oz := { dst := Option.none, op := Op.store 36 (Operand.tmp 71) (Operand.tmp 70), type := 0, pos := "ref.go:30", after := #[{ on := 16, ground := Ground.data }, { on := 15, ground := Ground.data }, { on := 0, ground := Ground.phase }, { on := 1, ground := Ground.phase }, { on := 2, ground := Ground.phase }, { on := 3, ground := Ground.phase }, { on := 4, ground := Ground.phase }, { on := 5, ground := Ground.phase }, { on := 6, ground := Ground.phase }, { on := 7, ground := Ground.phase }, { on := 8, ground := Ground.phase }, { on := 9, ground := Ground.phase }, { on := 10, ground := Ground.phase }, { on := 11, ground := Ground.phase }, { on := 12, ground := Ground.phase }, { on := 13, ground := Ground.phase }, { on := 14, ground := Ground.phase }, { on := 15, ground := Ground.phase }], guard := Option.none }) (v := ?va12) rfl rfl (by kernel_rfl) (by kernel_rfl) (by kernel_rfl) (by kernel_rfl) (by kernel_rfl) (fun _ _ _ h => h) (YieldsM.of_if (Or.inl ⟨by rfl, ?ha12⟩)) ?ra12
                case ha12 => ((intro wz hSw; (try dsimp only at hSw); go_simp); try (with_reducible rfl))
                try simp only [Act.put, List.setIfInBounds_toArray, List.set_cons_zero, List.set_cons_succ]
                refine wpAnyZ_take (i := 13) (oi := { dst := Option.some 68, op := Op.load 36 (Operand.tmp 67), type := 36, pos := "ref.go:30", after := #[{ on := 12, ground := Ground.data }], guard := Option.none }) (oz := { dst := Option.none, op := Op.store 36 (Operand.tmp 71) (Operand.tmp 70), type := 0, pos := "ref.go:30", after := #[{ on := 16, ground := Ground.data }, { on := 15, ground := Ground.data }, { on := 0, ground := Ground.phase }, { on := 1, ground := Ground.phase }, { on := 2, ground := Ground.phase }, { on := 3, ground := Ground.phase }, { on := 4, ground := Ground.phase }, { on := 5, ground := Ground.phase }, { on := 6, ground := Ground.phase }, { on := 7, ground := Ground.phase }, { on := 8, ground := Ground.phase }, { on := 9, ground := Ground.phase }, { on := 10, ground := Ground.phase }, { on := 11, ground := Ground.phase }, { on := 12, ground := Ground.phase }, { on := 13, ground := Ground.phase }, { on := 14, ground := Ground.phase }, { on := 15, ground := Ground.phase }], guard := Option.none }) (v := ?va13) rfl rfl (by kernel_rfl) (by kernel_rfl) (by kernel_rfl) (by kernel_rfl) (by kernel_rfl) (fun _ _ _ h => h) (YieldsM.of_if (Or.inl ⟨by rfl, ?ha13⟩)) ?ra13
                case ha13 => ((intro wz hSw; (try dsimp only at hSw); go_simp); try (with_reducible rfl))
                try simp only [Act.put, List.setIfInBounds_toArray, List.set_cons_zero, List.set_cons_succ]
                refine wpAnyZ_take (i := 14) (oi := { dst := Option.some 69, op := Op.binOp BinOp.add 36 (Operand.tmp 66) (Operand.tmp 68) 36, type := 36, pos := "ref.go:30", after := #[{ on := 11, ground := Ground.data }, { on := 13, ground := Ground.data }], guard := Option.none }) (oz := { dst := Option.none, op := Op.store 36 (Operand.tmp 71) (Operand.tmp 70), type := 0, pos := "ref.go:30", after := #[{ on := 16, ground := Ground.data }, { on := 15, ground := Ground.data }, { on := 0, ground := Ground.phase }, { on := 1, ground := Ground.phase }, { on := 2, ground := Ground.phase }, { on := 3, ground := Ground.phase }, { on := 4, ground := Ground.phase }, { on := 5, ground := Ground.phase }, { on := 6, ground := Ground.phase }, { on := 7, ground := Ground.phase }, { on := 8, ground := Ground.phase }, { on := 9, ground := Ground.phase }, { on := 10, ground := Ground.phase }, { on := 11, ground := Ground.phase }, { on := 12, ground := Ground.phase }, { on := 13, ground := Ground.phase }, { on := 14, ground := Ground.phase }, { on := 15, ground := Ground.phase }], guard := Option.none }) (v := ?va14) rfl rfl (by kernel_rfl) (by kernel_rfl) (by kernel_rfl) (by kernel_rfl) (by kernel_rfl) (fun _ _ _ h => h) (YieldsM.of_if (Or.inl ⟨by rfl, ?ha14⟩)) ?ra14
                case ha14 => ((intro wz hSw; (try dsimp only at hSw); go_simp); try (with_reducible rfl))
                try simp only [Act.put, List.setIfInBounds_toArray, List.set_cons_zero, List.set_cons_succ]
                refine wpAnyZ_take (i := 15) (oi := { dst := Option.some 70, op := Op.call { callee := Callee.builtin Builtin.min, args := #[Operand.tmp 62, Operand.tmp 69], argTypes := #[36, 36] }, type := 36, pos := "ref.go:30", after := #[{ on := 7, ground := Ground.data }, { on := 14, ground := Ground.data }], guard := Option.none }) (oz := { dst := Option.none, op := Op.store 36 (Operand.tmp 71) (Operand.tmp 70), type := 0, pos := "ref.go:30", after := #[{ on := 16, ground := Ground.data }, { on := 15, ground := Ground.data }, { on := 0, ground := Ground.phase }, { on := 1, ground := Ground.phase }, { on := 2, ground := Ground.phase }, { on := 3, ground := Ground.phase }, { on := 4, ground := Ground.phase }, { on := 5, ground := Ground.phase }, { on := 6, ground := Ground.phase }, { on := 7, ground := Ground.phase }, { on := 8, ground := Ground.phase }, { on := 9, ground := Ground.phase }, { on := 10, ground := Ground.phase }, { on := 11, ground := Ground.phase }, { on := 12, ground := Ground.phase }, { on := 13, ground := Ground.phase }, { on := 14, ground := Ground.phase }, { on := 15, ground := Ground.phase }], guard := Option.none }) (v := ?va15) rfl rfl (by kernel_rfl) (by kernel_rfl) (by kernel_rfl) (by kernel_rfl) (by kernel_rfl) (fun _ _ _ h => h) (YieldsM.of_if (Or.inl ⟨by rfl, ?ha15⟩)) ?ra15
                case ha15 => ((intro wz hSw; (try dsimp only at hSw); go_simp); try (with_reducible rfl))
                try simp only [Act.put, List.setIfInBounds_toArray, List.set_cons_zero, List.set_cons_succ]
                refine wpAnyZ_take (i := 16) (oi := { dst := Option.some 71, op := Op.indexAddr 80 (Operand.tmp 55) (Operand.tmp 57), type := 0, pos := "ref.go:30", after := #[{ on := 0, ground := Ground.data }, { on := 2, ground := Ground.data }, { on := 0, ground := Ground.phase }, { on := 1, ground := Ground.phase }, { on := 2, ground := Ground.phase }, { on := 3, ground := Ground.phase }, { on := 4, ground := Ground.phase }, { on := 5, ground := Ground.phase }, { on := 6, ground := Ground.phase }, { on := 7, ground := Ground.phase }, { on := 8, ground := Ground.phase }, { on := 9, ground := Ground.phase }, { on := 10, ground := Ground.phase }, { on := 11, ground := Ground.phase }, { on := 12, ground := Ground.phase }, { on := 13, ground := Ground.phase }, { on := 14, ground := Ground.phase }, { on := 15, ground := Ground.phase }], guard := Option.none }) (oz := { dst := Option.none, op := Op.store 36 (Operand.tmp 71) (Operand.tmp 70), type := 0, pos := "ref.go:30", after := #[{ on := 16, ground := Ground.data }, { on := 15, ground := Ground.data }, { on := 0, ground := Ground.phase }, { on := 1, ground := Ground.phase }, { on := 2, ground := Ground.phase }, { on := 3, ground := Ground.phase }, { on := 4, ground := Ground.phase }, { on := 5, ground := Ground.phase }, { on := 6, ground := Ground.phase }, { on := 7, ground := Ground.phase }, { on := 8, ground := Ground.phase }, { on := 9, ground := Ground.phase }, { on := 10, ground := Ground.phase }, { on := 11, ground := Ground.phase }, { on := 12, ground := Ground.phase }, { on := 13, ground := Ground.phase }, { on := 14, ground := Ground.phase }, { on := 15, ground := Ground.phase }], guard := Option.none }) (v := ?va16) rfl rfl (by kernel_rfl) (by kernel_rfl) (by kernel_rfl) (by kernel_rfl) (by kernel_rfl) (fun _ _ _ h => h) (YieldsM.of_if (Or.inl ⟨by rfl, ?ha16⟩)) ?ra16
                case ha16 => ((intro wz hSw; (try dsimp only at hSw); go_simp); try (with_reducible rfl))
                try simp only [Act.put, List.setIfInBounds_toArray, List.set_cons_zero, List.set_cons_succ]
                refine lastZ (o := { dst := Option.none, op := Op.store 36 (Operand.tmp 71) (Operand.tmp 70), type := 0, pos := "ref.go:30", after := #[{ on := 16, ground := Ground.data }, { on := 15, ground := Ground.data }, { on := 0, ground := Ground.phase }, { on := 1, ground := Ground.phase }, { on := 2, ground := Ground.phase }, { on := 3, ground := Ground.phase }, { on := 4, ground := Ground.phase }, { on := 5, ground := Ground.phase }, { on := 6, ground := Ground.phase }, { on := 7, ground := Ground.phase }, { on := 8, ground := Ground.phase }, { on := 9, ground := Ground.phase }, { on := 10, ground := Ground.phase }, { on := 11, ground := Ground.phase }, { on := 12, ground := Ground.phase }, { on := 13, ground := Ground.phase }, { on := 14, ground := Ground.phase }, { on := 15, ground := Ground.phase }], guard := Option.none }) rfl (by kernel_rfl) (by kernel_rfl) ?_
                intro v7 hg7 hS7 K hK
                obtain ⟨g1, g2, g3⟩ := H1.out v7 (btrH' (Below.refl _ _).drew hg7)
                have a1 := g2.cell lh hlh
                have f1 := g2.free lh
                rw [HKK.out] at a1
                have HF7 : Hid (RAt u64v (v7.setCell ⟨D, lh, none⟩ (.int .u64 (if d + (lw : Int) < kk then d + (lw : Int) else kk))) D h.node.length (dv (relaxs d ((rowL h.upF h.up r).take (t + 1)) vs)) ∧ Below W0.heap.size W0 (v7.setCell ⟨D, lh, none⟩ (.int .u64 (if d + (lw : Int) < kk then d + (lw : Int) else kk)))) := ⟨(g2.set (if d + (lw : Int) < kk then d + (lw : Int) else kk) hlh).eq (fun j _ => (HST.out j).symm), g3.setCell (p := ⟨D, lh, none⟩) HDW.out.1 _⟩
                clear g1 g2 g3 hS7 hg7
                go_simp
                refine hK.out _ _ ?_
                clear a1 f1 hK K
                go_wp2
                go_roundw
                case rel => exact ⟨t + 1, by omega, by go_num, HF7.out.1, HF7.out.2⟩
                case measure => simp [intOf]; omega
              · have q8 : decide ((t : Int) < (T : Int)) = false := by simp; omega
                have q8n : decide (t < T) = false := by simp; omega
                have HD9 : Hid (RAt u64v wr D h.node.length (dv (relaxs d (rowL h.upF h.up r) vs))) := HD6.out.eq (fun j _ => by rw [h2, ← HTL.out, List.take_length])
                have HM2 : Hid (Mid (rowL h.upF h.up) h.node.length s (r + 1) (relaxs d (rowL h.upF h.up r) vs)) := HM.out.hit h1 HHD.out (HROW.out r h1)
                clear h2 ht HD6
                go_wp2
                go_roundw
                case rel => exact ⟨r + 1, _, by omega, by go_num, HM2.out, HD9.out, HB4.out⟩
                case measure => simp [intOf]; omega
          · have hvn : ∀ d, vs[r]? ≠ some (some d) := fun d hd => by rw [hnone] at hd; cases hd
            have cdr := HD5.out.cell r h1
            rw [dv_none hvn] at cdr
            have cdr' : WR.cell? ⟨D, r, none⟩ = some (.int .u64 18446744073709551615) := cdr
            have HM2 : Hid (Mid (rowL h.upF h.up) h.node.length s (r + 1) vs) := HM.out.miss h1 hvn
            clear cdr hnone hvn
            go_wp2
            go_roundw
            case rel => exact ⟨r + 1, vs, by omega, by go_num, HM2.out, HD5.out, HB5.out⟩
            case measure => simp [intOf]; omega
        · have q6 : decide ((r : Int) < (h.node.length : Int)) = false := by simp; omega
          have q6n : decide (r < h.node.length) = false := by simp; omega
          have HE : Hid (vs = lens (rowL h.upF h.up) h.node.length s) := by
            have g := HM.out
            rw [h1] at g
            exact g.fin
          clear h1 hr
          go_wp2
          go_ret
          exact ⟨D, rfl, by rw [← HE.out]; exact HD5.out, HDW.out.2, (HQ.out wr HB5.out).2.2⟩

theorem dists_calls (v : HV) (h : Hr) (s : Nat) (w : World) (hH : HasH w v h) (hc : chk h = (0, [])) (hs : s < h.node.length) :
    Calls Try.prog 36 #[hvl v h, .int .i64 (s : Int)] w fun e w' => ∃ D, e = .returned (.slice (some ⟨D, 0, none⟩) h.node.length h.node.length) ∧ RAt u64v w' D h.node.length (dv (lens (rowL h.upF h.up) h.node.length s)) ∧ w.heap.size ≤ D ∧ Below w.heap.size w w' :=
  dists_aux v.no v.uo v.ul v.wo v.dl v.nc v.uc v.ulc v.wc v.dlc h s w hH hc hs
end Go.Proofs.Ytlehlghagddogaa.Cb
