/- viaductref20.Up at a hierarchy in form. (gencu.py) -/
import Derived.Test.YtlehlghagddogaaCdA
import Derived.Test.YtlehlghagddogaaHdO
namespace Go.Proofs.Ytlehlghagddogaa.Cb
open Go.RowKit Go.Extern Go.Shelf Hi

attribute [local go_sem] Oper.semAt_some

theorem three_c20 {w : World} {b : Nat} {T : TypeId} {a0 a1 a2 : Value} (h : w.heap[b]? = some (.cells #[a0, a1, a2] T)) : (w.cell? ⟨b, 0, none⟩ = some a0 ∧ w.cell? ⟨b, 1, none⟩ = some a1 ∧ w.cell? ⟨b, 2, none⟩ = some a2) ∧ w.frozen? ⟨b, 0, none⟩ = false ∧ w.frozen? ⟨b, 1, none⟩ = false ∧ w.frozen? ⟨b, 2, none⟩ = false := by simp [World.cell?, World.frozen?, h]
theorem set_third {W : World} {b : Nat} {p q r : Value} {T : TypeId} (h : W.heap[b]? = some (.cells #[p, q, r] T)) (x : Value) : (W.setCell ⟨b, 2, none⟩ x).heap[b]? = some (.cells #[p, q, x] T) := by
  simp only [World.setCell, Array.getElem?_modify]
  simp [h]
theorem own_far {w : World} {B n z b o : Nat} {T : TypeId} {v u : Value} {xs : List Value} (h : w.ownsRow B T z v n xs) (hne : ∀ g, v.ownBlock = some g → g ≠ b) : (w.setCell ⟨b, o, none⟩ u).ownsRow B T z v n xs := by
  rcases h.2 with ⟨e, h0⟩ | ⟨g, cap, cur, e, hg, hh, r⟩
  · exact ⟨h.1, .inl ⟨e, h0⟩⟩
  · refine ⟨h.1, .inr ⟨g, cap, cur, e, hg, (Below.heap_setCell _ _ _ _ (hne g (by rw [e]; rfl))).trans hh, r⟩⟩
theorem cells_three {w : World} {g : Nat} {a0 a1 a2 : Value} (h0 : w.cell? ⟨g, 0, none⟩ = some a0) (h1 : w.cell? ⟨g, 1, none⟩ = some a1) (h2 : w.cell? ⟨g, 2, none⟩ = some a2) : ∀ j u, [a0, a1, a2][j]? = some u → w.cell? ((⟨g, 0, none⟩ : Addr).add j) = some u := fun j u hj => by
  have e : (⟨g, 0, none⟩ : Addr).add j = ⟨g, j, none⟩ := by
    by_cases h0 : j = 0
    · subst h0; rfl
    · simp [Addr.add, h0]
  rw [e]
  rcases j with _ | _ | _ | j
  · simp at hj; rw [← hj]; exact h0
  · simp at hj; rw [← hj]; exact h1
  · simp at hj; rw [← hj]; exact h2
  · simp at hj

set_option maxRecDepth 100000 in
set_option maxHeartbeats 8000000 in
theorem rUp_aux (no uo ul wo dl : Option Addr) (nc uc ulc wc dlc : Nat) (h : Hr) (s : Nat) (w : World) (hH : HasH w ⟨no, uo, ul, wo, dl, nc, uc, ulc, wc, dlc⟩ h) (hc : chk h = (0, [])) (hs : s < h.node.length) :
    Calls Try.prog 25 #[hvl ⟨no, uo, ul, wo, dl, nc, uc, ulc, wc, dlc⟩ h, .int .i64 (s : Int)] w fun e w' => ∃ (mo : Option Addr) (mc : Nat) (X : List (Nat × Int × Bool)), X = upL h s ∧ e = .returned (.slice mo X.length mc) ∧ w'.ownsRow w.heap.size 49 3 (.slice mo X.length mc) X.length (snv X) ∧ Below w.heap.size w w' := by
  obtain ⟨k1, k2, k3, k4, k5, k6, k7, k8⟩ := chk_ok hc
  have HK : Hid (FOk h.dnF h.dn.length ∧ h.dnF.length = h.node.length + 1) := ⟨k6, k4⟩
  have hrowu : ∀ r, r < h.node.length → ∀ l ∈ rowL h.upF h.up r, r < l.hd ∧ l.hd < h.node.length := fun r hr l hl => ⟨(row_form hc hr (Or.inl hl)).1, (row_form hc hr (Or.inl hl)).2.1⟩
  have HROW : Hid (∀ r, r < h.node.length → ∀ l ∈ rowL h.dnF h.dn r, r < l.hd ∧ l.hd < h.node.length ∧ l.wt ≤ 140737488355328) := fun r hr l hl => row_form hc hr (Or.inr hl)
  obtain ⟨V, hV⟩ : ∃ V, lens (rowL h.upF h.up) h.node.length s = V := ⟨_, rfl⟩
  have HEND : Hid (snTo V (rowL h.dnF h.dn) h.node.length = upL h s) := by show _ = _; rw [← hV]; exact snTo_end hs hrowu
  have HVB : Hid (V.length = h.node.length ∧ ∀ (x : Nat) (d : Int), V[x]? = some (some d) → 0 ≤ d ∧ d < 9223372036854775808) := by
    refine ⟨by rw [← hV]; exact lens_len hs hrowu, fun x d hx => ?_⟩
    have hlt : x < h.node.length := by have := (List.getElem?_eq_some_iff.1 hx).1; rw [← hV, lens_len hs hrowu] at this; exact this
    have q : (x, d) ∈ (upL h s).map (fun x => (x.1, x.2.1)) := by
      rw [show (upL h s).map (fun x => (x.1, x.2.1)) = outs (lens (rowL h.upF h.up) h.node.length s) h.node.length from climbed_outs hs hrowu, hV]; exact outs_mem.2 ⟨hlt, hx⟩
    obtain ⟨y, hy, e⟩ := List.mem_map.1 q
    have g := (Qy.up_bounds hc s).1 y hy
    simp only [Prod.mk.injEq] at e
    rw [← e.2]
    exact g
  obtain ⟨z, hz⟩ : ∃ z, w.heap.size = z := ⟨_, rfl⟩
  obtain ⟨W0, hW0⟩ : ∃ W0, w.alloc (.cells (cellsH ⟨no, uo, ul, wo, dl, nc, uc, ulc, wc, dlc⟩ h) 25) = W0 := ⟨_, rfl⟩
  have HQ : Hid (∀ wx, Below W0.heap.size W0 wx → (wx.cell? ⟨z, 0, none⟩ = some (.slice no h.node.length nc) ∧ wx.cell? ⟨z, 1, none⟩ = some (.slice uo h.upF.length uc) ∧ wx.cell? ⟨z, 2, none⟩ = some (.slice ul h.up.length ulc) ∧ wx.cell? ⟨z, 3, none⟩ = some (.slice wo h.dnF.length wc) ∧ wx.cell? ⟨z, 4, none⟩ = some (.slice dl h.dn.length dlc)) ∧ HasH wx ⟨no, uo, ul, wo, dl, nc, uc, ulc, wc, dlc⟩ h ∧ Below w.heap.size w wx) := fun wx hx => by
    have h1 : W0.heap[z]? = some (.cells (cellsH ⟨no, uo, ul, wo, dl, nc, uc, ulc, wc, dlc⟩ h) 25) := by rw [← hW0, ← hz]; exact heap_newW _ _
    have h2 : Below w.heap.size w W0 := by rw [← hW0]; exact (Below.refl _ _).alloc (Nat.le_refl _) _
    have h3 := btrH' h2 hx
    exact ⟨five_cells ((hx.block _ (some_lt h1)).trans h1), hH.keep h3, h3⟩
  have HDI : Hid (Calls Try.prog 36 #[hvl ⟨no, uo, ul, wo, dl, nc, uc, ulc, wc, dlc⟩ h, .int .i64 (s : Int)] W0 fun e w' => ∃ D, e = .returned (.slice (some ⟨D, 0, none⟩) h.node.length h.node.length) ∧ RAt u64v w' D h.node.length (dv V) ∧ W0.heap.size ≤ D ∧ Below W0.heap.size W0 w') := by
    have q := dists_aux no uo ul wo dl nc uc ulc wc dlc h s W0 (HQ.out W0 (Below.refl _ _)).2.1 hc hs
    rw [hV] at q
    exact q
  have HW0 : Hid (w.alloc (.cells (cellsH ⟨no, uo, ul, wo, dl, nc, uc, ulc, wc, dlc⟩ h) 25) = W0) := hW0
  obtain ⟨i0, hi9, hzz⟩ := Option.map_eq_some_iff.1 infoRs
  simp only [Prod.mk.injEq] at hzz
  have HI : Hid (Try.prog.info? 49 = some i0 ∧ i0.zero = some (.agg #[.int .i64 0, .int .u64 0, .bool false]) ∧ i0.size = 3 ∧ i0.bytes = 24) := ⟨hi9, hzz⟩
  obtain ⟨c0, c1, c2, c3, c4⟩ := (HQ.out W0 (Below.refl _ _)).1
  clear hW0 hH hc k3 k4 k5 k6 k7 k8 hrowu hV hi9 hzz
  unfold hvl at HDI ⊢
  unfold cellsH at HW0
  simp only at HW0 HDI ⊢
  go_enter Try.func25, Try.ntmps25
  go_upto_region 1 with fail
  rw [HW0.out]
  clear HW0 hz
  go_wp2_with fail
  refine HDI.out.mono ?_
  rintro e w1 ⟨D, rfl, hra, hDl, hb⟩
  have HB1 : Hid (Below W0.heap.size W0 w1) := hb
  have HR : Hid (∀ wx, Below w1.heap.size w1 wx → RAt u64v wx D h.node.length (dv V) ∧ ((wx.cell? ⟨z, 0, none⟩ = some (.slice no h.node.length nc) ∧ wx.cell? ⟨z, 1, none⟩ = some (.slice uo h.upF.length uc) ∧ wx.cell? ⟨z, 2, none⟩ = some (.slice ul h.up.length ulc) ∧ wx.cell? ⟨z, 3, none⟩ = some (.slice wo h.dnF.length wc) ∧ wx.cell? ⟨z, 4, none⟩ = some (.slice dl h.dn.length dlc)) ∧ HasH wx ⟨no, uo, ul, wo, dl, nc, uc, ulc, wc, dlc⟩ h ∧ Below w.heap.size w wx)) := fun wx hx => ⟨hra.keep hx, HQ.out wx (btrH' hb hx)⟩
  have HW1 : Hid (w.heap.size ≤ w1.heap.size) := (HR.out w1 (Below.refl _ _)).2.2.2.size
  clear hra hDl hb HDI HQ c0 c1 c2 c3 c4 HB1
  go_wp2_with fail
  go_loopw [6, 16] (fun mv iv wr => ∃ (r : Nat) (so : Option Addr) (sc : Nat), r ≤ h.node.length ∧ iv = .int .i64 r ∧ mv = .slice so (snTo V (rowL h.dnF h.dn) r).length sc ∧ Hid (wr.ownsRow w1.heap.size 49 3 (.slice so (snTo V (rowL h.dnF h.dn) r).length sc) (snTo V (rowL h.dnF h.dn) r).length (snv (snTo V (rowL h.dnF h.dn) r))) ∧ Hid (Below w1.heap.size w1 wr)) (fun _ iv _ => h.node.length - (intOf iv).toNat)
  case atStart => exact ⟨0, none, 0, Nat.zero_le _, rfl, rfl, World.ownsRow_nil _ _ _ _, Below.refl _ _⟩
  case round =>
    obtain ⟨r, so, sc, hr, rfl, rfl, HO, HB⟩ := hrel
    rcases Nat.lt_or_eq_of_le hr with h1 | h1
    · have hsl := snTo_len V (rowL h.dnF h.dn) r
      obtain ⟨X, hX⟩ : ∃ X, snTo V (rowL h.dnF h.dn) r = X := ⟨_, rfl⟩
      obtain ⟨m, hm⟩ : ∃ m, X.length = m := ⟨_, rfl⟩
      have HX : Hid (snTo V (rowL h.dnF h.dn) r = X ∧ X.length = m) := ⟨hX, hm⟩
      rw [hX, hm] at hsl HO ⊢
      clear hX hm
      generalize hWW3 : wr = WR at *
      clear hWW3
      have i2 : (0 : Int) ≤ (r : Int) := by omega
      have i3n : (r : Int) < (h.node.length : Int) := by omega
      have q6 : decide ((r : Int) < (h.node.length : Int)) = true := by simp; omega
      have q6n : decide (r < h.node.length) = true := by simp; omega
      rcases dv_range HVB.out.1 h1 with ⟨d, hd⟩ | hnone
      · have hd0 := HVB.out.2 r d hd
        have cdr := (HR.out WR HB.out).1.cell r h1
        rw [dv_some hd] at cdr
        have cdr' : WR.cell? ⟨D, r, none⟩ = some (.int .u64 d) := cdr
        have n1 : (d == 18446744073709551615) = false := by simp; omega
        have HHD : Hid (V[r]? = some (some d)) := hd
        clear cdr hd
        obtain ⟨bx, hbx⟩ : ∃ s, WR.heap.size = s := ⟨_, rfl⟩
        obtain ⟨W2, hW2⟩ : ∃ W2, WR.alloc (.cells #[.int .i64 (r : Int), .int .u64 d, .bool false] 49) = W2 := ⟨_, rfl⟩
        have HW2 : Hid (WR.alloc (.cells #[.int .i64 (r : Int), .int .u64 d, .bool false] 49) = W2) := hW2
        have H2 : Hid (∀ wx, Below W2.heap.size W2 wx → wx.heap[bx]? = some (.cells #[.int .i64 (r : Int), .int .u64 d, .bool false] 49) ∧ wx.ownsRow w1.heap.size 49 3 (.slice so m sc) m (snv X) ∧ Below w1.heap.size w1 wx) := fun wx hx => by
          have g1 : W2.heap[bx]? = some (.cells #[.int .i64 (r : Int), .int .u64 d, .bool false] 49) := by rw [← hW2, ← hbx]; exact heap_newW _ _
          have g2 : Below WR.heap.size WR W2 := by rw [← hW2]; exact (Below.refl _ _).alloc (Nat.le_refl _) _
          have g3 := btrH' g2 hx
          exact ⟨(hx.block _ (some_lt g1)).trans g1, own_upO HO.out g3, btrH' HB.out g3⟩
        have HOB : Hid ((∀ g, (Value.slice so m sc).ownBlock = some g → g ≠ bx) ∧ w1.heap.size ≤ bx) := by
          refine ⟨fun g hg => ?_, by rw [← hbx]; exact HB.out.size⟩
          have := HO.out.lt g hg
          omega
        clear hW2 HO HB
        go_upto_region 8 with fail
        rw [HW2.out]
        clear HW2 hbx cdr'
        have HB5 : Hid (Below w1.heap.size w1 W2) := (H2.out W2 (Below.refl _ _)).2.2
        obtain ⟨c0, c1, c2, c3, c4⟩ := (HR.out W2 HB5.out).2.1
        have hF := (HR.out W2 HB5.out).2.2.1.dnF
        have hU := (HR.out W2 HB5.out).2.2.1.dn
        obtain ⟨fb, foff, e1, hbl, hcF⟩ := hF.cells (by rw [HK.out.2]; omega)
        have ca := hcF r (by rw [HK.out.2]; omega)
        have cb := hcF (r + 1) (by rw [HK.out.2]; omega)
        have hxy := HK.out.1.le r (by rw [HK.out.2]; omega)
        have hyL := HK.out.1.atmost (a := r + 1) (by rw [HK.out.2]; omega)
        have hcap : h.dn.length ≤ dlc := hU.cap
        obtain ⟨so2, hso, hcut⟩ := cut_lks dl h.dn.length dlc (nth h.dnF r) (nth h.dnF (r + 1)) hxy (by omega)
        have HLS0 : Hid (∀ wx, Below w1.heap.size w1 wx → (rowL h.dnF h.dn r).length = nth h.dnF (r + 1) - nth h.dnF r ∧ HasLs wx (.slice so2 (nth h.dnF (r + 1) - nth h.dnF r) (dlc - nth h.dnF r)) (rowL h.dnF h.dn r)) := fun wx hx => ls_cut HK.out.1 (by rw [HK.out.2]; omega) (HR.out wx hx).2.2.1.dn hso
        obtain ⟨x, hx⟩ : ∃ x, nth h.dnF r = x := ⟨_, rfl⟩
        obtain ⟨y, hy⟩ : ∃ y, nth h.dnF (r + 1) = y := ⟨_, rfl⟩
        obtain ⟨T, hT⟩ : ∃ T, y - x = T := ⟨_, rfl⟩
        rw [hx, hy, hT] at hcut HLS0
        rw [hx] at ca
        rw [hy] at cb
        have HTL : Hid ((rowL h.dnF h.dn r).length = T) := (HLS0.out W2 HB5.out).1
        have HLS : Hid (∀ wx, Below w1.heap.size w1 wx → HasLs wx (.slice so2 T (dlc - x)) (rowL h.dnF h.dn r)) := fun wx hx => (HLS0.out wx hx).2
        obtain ⟨fu, hfu⟩ : ∃ fu, h.dnF.length = fu := ⟨_, rfl⟩
        have hfn : fu = h.node.length + 1 := by rw [← hfu]; exact HK.out.2
        have i3 : (r : Int) < (fu : Int) := by omega
        have i4 : (r : Int) + 1 < (fu : Int) := by omega
        have i5 : IntKind.i64.wrap ((r : Int) + 1) = (r : Int) + 1 := by rw [IntKind.wrap_i64]; omega
        rw [hfu] at c3
        have HFU : Hid (h.dnF.length = fu) := hfu
        have hTb : T ≤ 1152921504606846976 := by omega
        clear hso hF hU hcF hxy hcap hx hy hT hfu hfn HLS0 hyL hbl
        subst e1
        go_quiet (fail)
        obtain ⟨WQ, hWQ⟩ : ∃ WQ, W2.drewN nq = WQ := ⟨_, rfl⟩
        rw [hWQ]
        have HWQ : Hid (WQ.heap[bx]? = some (.cells #[.int .i64 (r : Int), .int .u64 d, .bool false] 49) ∧ WQ.ownsRow w1.heap.size 49 3 (.slice so m sc) m (snv X) ∧ Below w1.heap.size w1 WQ) := by
          have g : Below W2.heap.size W2 WQ := by rw [← hWQ]; exact bdrew (Below.refl _ _) _
          exact H2.out WQ g
        clear hWQ c0 c1 c2 c3 c4 ca cb hcut H2 HB5
        go_wp2_with fail
        go_loopw [45] (fun iv wr => ∃ t : Nat, t ≤ T ∧ iv = .int .i64 t ∧ Hid (wr.heap[bx]? = some (.cells #[.int .i64 (r : Int), .int .u64 d, .bool (stalled V ((rowL h.dnF h.dn r).take t) d)] 49)) ∧ Hid (wr.ownsRow w1.heap.size 49 3 (.slice so m sc) m (snv X)) ∧ Hid (Below w1.heap.size w1 wr)) (fun iv _ => T - (intOf iv).toNat)
        case atStart => exact ⟨0, Nat.zero_le _, rfl, HWQ.out.1, HWQ.out.2.1, HWQ.out.2.2⟩
        case round =>
          obtain ⟨t, ht, rfl, HX4, HO4, HB4⟩ := hrel
          rcases Nat.lt_or_eq_of_le ht with h2 | h2
          · obtain ⟨l, hl⟩ : ∃ l, (rowL h.dnF h.dn r)[t]? = some l := ⟨_, List.getElem?_eq_getElem (by rw [HTL.out]; exact h2)⟩
            have hlm : l ∈ rowL h.dnF h.dn r := List.mem_of_getElem? hl
            obtain ⟨hlo, lb, loff, e1, hll, l0, l1, l2, l3⟩ := (HLS.out wr HB4.out).at hl
            obtain ⟨lh, lw, ll, lr⟩ := l
            simp only at l0 l1 l2 l3
            obtain ⟨hl1, hl2, hl3⟩ := HROW.out r h1 _ hlm
            have hlh : lh < h.node.length := hl2
            have hlw : lw ≤ 140737488355328 := hl3
            have HSN : Hid ((stalled V ((rowL h.dnF h.dn r).take (t + 1)) d) = ((stalled V ((rowL h.dnF h.dn r).take t) d) || shorter V ⟨lh, lw, ll, lr⟩ d)) := stalled_snoc hl
            subst e1
            have j2 : (0 : Int) ≤ (t : Int) := by omega
            have j3 : (t : Int) < (T : Int) := by omega
            have j4 : (0 : Int) ≤ (lh : Int) := by omega
            have j5 : (lh : Int) < (h.node.length : Int) := by omega
            have j8 : IntKind.i64.wrap (lh : Int) = (lh : Int) := by rw [IntKind.wrap_i64]; omega
            have q8 : decide ((t : Int) < (T : Int)) = true := by simp; omega
            have q8n : decide (t < T) = true := by simp; omega
            obtain ⟨by9, hby⟩ : ∃ s, wr.heap.size = s := ⟨_, rfl⟩
            obtain ⟨W3, hW3⟩ : ∃ W3, wr.alloc (.cells #[.int .u32 (lh : Int), .int .u64 (lw : Int), .int .u32 (ll : Int), .int .u32 (lr : Int)] 64) = W3 := ⟨_, rfl⟩
            have HW3 : Hid (wr.alloc (.cells #[.int .u32 (lh : Int), .int .u64 (lw : Int), .int .u32 (ll : Int), .int .u32 (lr : Int)] 64) = W3) := hW3
            have H3 : Hid (∀ wx, Below W3.heap.size W3 wx → wx.heap[by9]? = some (.cells #[.int .u32 (lh : Int), .int .u64 (lw : Int), .int .u32 (ll : Int), .int .u32 (lr : Int)] 64) ∧ wx.heap[bx]? = some (.cells #[.int .i64 (r : Int), .int .u64 d, .bool (stalled V ((rowL h.dnF h.dn r).take t) d)] 49) ∧ wx.ownsRow w1.heap.size 49 3 (.slice so m sc) m (snv X) ∧ Below w1.heap.size w1 wx) := fun wx hx => by
              have g1 : W3.heap[by9]? = some (.cells #[.int .u32 (lh : Int), .int .u64 (lw : Int), .int .u32 (ll : Int), .int .u32 (lr : Int)] 64) := by rw [← hW3, ← hby]; exact heap_newW _ _
              have g2 : Below wr.heap.size wr W3 := by rw [← hW3]; exact (Below.refl _ _).alloc (Nat.le_refl _) _
              have g3 := btrH' g2 hx
              exact ⟨(hx.block _ (some_lt g1)).trans g1, (g3.block _ (some_lt HX4.out)).trans HX4.out, own_upO HO4.out g3, btrH' HB4.out g3⟩
            clear hW3 hl hl1 hl2 hl3 hlo hll hlm HX4 HO4 HB4
            go_upto_region 11 with fail
            rw [HW3.out]
            clear HW3 l0 l1 l2 l3 hby
            obtain ⟨b0, b1, b2, b3⟩ := four_c20 (H3.out W3 (Below.refl _ _)).1
            have HRX := (HR.out W3 (H3.out W3 (Below.refl _ _)).2.2.2).1
            have cdr := HRX.cell r h1
            rw [dv_some HHD.out] at cdr
            have cdr' : W3.cell? ⟨D, r, none⟩ = some (.int .u64 d) := cdr
            have clh := HRX.cell lh hlh
            clear cdr HRX
            have HNO : Hid (∀ nq, shorter V ⟨lh, lw, ll, lr⟩ d = false → ∀ wy, wy = W3.drewN nq → wy.heap[bx]? = some (.cells #[.int .i64 (r : Int), .int .u64 d, .bool (stalled V ((rowL h.dnF h.dn r).take (t + 1)) d)] 49) ∧ wy.ownsRow w1.heap.size 49 3 (.slice so m sc) m (snv X) ∧ Below w1.heap.size w1 wy) := fun nq hsh wy e => by
              subst e
              obtain ⟨_, g2, g3, g4⟩ := H3.out (W3.drewN nq) (bdrew (Below.refl _ _) nq)
              refine ⟨?_, g3, g4⟩
              rw [HSN.out, hsh, Bool.or_false]
              exact g2
            have HYES : Hid (∀ nq, shorter V ⟨lh, lw, ll, lr⟩ d = true → ∀ wy, wy = W3.drewN nq → (wy.cell? ⟨bx, 2, none⟩ = some (.bool (stalled V ((rowL h.dnF h.dn r).take t) d)) ∧ wy.frozen? ⟨bx, 2, none⟩ = false) ∧ (wy.setCell ⟨bx, 2, none⟩ (.bool true)).heap[bx]? = some (.cells #[.int .i64 (r : Int), .int .u64 d, .bool (stalled V ((rowL h.dnF h.dn r).take (t + 1)) d)] 49) ∧ (wy.setCell ⟨bx, 2, none⟩ (.bool true)).ownsRow w1.heap.size 49 3 (.slice so m sc) m (snv X) ∧ Below w1.heap.size w1 (wy.setCell ⟨bx, 2, none⟩ (.bool true))) := fun nq hsh wy e => by
              subst e
              obtain ⟨_, g2, g3, g4⟩ := H3.out (W3.drewN nq) (bdrew (Below.refl _ _) nq)
              obtain ⟨⟨_, _, p2⟩, _, _, p5⟩ := three_c20 g2
              refine ⟨⟨p2, p5⟩, ?_, own_far g3 HOB.out.1, g4.setCell (p := ⟨bx, 2, none⟩) HOB.out.2 _⟩
              rw [HSN.out, hsh, Bool.or_true]
              exact set_third g2 _
            rcases dv_range HVB.out.1 hlh with ⟨a, ha⟩ | hnone
            · have ha0 := HVB.out.2 lh a ha
              rw [dv_some ha] at clh
              have clh' : W3.cell? ⟨D, lh, none⟩ = some (.int .u64 a) := clh
              have n2 : (a != 18446744073709551615) = true := by simp; omega
              have n3 : IntKind.u64.wrap (a + (lw : Int)) = a + (lw : Int) := by rw [IntKind.wrap_u64]; omega
              have hshs : shorter V ⟨lh, lw, ll, lr⟩ d = decide (a + (lw : Int) < d) := shorter_some (l := ⟨lh, lw, ll, lr⟩) ha
              clear clh ha
              by_cases hsh : a + (lw : Int) < d
              · have n4 : decide (a + (lw : Int) < d) = true := by simpa using hsh
                have HSH : Hid (shorter V ⟨lh, lw, ll, lr⟩ d = true) := by show _ = _; rw [hshs, n4]
                clear hshs hsh
                go_quiet (fail)
                obtain ⟨WY, hWY⟩ : ∃ WY, W3.drewN nq = WY := ⟨_, rfl⟩
                obtain ⟨⟨p2, p5⟩, e5, e6, e7⟩ := HYES.out nq HSH.out WY hWY.symm
                have H9 : Hid (type_of% (And.intro e5 (And.intro e6 e7))) := ⟨e5, e6, e7⟩
                rw [hWY]
                clear hWY e5 e6 e7
                clear HNO HYES H3 b0 b1 b2 b3 cdr' clh'
                go_wp2
                go_roundw
                case rel => exact ⟨t + 1, by omega, by go_num, H9.out.1, H9.out.2.1, H9.out.2.2⟩
                case measure => simp [intOf]; omega
              · have n4 : decide (a + (lw : Int) < d) = false := by simpa using hsh
                have HSH : Hid (shorter V ⟨lh, lw, ll, lr⟩ d = false) := by show _ = _; rw [hshs, n4]
                clear hshs hsh
                go_quiet (fail)
                obtain ⟨WY, hWY⟩ : ∃ WY, W3.drewN nq = WY := ⟨_, rfl⟩
                have H9 : Hid (type_of% (HNO.out nq HSH.out WY hWY.symm)) := HNO.out nq HSH.out WY hWY.symm
                rw [hWY]
                clear hWY
                clear HNO HYES H3 b0 b1 b2 b3 cdr' clh'
                go_wp2
                go_roundw
                case rel => exact ⟨t + 1, by omega, by go_num, H9.out.1, H9.out.2.1, H9.out.2.2⟩
                case measure => simp [intOf]; omega
            · have hvn : ∀ a, V[lh]? ≠ some (some a) := fun a ha => by rw [hnone] at ha; cases ha
              rw [dv_none hvn] at clh
              have clh' : W3.cell? ⟨D, lh, none⟩ = some (.int .u64 18446744073709551615) := clh
              have HSH : Hid (shorter V ⟨lh, lw, ll, lr⟩ d = false) := shorter_none (l := ⟨lh, lw, ll, lr⟩) hvn
              clear clh hnone hvn
              go_quiet (fail)
              obtain ⟨WY, hWY⟩ : ∃ WY, W3.drewN nq = WY := ⟨_, rfl⟩
              have H9 : Hid (type_of% (HNO.out nq HSH.out WY hWY.symm)) := HNO.out nq HSH.out WY hWY.symm
              rw [hWY]
              clear hWY
              clear HNO HYES H3 b0 b1 b2 b3 cdr' clh'
              go_wp2
              go_roundw
              case rel => exact ⟨t + 1, by omega, by go_num, H9.out.1, H9.out.2.1, H9.out.2.2⟩
              case measure => simp [intOf]; omega
          · have q8 : decide ((t : Int) < (T : Int)) = false := by simp; omega
            have q8n : decide (t < T) = false := by simp; omega
            obtain ⟨bb, hbb⟩ : ∃ bb, stalled V (rowL h.dnF h.dn r) d = bb := ⟨_, rfl⟩
            have HBX : Hid (wr.heap[bx]? = some (.cells #[.int .i64 (r : Int), .int .u64 d, .bool bb] 49)) := by
              have g := HX4.out
              rw [h2, ← HTL.out, List.take_length, hbb] at g
              exact g
            have HX2 : Hid (snTo V (rowL h.dnF h.dn) (r + 1) = X ++ [(r, d, bb)]) := by show _ = _; rw [snTo_hit HHD.out, HX.out.1, hbb]
            clear h2 ht HX4 hbb
            obtain ⟨⟨b0, b1, b2⟩, _⟩ := three_c20 HBX.out
            go_wp2_with (at_builtin; refine wpList_append_own _ rfl _ _ 39 rfl w1.heap.size 49 i0 (.agg #[.int .i64 0, .int .u64 0, .bool false]) 3 24 Try.underlying39 HI.out.1 HI.out.2.1 HI.out.2.2.1 HI.out.2.2.2 rfl (by decide) _ m (snv X) rfl (HO4.out.alloc _) ⟨wr.heap.size, 0, none⟩ 1 1 (snv [(r, d, bb)]) rfl rfl (new_cells wr (snv [(r, d, bb)]) 49) (snv_one _) (by unfold maxLen; omega) (by omega) (by have := HB4.out.size; simp; omega) ?_; intro v5 w5 hown5 hgr5 _; have H5 : Hid (w5.ownsRow w1.heap.size 49 3 v5 (m + 1) (snv (X ++ [(r, d, bb)])) ∧ Below w1.heap.size w1 w5) := ⟨by rw [snv_append]; exact hown5, below_grown (HB4.out.alloc HB4.out.size _) (HO4.out.alloc _) hgr5 (by have := HB4.out.size; simp; omega)⟩; clear hown5 hgr5; obtain ⟨po, pc, hv5⟩ := own_slice H5.out.1; subst hv5)
            have HXL : Hid ((X ++ [(r, d, bb)]).length = m + 1) := by show _ = _; rw [List.length_append, HX.out.2]; rfl
            exact ⟨⟨r + 1, po, pc, by omega, by rw [show (r : Int) + 1 = ((r + 1 : Nat) : Int) by omega], by rw [HX2.out, HXL.out], by rw [HX2.out, HXL.out]; exact H5.out.1, H5.out.2⟩, by simp only [intOf]; omega⟩
      · have hvn : ∀ d, V[r]? ≠ some (some d) := fun d hd => by rw [hnone] at hd; cases hd
        have cdr := (HR.out WR HB.out).1.cell r h1
        rw [dv_none hvn] at cdr
        have cdr' : WR.cell? ⟨D, r, none⟩ = some (.int .u64 18446744073709551615) := cdr
        have HX2 : Hid (snTo V (rowL h.dnF h.dn) (r + 1) = X) := by show _ = _; rw [snTo_miss hvn]; exact HX.out.1
        clear cdr hnone hvn
        go_wp2
        go_roundw
        case rel => exact ⟨r + 1, so, sc, by omega, by go_num, by rw [HX2.out, HX.out.2], by rw [HX2.out, HX.out.2]; exact HO.out, HB.out⟩
        case measure => simp [intOf]; omega
    · have q6 : decide ((r : Int) < (h.node.length : Int)) = false := by simp; omega
      have q6n : decide (r < h.node.length) = false := by simp; omega
      obtain ⟨X, hX⟩ : ∃ X, snTo V (rowL h.dnF h.dn) r = X := ⟨_, rfl⟩
      have HX : Hid (X = upL h s) := by show _ = _; rw [← hX, h1]; exact HEND.out
      rw [hX] at HO ⊢
      clear hX h1 hr
      go_wp2
      go_ret
      exact ⟨so, sc, X, HX.out, rfl, own_lowO HO.out HW1.out, (HR.out wr HB.out).2.2.2⟩

theorem rUp_calls (v : HV) (h : Hr) (s : Nat) (w : World) (hH : HasH w v h) (hc : chk h = (0, [])) (hs : s < h.node.length) :
    Calls Try.prog 25 #[hvl v h, .int .i64 (s : Int)] w fun e w' => ∃ (mo : Option Addr) (mc : Nat) (X : List (Nat × Int × Bool)), X = upL h s ∧ e = .returned (.slice mo X.length mc) ∧ w'.ownsRow w.heap.size 49 3 (.slice mo X.length mc) X.length (snv X) ∧ Below w.heap.size w w' :=
  rUp_aux v.no v.uo v.ul v.wo v.dl v.nc v.uc v.ulc v.wc v.dlc h s w hH hc hs
end Go.Proofs.Ytlehlghagddogaa.Cb
