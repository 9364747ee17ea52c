/- viaductref10.Ranks: for each link's number the rank at which it stands. (genhd.py) -/
import Derived.Test.YtodilocmfdeehaaGreatDoorHdA
import Derived.Test.YtodilocmfdeehaaGreatDoorHsA
namespace Go.Proofs.YtodilocmfdeehaaGreatDoor.Hi
open Go.RowKit Go.Extern Go.Shelf

attribute [local go_sem] Oper.semAt_some

def ivs (l : List Int) : List Value := l.map (Value.int .i64)
theorem ivs_append (l r : List Int) : ivs (l ++ r) = ivs l ++ ivs r := by simp [ivs]
theorem ivs_one (l : List Int) : ∀ u ∈ ivs l, u.oneCell' = true := by
  intro u hu
  obtain ⟨x, _, rfl⟩ := List.mem_map.1 hu
  rfl
theorem infoInt : (Tryz.prog.info? 3).map (fun i => (i.zero, i.size, i.bytes)) = some (some (.int .i64 0), 1, 8) := by kernel_rfl
def rki (l : List (Nat × Lk)) : List Int := l.map fun x => (x.1 : Int)
theorem rki_len (l : List (Nat × Lk)) : (rki l).length = l.length := List.length_map ..
theorem rki_append (l r : List (Nat × Lk)) : rki (l ++ r) = rki l ++ rki r := by simp [rki]
theorem rki_zero (F : List Nat) (L : List Lk) : rki (rkUpto F L 0) = [] := by simp [rkUpto, rki]
theorem rki_row {F : List Nat} {L : List Lk} (hF : FOk F L.length) {r : Nat} (hr : r + 1 < F.length) : rki (rowOf F L r) = List.replicate (nth F (r + 1) - nth F r) (r : Int) := by
  have h := rowOf_len hF hr
  unfold rki
  rw [List.eq_replicate_iff]
  refine ⟨by rw [List.length_map, h], fun b hb => ?_⟩
  obtain ⟨y, hy, rfl⟩ := List.mem_map.1 hb
  unfold rowOf at hy
  obtain ⟨l, _, rfl⟩ := List.mem_map.1 hy
  rfl
theorem rki_stds (h : Hr) : rki (rkL h.upF h.up) ++ rki (rkUpto h.dnF h.dn (h.dnF.length - 1)) = (stds h).map fun s => (s.rk : Int) := by
  unfold stds rki rkL
  simp [Function.comp_def, upS, dnS]
theorem rk_grown {W0 wr w5 w : World} {v : Value} {n : Nat} {A : List Value} {o : Obj} (hb : Below W0.heap.size W0 wr) (hz : w.heap.size + 1 = W0.heap.size ∧ ∃ T cs, W0.heap[w.heap.size]? = some (.cells cs T) ∧ T ≠ 3) (ho : wr.ownsRow w.heap.size 3 1 v n A) (hg : (wr.alloc o).grownBy w5 v.ownBlock) : Below W0.heap.size W0 w5 := by
  have hb' := hb.alloc hb.size o
  refine ⟨hg.os.trans hb'.os, hg.tape.trans hb'.tape, hg.output.trans hb'.output, Nat.le_trans hb'.size hg.size, fun k hk => (hg.block k (Nat.lt_of_lt_of_le hk hb'.size) (fun e => ?_)).trans (hb'.block k hk)⟩
  obtain ⟨hz1, T, cs, hz2, hT⟩ := hz
  rcases ho.2 with ⟨e1, _⟩ | ⟨g, cap, cur, e1, hg1, hh, _⟩
  · rw [e1] at e; cases e
  · rw [e1] at e
    simp [Value.ownBlock] at e
    subst e
    obtain rfl : k = w.heap.size := by omega
    have := (hb.block _ hk).trans hz2
    rw [hh] at this
    simp at this
    exact hT this.2.symm

set_option maxRecDepth 100000 in
set_option maxHeartbeats 4000000 in
theorem ranksR_calls (v : HV) (h : Hr) (w : World) (hH : HasH w v h) (hu : FOk h.upF h.up.length) (hd : FOk h.dnF h.dn.length) (hl1 : h.upF.length ≤ 65537) (hl2 : h.dnF.length ≤ 65537) (hL : h.up.length + h.dn.length ≤ 1048576) :
    Calls Tryz.prog 50 #[hvl v h] w fun e w' => ∃ mo mc, e = .returned (.slice mo (stds h).length mc) ∧ w'.ownsRow w.heap.size 3 1 (.slice mo (stds h).length mc) (stds h).length (ivs ((stds h).map fun s => (s.rk : Int))) ∧ Below w.heap.size w w' := by
  obtain ⟨i0, hi9, hzz⟩ := Option.map_eq_some_iff.1 infoInt
  simp only [Prod.mk.injEq] at hzz
  have HI : Hid (Tryz.prog.info? 3 = some i0 ∧ i0.zero = some (.int .i64 0) ∧ i0.size = 1 ∧ i0.bytes = 8) := ⟨hi9, hzz⟩
  obtain ⟨z, hz⟩ : ∃ z, w.heap.size = z := ⟨_, rfl⟩
  obtain ⟨W0, hW0⟩ : ∃ W0, w.alloc (.cells (cellsH v h) 25) = W0 := ⟨_, rfl⟩
  have hB0 : Below w.heap.size w W0 := by rw [← hW0]; exact (Below.refl _ w).alloc (Nat.le_refl _) _
  have h0 : W0.heap[z]? = some (.cells (cellsH v h) 25) := by rw [← hW0, ← hz]; exact heap_newW _ _
  have HQ : Hid (∀ wx, Below W0.heap.size W0 wx → (wx.cell? ⟨z, 0, none⟩ = some (.slice v.no h.node.length v.nc) ∧ wx.cell? ⟨z, 1, none⟩ = some (.slice v.uo h.upF.length v.uc) ∧ wx.cell? ⟨z, 2, none⟩ = some (.slice v.ul h.up.length v.ulc) ∧ wx.cell? ⟨z, 3, none⟩ = some (.slice v.wo h.dnF.length v.wc) ∧ wx.cell? ⟨z, 4, none⟩ = some (.slice v.dl h.dn.length v.dlc)) ∧ HasH wx v h ∧ Below w.heap.size w wx) := fun wx hx => by
    have g := hB0.trans (hx.mono hB0.size)
    exact ⟨five_cells ((hx.block _ (some_lt h0)).trans h0), hH.keep g, g⟩
  have HZ : Hid (w.heap.size + 1 = W0.heap.size ∧ ∃ T cs, W0.heap[w.heap.size]? = some (.cells cs T) ∧ T ≠ 3) := ⟨by rw [← hW0, World.size_alloc], 25, cellsH v h, by rw [hz]; exact h0, by decide⟩
  have HW0 : Hid (w.alloc (.cells (cellsH v h) 25) = W0) := hW0
  have HB0 : Hid (Below W0.heap.size W0 W0) := Below.refl _ _
  have HK : Hid (FOk h.upF h.up.length ∧ FOk h.dnF h.dn.length) := ⟨hu, hd⟩
  have HLN : Hid (h.upF.length ≤ 65537 ∧ h.dnF.length ≤ 65537 ∧ h.up.length + h.dn.length ≤ 1048576 ∧ 1 ≤ h.upF.length ∧ 1 ≤ h.dnF.length) := ⟨hl1, hl2, hL, hu.len, hd.len⟩
  have g1 := hu.len
  have g2 := hd.len
  clear hi9 hzz hW0 hB0 h0 hH hu hd
  unfold cellsH at HW0
  unfold hvl
  go_enter Tryz.func50, Tryz.ntmps50
  go_upto_region 1 with fail
  rw [HW0.out]
  go_wp2_with fail
  go_loopw [3, 4] (fun mv rv wr => ∃ (r : Nat) (so : Option Addr) (sc : Nat), r + 1 ≤ h.upF.length ∧ rv = .int .i64 r ∧ mv = .slice so ([] ++ rki (rkUpto h.upF h.up r)).length sc ∧ Hid (wr.ownsRow w.heap.size 3 1 (.slice so ([] ++ rki (rkUpto h.upF h.up r)).length sc) ([] ++ rki (rkUpto h.upF h.up r)).length (ivs ([] ++ rki (rkUpto h.upF h.up r))) ∧ Below W0.heap.size W0 wr)) (fun _ rv _ => h.upF.length - (intOf rv).toNat)
  case atStart => exact ⟨0, none, 0, by omega, rfl, rfl, World.ownsRow_nil _ _ _ _, HB0.out⟩
  case round =>
    obtain ⟨r, so, sc, hr, rfl, rfl, HS⟩ := hrel
    obtain ⟨⟨c0, c1, c2, c3, c4⟩, hHx, _⟩ := HQ.out wr HS.out.2
    have i9 : IntKind.i64.wrap ((r : Int) + 1) = (r : Int) + 1 := by rw [IntKind.wrap_i64]; have := HLN.out; omega
    rcases Nat.lt_or_eq_of_le hr with h1 | h1
    · obtain ⟨b, off, e1, _, hc⟩ := hHx.upF.cells (by omega)
      have ca := hc r (by omega)
      have HV : Hid (v.uo = some ⟨b, off, none⟩) := e1
      have q1 : decide ((r : Int) + 1 < (h.upF.length : Int)) = true := by simp; omega
      have q2 : decide (r + 1 < h.upF.length) = true := by simp; omega
      have i1 : (0 : Int) ≤ (r : Int) := by omega
      have i2 : (r : Int) < (h.upF.length : Int) := by omega
      have i3 : (r : Int) + 1 < (h.upF.length : Int) := by omega
      have hxy := HK.out.1.le r h1
      have hyL := HK.out.1.atmost (a := r + 1) h1
      have sx := hHx.upF.small r
      have sy := hHx.upF.small (r + 1)
      obtain ⟨x, hx⟩ : ∃ x, nth h.upF r = x := ⟨_, rfl⟩
      obtain ⟨y, hy⟩ : ∃ y, nth h.upF (r + 1) = y := ⟨_, rfl⟩
      have HXY : Hid (nth h.upF r = x ∧ nth h.upF (r + 1) = y) := ⟨hx, hy⟩
      have hlr : (rkUpto h.upF h.up r).length = x := by rw [rkUpto_len HK.out.1 r (by omega), hx]
      rw [hx] at ca hxy sx
      rw [hy] at hxy hyL sy
      rw [e1] at c1
      clear hc hHx hx hy e1
      have HS0 : Hid (wr.ownsRow w.heap.size 3 1 (.slice so ([] ++ rki (rkUpto h.upF h.up r) ++ List.replicate (x - x) (r : Int)).length sc) ([] ++ rki (rkUpto h.upF h.up r) ++ List.replicate (x - x) (r : Int)).length (ivs ([] ++ rki (rkUpto h.upF h.up r) ++ List.replicate (x - x) (r : Int))) ∧ Below W0.heap.size W0 wr) := by rw [Nat.sub_self, List.replicate_zero, List.append_nil]; exact HS.out
      have hsl : (Value.slice so ([] ++ rki (rkUpto h.upF h.up r)).length sc) = .slice so ([] ++ rki (rkUpto h.upF h.up r) ++ List.replicate (x - x) (r : Int)).length sc := by rw [Nat.sub_self, List.replicate_zero, List.append_nil]
      go_wp2_with fail
      go_loopw [3, 5] (fun mv jv wr => ∃ (j : Nat) (so : Option Addr) (sc : Nat), x ≤ j ∧ j ≤ y ∧ jv = .int .u32 j ∧ mv = .slice so ([] ++ rki (rkUpto h.upF h.up r) ++ List.replicate (j - x) (r : Int)).length sc ∧ Hid (wr.ownsRow w.heap.size 3 1 (.slice so ([] ++ rki (rkUpto h.upF h.up r) ++ List.replicate (j - x) (r : Int)).length sc) ([] ++ rki (rkUpto h.upF h.up r) ++ List.replicate (j - x) (r : Int)).length (ivs ([] ++ rki (rkUpto h.upF h.up r) ++ List.replicate (j - x) (r : Int))) ∧ Below W0.heap.size W0 wr)) (fun _ jv _ => y - (intOf jv).toNat)
      case atStart => exact ⟨x, so, sc, Nat.le_refl _, hxy, rfl, hsl, HS0.out⟩
      case round =>
        obtain ⟨j, so, sc, hxj, hjy, rfl, rfl, HJ⟩ := hrel
        obtain ⟨⟨c0, c1, c2, c3, c4⟩, hHx, _⟩ := HQ.out wr HJ.out.2
        obtain ⟨b', off', e1, _, hc⟩ := hHx.upF.cells (by omega)
        have cb := hc (r + 1) (by omega)
        rw [HXY.out.2] at cb
        rw [HV.out] at e1
        cases e1
        rw [HV.out] at c1
        clear hc hHx
        rcases Nat.lt_or_eq_of_le hjy with h2 | h2
        · have q3 : decide ((j : Int) < (y : Int)) = true := by simp; omega
          have q4 : decide (j < y) = true := by simp; omega
          have i5 : IntKind.u32.wrap ((j : Int) + 1) = (j : Int) + 1 := by rw [IntKind.wrap_u32]; omega
          obtain ⟨A, hA⟩ : ∃ A, [] ++ rki (rkUpto h.upF h.up r) ++ List.replicate (j - x) (r : Int) = A := ⟨_, rfl⟩
          have HA : Hid ([] ++ rki (rkUpto h.upF h.up r) ++ List.replicate (j + 1 - x) (r : Int) = A ++ [(r : Int)]) := by
            show _ = _
            rw [← hA, show j + 1 - x = (j - x) + 1 by omega, List.replicate_succ', ← List.append_assoc]
          have hAl : A.length ≤ 1048576 := by
            rw [← hA, List.length_append, List.length_append, List.length_replicate]
            simp only [rki_len]
            rw [hlr]
            have := HLN.out
            rw [List.length_nil]
            omega
          rw [hA] at HJ ⊢
          clear hA
          go_wp2_with (at_builtin; refine wpList_append_own _ rfl _ _ 28 rfl w.heap.size 3 i0 (.int .i64 0) 1 8 Tryz.underlying28 HI.out.1 HI.out.2.1 HI.out.2.2.1 HI.out.2.2.2 rfl (by decide) _ A.length (ivs A) rfl (HJ.out.1.alloc _) ⟨wr.heap.size, 0, none⟩ 1 1 (ivs [(r : Int)]) rfl rfl (new_cells wr (ivs [(r : Int)]) 3) (ivs_one _) (by unfold maxLen; omega) (by omega) (by have := (HQ.out wr HJ.out.2).2.2.size; simp; omega) ?_; intro v5 w5 hown5 hgr5 _; have H5 : Hid (w5.ownsRow w.heap.size 3 1 v5 (A.length + 1) (ivs (A ++ [(r : Int)])) ∧ Below W0.heap.size W0 w5) := ⟨by rw [ivs_append]; exact hown5, rk_grown HJ.out.2 HZ.out HJ.out.1 hgr5⟩; clear hown5 hgr5; obtain ⟨po, pc, hv5⟩ := own_slice H5.out.1; subst hv5)
          go_roundw
          case rel => exact ⟨j + 1, po, pc, by omega, by omega, by go_num, by rw [HA.out, List.length_append]; rfl, by rw [HA.out, List.length_append]; exact H5.out⟩
          case measure => simp [intOf]; omega
        · subst h2
          have q3 : decide ((j : Int) < (j : Int)) = false := by simp
          have HE : Hid ([] ++ rki (rkUpto h.upF h.up r) ++ List.replicate (j - x) (r : Int) = [] ++ rki (rkUpto h.upF h.up (r + 1))) := by
            show _ = _
            rw [rkUpto_succ, rki_append, rki_row HK.out.1 h1, HXY.out.1, HXY.out.2, List.append_assoc]
          rw [HE.out] at HJ ⊢
          go_wp2
          go_roundw
          case rel => exact ⟨r + 1, so, sc, by omega, by go_num, rfl, HJ.out⟩
          case measure => simp [intOf]; omega
    · have q1 : decide ((r : Int) + 1 < (h.upF.length : Int)) = false := by simp; omega
      have q2 : decide (r + 1 < h.upF.length) = false := by simp; omega
      have HE : Hid ([] ++ rki (rkUpto h.upF h.up r) = rki (rkL h.upF h.up)) := by
        show _ = _
        rw [List.nil_append, show r = h.upF.length - 1 by omega]
        rfl
      rw [HE.out] at HS ⊢
      clear hHx
      clear q1 q2 i9
      go_wp2_with fail
      go_loopw [3, 6] (fun mv rv wr => ∃ (r : Nat) (so : Option Addr) (sc : Nat), r + 1 ≤ h.dnF.length ∧ rv = .int .i64 r ∧ mv = .slice so (rki (rkL h.upF h.up) ++ rki (rkUpto h.dnF h.dn r)).length sc ∧ Hid (wr.ownsRow w.heap.size 3 1 (.slice so (rki (rkL h.upF h.up) ++ rki (rkUpto h.dnF h.dn r)).length sc) (rki (rkL h.upF h.up) ++ rki (rkUpto h.dnF h.dn r)).length (ivs (rki (rkL h.upF h.up) ++ rki (rkUpto h.dnF h.dn r))) ∧ Below W0.heap.size W0 wr)) (fun _ rv _ => h.dnF.length - (intOf rv).toNat)
      case atStart => exact ⟨0, so, sc, by omega, rfl, by rw [rki_zero, List.append_nil], by rw [rki_zero, List.append_nil]; exact HS.out⟩
      case round =>
        obtain ⟨r, so, sc, hr, rfl, rfl, HS⟩ := hrel
        obtain ⟨⟨c0, c1, c2, c3, c4⟩, hHx, _⟩ := HQ.out wr HS.out.2
        have i9 : IntKind.i64.wrap ((r : Int) + 1) = (r : Int) + 1 := by rw [IntKind.wrap_i64]; have := HLN.out; omega
        rcases Nat.lt_or_eq_of_le hr with h1 | h1
        · obtain ⟨b, off, e1, _, hc⟩ := hHx.dnF.cells (by omega)
          have ca := hc r (by omega)
          have HV : Hid (v.wo = some ⟨b, off, none⟩) := e1
          have q1 : decide ((r : Int) + 1 < (h.dnF.length : Int)) = true := by simp; omega
          have q2 : decide (r + 1 < h.dnF.length) = true := by simp; omega
          have i1 : (0 : Int) ≤ (r : Int) := by omega
          have i2 : (r : Int) < (h.dnF.length : Int) := by omega
          have i3 : (r : Int) + 1 < (h.dnF.length : Int) := by omega
          have hxy := HK.out.2.le r h1
          have hyL := HK.out.2.atmost (a := r + 1) h1
          have sx := hHx.dnF.small r
          have sy := hHx.dnF.small (r + 1)
          obtain ⟨x, hx⟩ : ∃ x, nth h.dnF r = x := ⟨_, rfl⟩
          obtain ⟨y, hy⟩ : ∃ y, nth h.dnF (r + 1) = y := ⟨_, rfl⟩
          have HXY : Hid (nth h.dnF r = x ∧ nth h.dnF (r + 1) = y) := ⟨hx, hy⟩
          have hlr : (rkUpto h.dnF h.dn r).length = x := by rw [rkUpto_len HK.out.2 r (by omega), hx]
          rw [hx] at ca hxy sx
          rw [hy] at hxy hyL sy
          rw [e1] at c3
          clear hc hHx hx hy e1
          have HS0 : Hid (wr.ownsRow w.heap.size 3 1 (.slice so (rki (rkL h.upF h.up) ++ rki (rkUpto h.dnF h.dn r) ++ List.replicate (x - x) (r : Int)).length sc) (rki (rkL h.upF h.up) ++ rki (rkUpto h.dnF h.dn r) ++ List.replicate (x - x) (r : Int)).length (ivs (rki (rkL h.upF h.up) ++ rki (rkUpto h.dnF h.dn r) ++ List.replicate (x - x) (r : Int))) ∧ Below W0.heap.size W0 wr) := by rw [Nat.sub_self, List.replicate_zero, List.append_nil]; exact HS.out
          have hsl : (Value.slice so (rki (rkL h.upF h.up) ++ rki (rkUpto h.dnF h.dn r)).length sc) = .slice so (rki (rkL h.upF h.up) ++ rki (rkUpto h.dnF h.dn r) ++ List.replicate (x - x) (r : Int)).length sc := by rw [Nat.sub_self, List.replicate_zero, List.append_nil]
          go_wp2_with fail
          go_loopw [3, 7] (fun mv jv wr => ∃ (j : Nat) (so : Option Addr) (sc : Nat), x ≤ j ∧ j ≤ y ∧ jv = .int .u32 j ∧ mv = .slice so (rki (rkL h.upF h.up) ++ rki (rkUpto h.dnF h.dn r) ++ List.replicate (j - x) (r : Int)).length sc ∧ Hid (wr.ownsRow w.heap.size 3 1 (.slice so (rki (rkL h.upF h.up) ++ rki (rkUpto h.dnF h.dn r) ++ List.replicate (j - x) (r : Int)).length sc) (rki (rkL h.upF h.up) ++ rki (rkUpto h.dnF h.dn r) ++ List.replicate (j - x) (r : Int)).length (ivs (rki (rkL h.upF h.up) ++ rki (rkUpto h.dnF h.dn r) ++ List.replicate (j - x) (r : Int))) ∧ Below W0.heap.size W0 wr)) (fun _ jv _ => y - (intOf jv).toNat)
          case atStart => exact ⟨x, so, sc, Nat.le_refl _, hxy, rfl, hsl, HS0.out⟩
          case round =>
            obtain ⟨j, so, sc, hxj, hjy, rfl, rfl, HJ⟩ := hrel
            obtain ⟨⟨c0, c1, c2, c3, c4⟩, hHx, _⟩ := HQ.out wr HJ.out.2
            obtain ⟨b', off', e1, _, hc⟩ := hHx.dnF.cells (by omega)
            have cb := hc (r + 1) (by omega)
            rw [HXY.out.2] at cb
            rw [HV.out] at e1
            cases e1
            rw [HV.out] at c3
            clear hc hHx
            rcases Nat.lt_or_eq_of_le hjy with h2 | h2
            · have q3 : decide ((j : Int) < (y : Int)) = true := by simp; omega
              have q4 : decide (j < y) = true := by simp; omega
              have i5 : IntKind.u32.wrap ((j : Int) + 1) = (j : Int) + 1 := by rw [IntKind.wrap_u32]; omega
              obtain ⟨A, hA⟩ : ∃ A, rki (rkL h.upF h.up) ++ rki (rkUpto h.dnF h.dn r) ++ List.replicate (j - x) (r : Int) = A := ⟨_, rfl⟩
              have HA : Hid (rki (rkL h.upF h.up) ++ rki (rkUpto h.dnF h.dn r) ++ List.replicate (j + 1 - x) (r : Int) = A ++ [(r : Int)]) := by
                show _ = _
                rw [← hA, show j + 1 - x = (j - x) + 1 by omega, List.replicate_succ', ← List.append_assoc]
              have hAl : A.length ≤ 1048576 := by
                rw [← hA, List.length_append, List.length_append, List.length_replicate]
                simp only [rki_len]
                rw [hlr]
                have := HLN.out
                rw [rkL_len HK.out.1]
                omega
              rw [hA] at HJ ⊢
              clear hA
              go_wp2_with (at_builtin; refine wpList_append_own _ rfl _ _ 28 rfl w.heap.size 3 i0 (.int .i64 0) 1 8 Tryz.underlying28 HI.out.1 HI.out.2.1 HI.out.2.2.1 HI.out.2.2.2 rfl (by decide) _ A.length (ivs A) rfl (HJ.out.1.alloc _) ⟨wr.heap.size, 0, none⟩ 1 1 (ivs [(r : Int)]) rfl rfl (new_cells wr (ivs [(r : Int)]) 3) (ivs_one _) (by unfold maxLen; omega) (by omega) (by have := (HQ.out wr HJ.out.2).2.2.size; simp; omega) ?_; intro v5 w5 hown5 hgr5 _; have H5 : Hid (w5.ownsRow w.heap.size 3 1 v5 (A.length + 1) (ivs (A ++ [(r : Int)])) ∧ Below W0.heap.size W0 w5) := ⟨by rw [ivs_append]; exact hown5, rk_grown HJ.out.2 HZ.out HJ.out.1 hgr5⟩; clear hown5 hgr5; obtain ⟨po, pc, hv5⟩ := own_slice H5.out.1; subst hv5)
              go_roundw
              case rel => exact ⟨j + 1, po, pc, by omega, by omega, by go_num, by rw [HA.out, List.length_append]; rfl, by rw [HA.out, List.length_append]; exact H5.out⟩
              case measure => simp [intOf]; omega
            · subst h2
              have q3 : decide ((j : Int) < (j : Int)) = false := by simp
              have HE : Hid (rki (rkL h.upF h.up) ++ rki (rkUpto h.dnF h.dn r) ++ List.replicate (j - x) (r : Int) = rki (rkL h.upF h.up) ++ rki (rkUpto h.dnF h.dn (r + 1))) := by
                show _ = _
                rw [rkUpto_succ, rki_append, rki_row HK.out.2 h1, HXY.out.1, HXY.out.2, List.append_assoc]
              rw [HE.out] at HJ ⊢
              go_wp2
              go_roundw
              case rel => exact ⟨r + 1, so, sc, by omega, by go_num, rfl, HJ.out⟩
              case measure => simp [intOf]; omega
        · have q1 : decide ((r : Int) + 1 < (h.dnF.length : Int)) = false := by simp; omega
          have q2 : decide (r + 1 < h.dnF.length) = false := by simp; omega
          have HE : Hid (rki (rkL h.upF h.up) ++ rki (rkUpto h.dnF h.dn r) = (stds h).map fun s => (s.rk : Int)) := by
            show _ = _
            rw [show r = h.dnF.length - 1 by omega]
            exact rki_stds h
          rw [HE.out] at HS ⊢
          clear hHx
          go_wp2
          go_ret
          have hlen : ((stds h).map fun s => (s.rk : Int)).length = (stds h).length := List.length_map ..
          rw [hlen] at HS
          exact ⟨so, sc, by rw [hlen]; rfl, HS.out.1, (HQ.out wr HS.out.2).2.2⟩
end Go.Proofs.YtodilocmfdeehaaGreatDoor.Hi
