/- the law ImageBursts. (Printed by genik.py.) -/
import Derived.Test.YtamedcnjanichaaDoorIjX
import Derived.Test.YtamedcnjanichaaDoorCrG3
namespace Go.Proofs.YtamedcnjanichaaDoor
open Go.RowKit Go.Extern Cr

attribute [local go_sem] Oper.semAt_some

theorem hasB_lenI {w : World} {B n qc : Nat} {qo : Option Addr} {q : List Nat} (h : w.ownsRow B 5 1 (.slice qo n qc) n (bv q)) (e : q.length = n) : HasB w (.slice qo n qc) q := by
  subst e
  exact hasB_own h

set_option maxRecDepth 100000 in
set_option maxHeartbeats 4000000 in
theorem imageBursts_calls (v : Hi.HV) (h : Hi.Hr) (at_ : Int) (mask : Nat) (w : World) (hH : Hi.HasH w v h) (hr : Hi.Reach h) (hN : NilH v) (hf : HasFours w) (hg : 1 < w.heap.size) (hty : HasType w) :
    Calls Tryd.prog 4 #[Hi.hvl v h, .int .i64 at_, .int .u32 (mask : Int)] w fun e w' => e = .returned (.bool true) ∧ Below w.heap.size w w' := by
  have hb1 : h.up.length ≤ 1152921504606846976 := by have := hr.up; omega
  have hb2 : h.dn.length ≤ 1152921504606846976 := by have := hr.dn; omega
  have hb3 : h.node.length ≤ 1152921504606846976 := by have := hr.node; omega
  obtain ⟨W0, hW0⟩ : ∃ W0, w.alloc (.cells #[.slice v.no h.node.length v.nc, .slice v.uo h.upF.length v.uc, .slice v.ul h.up.length v.ulc, .slice v.wo h.dnF.length v.wc, .slice v.dl h.dn.length v.dlc] 25) = W0 := ⟨_, rfl⟩
  have HW0 : Hid (w.alloc (.cells #[.slice v.no h.node.length v.nc, .slice v.uo h.upF.length v.uc, .slice v.ul h.up.length v.ulc, .slice v.wo h.dnF.length v.wc, .slice v.dl h.dn.length v.dlc] 25) = W0) := hW0
  have hB0 : Below w.heap.size w W0 := by rw [← hW0]; exact (Below.refl _ _).alloc (Nat.le_refl _) _
  have hbx : W0.heap[w.heap.size]? = some (.cells #[.slice v.no h.node.length v.nc, .slice v.uo h.upF.length v.uc, .slice v.ul h.up.length v.ulc, .slice v.wo h.dnF.length v.wc, .slice v.dl h.dn.length v.dlc] 25) := by rw [← hW0]; exact heap_new _ _
  have HX : Hid (∀ wx, Below W0.heap.size W0 wx → (wx.cell? ⟨w.heap.size, 0, none⟩ = some (.slice v.no h.node.length v.nc) ∧ wx.cell? ⟨w.heap.size, 1, none⟩ = some (.slice v.uo h.upF.length v.uc) ∧ wx.cell? ⟨w.heap.size, 2, none⟩ = some (.slice v.ul h.up.length v.ulc) ∧ wx.cell? ⟨w.heap.size, 3, none⟩ = some (.slice v.wo h.dnF.length v.wc) ∧ wx.cell? ⟨w.heap.size, 4, none⟩ = some (.slice v.dl h.dn.length v.dlc)) ∧ w.heap.size < wx.heap.size ∧ Below w.heap.size w wx) := fun wx hb => by
    have q := (hb.block _ (w_lt_get hbx)).trans hbx
    exact ⟨cells5 q, w_lt_get q, hB0.trans (hb.mono hB0.size)⟩
  have HV : Hid (∀ wx, Below W0.heap.size W0 wx → Hi.HasH wx v h) := fun wx hb => hH.keep (HX.out wx hb).2.2
  have HFR : Hid (∀ wx, Below W0.heap.size W0 wx → HasFours wx ∧ 1 < wx.heap.size ∧ HasType wx) := fun wx hb => ⟨fours_keep hf hg (HX.out wx hb).2.2, Nat.lt_of_lt_of_le hg (HX.out wx hb).2.2.size, hty.keep (HX.out wx hb).2.2 hty.pos⟩
  have HAW : Hid (Calls Tryd.prog 7 #[] W0 fun e w' => e = .returned (.bool true) ∧ Below W0.heap.size W0 w') := awake19_calls W0 (HFR.out W0 (Below.refl _ _)).1 (HFR.out W0 (Below.refl _ _)).2.1
  have HGR : Hid (∀ wx, Calls Tryd.prog 8 #[.agg #[.slice v.no h.node.length v.nc, .slice v.uo h.upF.length v.uc, .slice v.ul h.up.length v.ulc, .slice v.wo h.dnF.length v.wc, .slice v.dl h.dn.length v.dlc]] wx fun e w' => e = .returned (.bool (greatI h)) ∧ Below wx.heap.size wx w') := fun wx => great19_calls v h wx hb1 hb2
  by_cases hc : Hi.chk h = (0, [])
  · have hi : ImgOk (imB h) h := imB_ok (small_of_chk hc) (imW_ok (small_of_chk hc) hH)
    have hok : OkH h := ⟨Hi.HasWs.ok hH.node, Hi.HasWs.ok hH.upF, (fun x hx => by obtain ⟨j, hj⟩ := List.getElem?_of_mem hx; exact (hH.up.at hj).1), Hi.HasWs.ok hH.dnF, (fun x hx => by obtain ⟨j, hj⟩ := List.getElem?_of_mem hx; exact (hH.dn.at hj).1)⟩
    have hshort : Hi.Short h := by
      obtain ⟨s1, s2, s3, s4, s5⟩ := small_of_chk hc
      exact ⟨by omega, by omega, by omega, by omega, by omega⟩
    obtain ⟨L, hLe⟩ : ∃ L, imB h = L := ⟨_, rfl⟩
    have HEN : Hid (∀ wx, Below W0.heap.size W0 wx → Calls Tryd.prog 9 #[.agg #[.slice v.no h.node.length v.nc, .slice v.uo h.upF.length v.uc, .slice v.ul h.up.length v.ulc, .slice v.wo h.dnF.length v.wc, .slice v.dl h.dn.length v.dlc]] wx fun e w' => ∃ mo mc, e = .returned (.tuple #[.slice mo L.length mc, .nilIface]) ∧ (HasB w' (.slice mo L.length mc) L ∧ L.length ≤ mc ∧ (mo = none → mc = 0)) ∧ Below wx.heap.size wx w') := fun wx hb => by
      refine (encode_good v h wx (HV.out wx hb) hN hc (HFR.out wx hb).1 (HFR.out wx hb).2.1).mono ?_
      rintro e w' ⟨mo, mc, rfl, ho, hb2⟩
      rw [hLe] at ho ⊢
      exact ⟨mo, mc, rfl, ⟨hasB_own ho, own_cap ho⟩, hb2⟩
    rw [hLe] at hi
    have hL : L.length ≤ 100000000 := by
      have q1 := hi.len
      have q2 := hi.sm.n
      have q3 := hi.sm.u
      have q4 := hi.sm.d
      omega
    have HDG : Hid (∀ wx qo qc, Below W0.heap.size W0 wx → HasB wx (.slice qo L.length qc) L → L.length ≤ qc → Calls Tryd.prog 12 #[.slice qo L.length qc] wx fun e w' => ∃ u : Hi.HV, e = .returned (.tuple #[.agg #[.slice u.no h.node.length u.nc, .slice u.uo h.upF.length u.uc, .slice u.ul h.up.length u.ulc, .slice u.wo h.dnF.length u.wc, .slice u.dl h.dn.length u.dlc], .nilIface]) ∧ Hi.HasH w' u h ∧ Below wx.heap.size wx w') := fun wx qo qc hx h1 h2 => by
      refine (decode_good qo qc L h wx h1 h2 hi (HFR.out wx hx).1 (HFR.out wx hx).2.1 hok.k1 hok.k2 hok.k3 hok.k4 hok.k5 hc).mono ?_
      rintro e w' ⟨u, rfl, hu, hb2⟩
      exact ⟨u, rfl, hasH_own hu hok, hb2⟩
    have HSA : Hid (∀ wx (a b : Hi.HV), Hi.HasH wx a h → Hi.HasH wx b h → Calls Tryd.prog 13 #[.agg #[.slice a.no h.node.length a.nc, .slice a.uo h.upF.length a.uc, .slice a.ul h.up.length a.ulc, .slice a.wo h.dnF.length a.wc, .slice a.dl h.dn.length a.dlc], .agg #[.slice b.no h.node.length b.nc, .slice b.uo h.upF.length b.uc, .slice b.ul h.up.length b.ulc, .slice b.wo h.dnF.length b.wc, .slice b.dl h.dn.length b.dlc]] wx fun e w' => e = .returned (.bool true) ∧ Below wx.heap.size wx w') := fun wx a b h1 h2 => by
      have q := Hi.tSame_calls a b h h wx h1 h2 hshort
      rw [decide_eq_true rfl] at q
      exact q
    have HBU : Hid (∀ wx mo mc, HasB wx (.slice mo L.length mc) L → (mo = none → mc = 0) → Calls Tryd.prog 16 #[.slice mo L.length mc, .int .i64 at_, .int .u32 (mask : Int)] wx fun e w' => BurstPost wx L e w') := fun wx mo mc h1 h2 => kBurst_calls mo mc L at_ mask wx h1 hi.bts (by omega) h2
    have HFT : Hid (fits L = true) := hi.fit
    have HDB : Hid (∀ wx qo qc (q : List Nat), Below W0.heap.size W0 wx → HasB wx (.slice qo L.length qc) q → L.length ≤ qc → Bts q → q.length = L.length → fits q = false → Calls Tryd.prog 12 #[.slice qo L.length qc] wx fun e w' => ∃ T x, e = .returned (.tuple #[.agg #[.slice none 0 0, .slice none 0 0, .slice none 0 0, .slice none 0 0, .slice none 0 0], .iface T x]) ∧ Below wx.heap.size wx w') := fun wx qo qc q hx h1 h2 h3 h4 h5 => by
      rw [← h4] at h1 h2 ⊢
      refine (decode_thrown qo qc q wx h1 h2 h3 (by omega) (HFR.out wx hx).1 (HFR.out wx hx).2.1 (HFR.out wx hx).2.2 (unfit_bad h5)).mono ?_
      rintro e w' ⟨T, x, rfl, _, hb2⟩
      exact ⟨T, x, rfl, hb2⟩
    clear hi hok hshort hL hLe
    obtain ⟨⟨c0, c1, c2, c3, c4⟩, l0, _⟩ := HX.out W0 (Below.refl _ _)
    clear hW0 hB0 hbx hH hr hN hf hg hty hb1 hb2 hb3 hc 
    unfold Hi.hvl
    go_enter Tryd.func4, Tryd.ntmps4
    go_upto_region 1 with fail
    rw [HW0.out]
    go_wp2_with fail
    refine HAW.out.mono ?_
    rintro e y1 ⟨rfl, hb⟩
    have Y1 : Hid (Below W0.heap.size W0 y1) := hb
    clear hb c0 c1 c2 c3 c4 l0
    obtain ⟨⟨c0, c1, c2, c3, c4⟩, l0, _⟩ := HX.out y1 Y1.out
    go_wp2_with fail
    refine (HGR.out y1).mono ?_
    rintro e y2 ⟨rfl, hb⟩
    have Y2 : Hid (Below W0.heap.size W0 y2) := btrI Y1.out hb
    clear hb c0 c1 c2 c3 c4 l0
    obtain ⟨⟨c0, c1, c2, c3, c4⟩, l0, _⟩ := HX.out y2 Y2.out
    cases greatI h with
    | true =>
      go_wp2
      go_ret
      exact ⟨rfl, (HX.out y2 Y2.out).2.2⟩
    | false =>
      go_wp2_with fail
      refine (HEN.out y2 Y2.out).mono ?_
      rintro e y3 ⟨mo, mc, rfl, hp, hb⟩
      have Y3 : Hid (Below W0.heap.size W0 y3 ∧ HasB y3 (.slice mo L.length mc) L ∧ L.length ≤ mc ∧ (mo = none → mc = 0)) := ⟨btrI Y2.out hb, hp⟩
      clear hb hp c0 c1 c2 c3 c4 l0
      go_wp2_with fail
      refine (HBU.out y3 mo mc Y3.out.2.1 Y3.out.2.2.2).mono ?_
      rintro e y4 ⟨qo, qc, q, tu, rfl, ho, hb, hqb, hql, hqf, hqe⟩
      have Y4 : Hid (Below W0.heap.size W0 y4 ∧ HasB y4 (.slice qo L.length qc) q ∧ L.length ≤ qc ∧ Bts q ∧ q.length = L.length ∧ (tu = true → fits L = true → fits q = false) ∧ (tu = false → q = L)) := ⟨btrI Y3.out.1 hb, hasB_lenI ho hql, (own_cap ho).1, hqb, hql, hqf, hqe⟩
      clear ho hb hqb hql hqf hqe
      cases tu with
      | true =>
        have HQF : Hid (fits q = false) := Y4.out.2.2.2.2.2.1 rfl HFT.out
        go_wp2_with fail
        refine (HDB.out y4 qo qc q Y4.out.1 Y4.out.2.1 Y4.out.2.2.1 Y4.out.2.2.2.1 Y4.out.2.2.2.2.1 HQF.out).mono ?_
        rintro e y5 ⟨T, x, rfl, hb⟩
        have Y5 : Hid (Below W0.heap.size W0 y5) := btrI Y4.out.1 hb
        clear hb
        go_wp2
        go_ret
        exact ⟨rfl, (HX.out y5 Y5.out).2.2.alloc (HX.out y5 Y5.out).2.2.size _⟩
      | false =>
        have hq : q = L := Y4.out.2.2.2.2.2.2 rfl
        have Z4 : Hid (HasB y4 (.slice qo L.length qc) L) := by
          have q1 := Y4.out.2.1
          rw [hq] at q1
          exact q1
        clear hq
        go_wp2_with fail
        refine (HDG.out y4 qo qc Y4.out.1 Z4.out Y4.out.2.2.1).mono ?_
        rintro e y5 ⟨u5, rfl, hu, hb⟩
        have Y5 : Hid (Below W0.heap.size W0 y5 ∧ Hi.HasH y5 u5 h) := ⟨btrI Y4.out.1 hb, hu⟩
        clear hb hu
        obtain ⟨W6, hW6⟩ : ∃ W6, y5.alloc (.cells #[.slice u5.no h.node.length u5.nc, .slice u5.uo h.upF.length u5.uc, .slice u5.ul h.up.length u5.ulc, .slice u5.wo h.dnF.length u5.wc, .slice u5.dl h.dn.length u5.dlc] 25) = W6 := ⟨_, rfl⟩
        obtain ⟨b, hbz⟩ : ∃ b, y5.heap.size = b := ⟨_, rfl⟩
        have bW6 : Below y5.heap.size y5 W6 := by rw [← hW6]; exact (Below.refl _ _).alloc (Nat.le_refl _) _
        have nW6 : W6.heap[b]? = some (.cells #[.slice u5.no h.node.length u5.nc, .slice u5.uo h.upF.length u5.uc, .slice u5.ul h.up.length u5.ulc, .slice u5.wo h.dnF.length u5.wc, .slice u5.dl h.dn.length u5.dlc] 25) := by rw [← hW6, ← hbz]; exact heap_new _ _
        have HB : Hid (∀ wx, Below W6.heap.size W6 wx → wx.heap[b]? = some (.cells #[.slice u5.no h.node.length u5.nc, .slice u5.uo h.upF.length u5.uc, .slice u5.ul h.up.length u5.ulc, .slice u5.wo h.dnF.length u5.wc, .slice u5.dl h.dn.length u5.dlc] 25) ∧ Below W0.heap.size W0 wx ∧ Below y5.heap.size y5 wx) := fun wx hx => ⟨(hx.block _ (w_lt_get nW6)).trans nW6, btrI Y5.out.1 (btrI bW6 hx), btrI bW6 hx⟩
        have HW6 : Hid (y5.alloc (.cells #[.slice u5.no h.node.length u5.nc, .slice u5.uo h.upF.length u5.uc, .slice u5.ul h.up.length u5.ulc, .slice u5.wo h.dnF.length u5.wc, .slice u5.dl h.dn.length u5.dlc] 25) = W6 ∧ y5.heap.size = b) := ⟨hW6, hbz⟩
        clear hW6 hbz bW6 nW6
        go_upto_region 12 with fail
        rw [HW6.out.1]
        rw [HW6.out.2]
        obtain ⟨p1, p2, p3⟩ := HB.out W6 (Below.refl _ _)
        obtain ⟨a0, a1, a2, a3, a4⟩ := Hi.five_cells p1
        have la := w_lt_get p1
        obtain ⟨⟨c0, c1, c2, c3, c4⟩, l0, _⟩ := HX.out W6 p2
        have HS : Hid (Hi.HasH W6 u5 h ∧ Hi.HasH W6 v h) := ⟨Y5.out.2.keep p3, HV.out W6 p2⟩
        clear p1 p2 p3
        go_wp2_with fail
        refine (HSA.out W6 u5 v HS.out.1 HS.out.2).mono ?_
        rintro e y7 ⟨rfl, hb⟩
        have Y7 : Hid (Below w.heap.size w y7) := (HX.out y7 (HB.out y7 hb).2.1).2.2
        clear hb
        go_wp2
        go_ret
        exact ⟨rfl, Y7.out⟩
  · have HEN : Hid (∀ wx, Below W0.heap.size W0 wx → Calls Tryd.prog 9 #[.agg #[.slice v.no h.node.length v.nc, .slice v.uo h.upF.length v.uc, .slice v.ul h.up.length v.ulc, .slice v.wo h.dnF.length v.wc, .slice v.dl h.dn.length v.dlc]] wx fun e w' => ∃ T x, e = .returned (.tuple #[.slice none 0 0, .iface T x]) ∧ Below wx.heap.size wx w') := fun wx hb => by
      refine (encode_bad v h wx (HV.out wx hb) hb1 hb2 hb3 hc).mono ?_
      rintro e w' ⟨T, x, rfl, _, hb2⟩
      exact ⟨T, x, rfl, hb2⟩
    obtain ⟨⟨c0, c1, c2, c3, c4⟩, l0, _⟩ := HX.out W0 (Below.refl _ _)
    clear hW0 hB0 hbx hH hr hN hf hg hty hb1 hb2 hb3 hc 
    unfold Hi.hvl
    go_enter Tryd.func4, Tryd.ntmps4
    go_upto_region 1 with fail
    rw [HW0.out]
    go_wp2_with fail
    refine HAW.out.mono ?_
    rintro e y1 ⟨rfl, hb⟩
    have Y1 : Hid (Below W0.heap.size W0 y1) := hb
    clear hb c0 c1 c2 c3 c4 l0
    obtain ⟨⟨c0, c1, c2, c3, c4⟩, l0, _⟩ := HX.out y1 Y1.out
    go_wp2_with fail
    refine (HGR.out y1).mono ?_
    rintro e y2 ⟨rfl, hb⟩
    have Y2 : Hid (Below W0.heap.size W0 y2) := btrI Y1.out hb
    clear hb c0 c1 c2 c3 c4 l0
    obtain ⟨⟨c0, c1, c2, c3, c4⟩, l0, _⟩ := HX.out y2 Y2.out
    cases greatI h with
    | true =>
      go_wp2
      go_ret
      exact ⟨rfl, (HX.out y2 Y2.out).2.2⟩
    | false =>
      go_wp2_with fail
      refine (HEN.out y2 Y2.out).mono ?_
      rintro e y3 ⟨T, x, rfl, hb⟩
      have Y3 : Hid (Below W0.heap.size W0 y3) := btrI Y2.out hb
      clear hb c0 c1 c2 c3 c4 l0
      go_wp2
      go_ret
      exact ⟨rfl, (HX.out y3 Y3.out).2.2⟩
end Go.Proofs.YtamedcnjanichaaDoor
