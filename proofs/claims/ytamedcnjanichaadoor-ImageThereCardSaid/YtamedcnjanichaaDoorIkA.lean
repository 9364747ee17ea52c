/- the law ImageThere. (Printed by genik.py.) -/
import Derived.Test.YtamedcnjanichaaDoorIjX
import Derived.Deep.RegionHeld3
namespace Go.Proofs.YtamedcnjanichaaDoor
open Go.RowKit Go.Extern Cr

attribute [local go_sem] Oper.semAt_some

set_option maxRecDepth 100000 in
set_option maxHeartbeats 4000000 in
theorem imageThere_calls (v : Hi.HV) (h : Hi.Hr) (xo : Option Addr) (xc : Nat) (x : List Nat) (w : World) (hH : Hi.HasH w v h) (hr : Hi.Reach h) (hN : NilH v) (hxl : HasB w (.slice xo x.length xc) x) (hxb : Bts x) (hxm : x.length ≤ 140737488351232) (hxn : xo = none → xc = 0) (hf : HasFours w) (hg : 1 < w.heap.size) (hty : HasType w) :
    Calls Tryd.prog 3 #[Hi.hvl v h, .slice xo x.length xc] w fun e w' => e = .returned (.bool true) ∧ Below w.heap.size w w' := by
  have hb1 : h.up.length ≤ 1152921504606846976 := by have := hr.up; omega
  have hb2 : h.dn.length ≤ 1152921504606846976 := by have := hr.dn; omega
  have hb3 : h.node.length ≤ 1152921504606846976 := by have := hr.node; omega
  obtain ⟨W0, hW0⟩ : ∃ W0, w.alloc (.cells #[.slice v.no h.node.length v.nc, .slice v.uo h.upF.length v.uc, .slice v.ul h.up.length v.ulc, .slice v.wo h.dnF.length v.wc, .slice v.dl h.dn.length v.dlc] 25) = W0 := ⟨_, rfl⟩
  have HW0 : Hid (w.alloc (.cells #[.slice v.no h.node.length v.nc, .slice v.uo h.upF.length v.uc, .slice v.ul h.up.length v.ulc, .slice v.wo h.dnF.length v.wc, .slice v.dl h.dn.length v.dlc] 25) = W0) := hW0
  have hB0 : Below w.heap.size w W0 := by rw [← hW0]; exact (Below.refl _ _).alloc (Nat.le_refl _) _
  have hbx : W0.heap[w.heap.size]? = some (.cells #[.slice v.no h.node.length v.nc, .slice v.uo h.upF.length v.uc, .slice v.ul h.up.length v.ulc, .slice v.wo h.dnF.length v.wc, .slice v.dl h.dn.length v.dlc] 25) := by rw [← hW0]; exact heap_new _ _
  have HX : Hid (∀ wx, Below W0.heap.size W0 wx → (wx.cell? ⟨w.heap.size, 0, none⟩ = some (.slice v.no h.node.length v.nc) ∧ wx.cell? ⟨w.heap.size, 1, none⟩ = some (.slice v.uo h.upF.length v.uc) ∧ wx.cell? ⟨w.heap.size, 2, none⟩ = some (.slice v.ul h.up.length v.ulc) ∧ wx.cell? ⟨w.heap.size, 3, none⟩ = some (.slice v.wo h.dnF.length v.wc) ∧ wx.cell? ⟨w.heap.size, 4, none⟩ = some (.slice v.dl h.dn.length v.dlc)) ∧ w.heap.size < wx.heap.size ∧ Below w.heap.size w wx) := fun wx hb => by
    have q := (hb.block _ (w_lt_get hbx)).trans hbx
    exact ⟨cells5 q, w_lt_get q, hB0.trans (hb.mono hB0.size)⟩
  have HV : Hid (∀ wx, Below W0.heap.size W0 wx → Hi.HasH wx v h) := fun wx hb => hH.keep (HX.out wx hb).2.2
  have HFR : Hid (∀ wx, Below W0.heap.size W0 wx → HasFours wx ∧ 1 < wx.heap.size ∧ HasType wx) := fun wx hb => ⟨fours_keep hf hg (HX.out wx hb).2.2, Nat.lt_of_lt_of_le hg (HX.out wx hb).2.2.size, hty.keep (HX.out wx hb).2.2 hty.pos⟩
  have HAW : Hid (Calls Tryd.prog 7 #[] W0 fun e w' => e = .returned (.bool true) ∧ Below W0.heap.size W0 w') := awake19_calls W0 (HFR.out W0 (Below.refl _ _)).1 (HFR.out W0 (Below.refl _ _)).2.1
  have HGR : Hid (∀ wx, Calls Tryd.prog 8 #[.agg #[.slice v.no h.node.length v.nc, .slice v.uo h.upF.length v.uc, .slice v.ul h.up.length v.ulc, .slice v.wo h.dnF.length v.wc, .slice v.dl h.dn.length v.dlc]] wx fun e w' => e = .returned (.bool (greatI h)) ∧ Below wx.heap.size wx w') := fun wx => great19_calls v h wx hb1 hb2
  by_cases hc : Hi.chk h = (0, [])
  · have hi : ImgOk (imB h) h := imB_ok (small_of_chk hc) (imW_ok (small_of_chk hc) hH)
    have hok : OkH h := ⟨Hi.HasWs.ok hH.node, Hi.HasWs.ok hH.upF, (fun x hx => by obtain ⟨j, hj⟩ := List.getElem?_of_mem hx; exact (hH.up.at hj).1), Hi.HasWs.ok hH.dnF, (fun x hx => by obtain ⟨j, hj⟩ := List.getElem?_of_mem hx; exact (hH.dn.at hj).1)⟩
    have hshort : Hi.Short h := by
      obtain ⟨s1, s2, s3, s4, s5⟩ := small_of_chk hc
      exact ⟨by omega, by omega, by omega, by omega, by omega⟩
    obtain ⟨L, hLe⟩ : ∃ L, imB h = L := ⟨_, rfl⟩
    have HEN : Hid (∀ wx, Below W0.heap.size W0 wx → Calls Tryd.prog 9 #[.agg #[.slice v.no h.node.length v.nc, .slice v.uo h.upF.length v.uc, .slice v.ul h.up.length v.ulc, .slice v.wo h.dnF.length v.wc, .slice v.dl h.dn.length v.dlc]] wx fun e w' => ∃ mo mc, e = .returned (.tuple #[.slice mo L.length mc, .nilIface]) ∧ (HasB w' (.slice mo L.length mc) L ∧ L.length ≤ mc ∧ (mo = none → mc = 0)) ∧ Below wx.heap.size wx w') := fun wx hb => by
      refine (encode_good v h wx (HV.out wx hb) hN hc (HFR.out wx hb).1 (HFR.out wx hb).2.1).mono ?_
      rintro e w' ⟨mo, mc, rfl, ho, hb2⟩
      rw [hLe] at ho ⊢
      exact ⟨mo, mc, rfl, ⟨hasB_own ho, own_cap ho⟩, hb2⟩
    rw [hLe] at hi
    have hL : L.length ≤ 100000000 := by
      have q1 := hi.len
      have q2 := hi.sm.n
      have q3 := hi.sm.u
      have q4 := hi.sm.d
      omega
    have HDH : Hid (∀ wx qo qc, Below W0.heap.size W0 wx → HasB wx (.slice qo L.length qc) L → L.length ≤ qc → Calls Tryd.prog 12 #[.slice qo L.length qc] wx fun e w' => ∃ u : Hi.HV, e = .returned (.tuple #[.agg #[.slice u.no h.node.length u.nc, .slice u.uo h.upF.length u.uc, .slice u.ul h.up.length u.ulc, .slice u.wo h.dnF.length u.wc, .slice u.dl h.dn.length u.dlc], .nilIface]) ∧ Hi.HasH w' u h ∧ Below wx.heap.size wx w') := fun wx qo qc hx h1 h2 => by
      refine (decode_good qo qc L h wx h1 h2 hi (HFR.out wx hx).1 (HFR.out wx hx).2.1 hok.k1 hok.k2 hok.k3 hok.k4 hok.k5 hc).mono ?_
      rintro e w' ⟨u, rfl, hu, hb2⟩
      exact ⟨u, rfl, hasH_own hu hok, hb2⟩
    have HSA : Hid (∀ wx (a b : Hi.HV), Hi.HasH wx a h → Hi.HasH wx b h → Calls Tryd.prog 13 #[.agg #[.slice a.no h.node.length a.nc, .slice a.uo h.upF.length a.uc, .slice a.ul h.up.length a.ulc, .slice a.wo h.dnF.length a.wc, .slice a.dl h.dn.length a.dlc], .agg #[.slice b.no h.node.length b.nc, .slice b.uo h.upF.length b.uc, .slice b.ul h.up.length b.ulc, .slice b.wo h.dnF.length b.wc, .slice b.dl h.dn.length b.dlc]] wx fun e w' => e = .returned (.bool true) ∧ Below wx.heap.size wx w') := fun wx a b h1 h2 => by
      have q := Hi.tSame_calls a b h h wx h1 h2 hshort
      rw [decide_eq_true rfl] at q
      exact q
    have HSZ : Hid (∀ wx, Below W0.heap.size W0 wx → Calls Tryd.prog 10 #[.agg #[.slice v.no h.node.length v.nc, .slice v.uo h.upF.length v.uc, .slice v.ul h.up.length v.ulc, .slice v.wo h.dnF.length v.wc, .slice v.dl h.dn.length v.dlc]] wx fun e w' => e = .returned (.tuple #[.int .i64 (L.length : Int), .nilIface]) ∧ Below wx.heap.size wx w') := fun wx hb => by
      have q := size_good v h wx (HV.out wx hb) hc
      rw [← hi.len] at q
      exact q
    have HCK : Hid (∀ wx, Below W0.heap.size W0 wx → Calls Tryd.prog 11 #[.agg #[.slice v.no h.node.length v.nc, .slice v.uo h.upF.length v.uc, .slice v.ul h.up.length v.ulc, .slice v.wo h.dnF.length v.wc, .slice v.dl h.dn.length v.dlc]] wx fun e w' => e = .returned .nilIface ∧ Below wx.heap.size wx w') := fun wx hb => by
      refine (Hi.check_calls v h wx (HV.out wx hb) (by omega) (by omega) (by omega)).mono ?_
      rintro e w' ⟨vv, rfl, ht, hb2⟩
      rw [hc] at ht
      rcases ht with ⟨_, rfl⟩ | ⟨hn0, _⟩
      · exact ⟨rfl, hb2⟩
      · exact absurd rfl hn0
    have HXB : Hid (∀ wx, Below W0.heap.size W0 wx → HasB wx (.slice xo x.length xc) x) := fun wx hx => hxl.keep (HX.out wx hx).2.2
    have HXM : Hid (x.length ≤ 140737488351232) := hxm
    have HTW : Hid (∀ wx, Below W0.heap.size W0 wx → Calls Tryd.prog 14 #[.slice xo x.length xc] wx fun e w' => ∃ mo mc, e = .returned (.slice mo x.length mc) ∧ (HasB w' (.slice mo x.length mc) x ∧ x.length ≤ mc) ∧ Below wx.heap.size wx w') := fun wx hx => by
      refine (kTwin_calls xo xc x wx (HXB.out wx hx) (by omega) hxn).mono ?_
      rintro e w' ⟨mo, mc, rfl, ho, hb2⟩
      exact ⟨mo, mc, rfl, ⟨hasB_own ho, (own_cap ho).1⟩, hb2⟩
    have HDB : Hid (∀ wx mo mc, x.length ≤ 100000 → dE x ≠ (0, []) → Below W0.heap.size W0 wx → HasB wx (.slice mo x.length mc) x → x.length ≤ mc → Calls Tryd.prog 12 #[.slice mo x.length mc] wx fun e w' => ∃ (u : Hi.HV) (T : TypeId) (z : Value), e = .returned (.tuple #[.agg #[.slice u.no 0 u.nc, .slice u.uo 0 u.uc, .slice u.ul 0 u.ulc, .slice u.wo 0 u.wc, .slice u.dl 0 u.dlc], .iface T z]) ∧ Below wx.heap.size wx w') := fun wx mo mc hs hne hx h1 h2 => by
      refine (decode_all mo mc x wx h1 h2 hxb (by omega) (HFR.out wx hx).1 (HFR.out wx hx).2.1 (HFR.out wx hx).2.2).mono ?_
      rintro e w' ⟨u, vv, rfl, hu, ht, hb2⟩
      obtain ⟨T, z, rfl⟩ := told_some ht hne
      rw [dH_none hne]
      exact ⟨u, T, z, rfl, hb2⟩
    have HDG : Hid (∀ wx mo mc, x.length ≤ 100000 → dE x = (0, []) → Below W0.heap.size W0 wx → HasB wx (.slice mo x.length mc) x → x.length ≤ mc → Calls Tryd.prog 12 #[.slice mo x.length mc] wx fun e w' => ∃ (u : Hi.HV), e = .returned (.tuple #[.agg #[.slice u.no (dH x).node.length u.nc, .slice u.uo (dH x).upF.length u.uc, .slice u.ul (dH x).up.length u.ulc, .slice u.wo (dH x).dnF.length u.wc, .slice u.dl (dH x).dn.length u.dlc], .nilIface]) ∧ (Hi.HasH w' u (dH x) ∧ NilH u) ∧ Below wx.heap.size wx w') := fun wx mo mc hs hne hx h1 h2 => by
      refine (decode_all mo mc x wx h1 h2 hxb (by omega) (HFR.out wx hx).1 (HFR.out wx hx).2.1 (HFR.out wx hx).2.2).mono ?_
      rintro e w' ⟨u, vv, rfl, hu, ht, hb2⟩
      rcases ht with ⟨_, rfl⟩ | ⟨hn0, _⟩
      · exact ⟨u, rfl, ⟨hasH_own hu (dH_ok hxb), nil_own hu⟩, hb2⟩
      · rw [hne] at hn0
        exact absurd rfl hn0
    have HEK : Hid (∀ wx (u : Hi.HV), dE x = (0, []) → Below W0.heap.size W0 wx → Hi.HasH wx u (dH x) → NilH u → Calls Tryd.prog 9 #[.agg #[.slice u.no (dH x).node.length u.nc, .slice u.uo (dH x).upF.length u.uc, .slice u.ul (dH x).up.length u.ulc, .slice u.wo (dH x).dnF.length u.wc, .slice u.dl (dH x).dn.length u.dlc]] wx fun e w' => ∃ mo mc, e = .returned (.tuple #[.slice mo x.length mc, .nilIface]) ∧ HasB w' (.slice mo x.length mc) x ∧ Below wx.heap.size wx w') := fun wx u hne hx h1 h2 => by
      obtain ⟨_, hck, him⟩ := dH_only hxb hne
      refine (encode_good u (dH x) wx h1 h2 hck (HFR.out wx hx).1 (HFR.out wx hx).2.1).mono ?_
      rintro e w' ⟨mo, mc, rfl, ho, hb2⟩
      rw [him] at ho ⊢
      exact ⟨mo, mc, rfl, hasB_own ho, hb2⟩
    have HKC : Hid (∀ wx (u : Hi.HV), dE x = (0, []) → Hi.HasH wx u (dH x) → Calls Tryd.prog 11 #[.agg #[.slice u.no (dH x).node.length u.nc, .slice u.uo (dH x).upF.length u.uc, .slice u.ul (dH x).up.length u.ulc, .slice u.wo (dH x).dnF.length u.wc, .slice u.dl (dH x).dn.length u.dlc]] wx fun e w' => e = .returned .nilIface ∧ Below wx.heap.size wx w') := fun wx u hne h1 => by
      obtain ⟨_, hck, him⟩ := dH_only hxb hne
      have hsh := dH_short hxb
      refine (Hi.check_calls u (dH x) wx h1 (by have := hsh.up; omega) (by have := hsh.dn; omega) (by have := hsh.node; omega)).mono ?_
      rintro e w' ⟨vv, rfl, ht, hb2⟩
      rw [hck] at ht
      rcases ht with ⟨_, rfl⟩ | ⟨hn0, _⟩
      · exact ⟨rfl, hb2⟩
      · exact absurd rfl hn0
    have HKS : Hid (∀ wx ao ac, HasB wx (.slice ao x.length ac) x → HasB wx (.slice xo x.length xc) x → Calls Tryd.prog 15 #[.slice ao x.length ac, .slice xo x.length xc] wx fun e w' => e = .returned (.bool true) ∧ w' = wx) := fun wx ao ac h1 h2 => kSame_calls ao xo ac xc x wx h1 h2
    clear hi hok hshort hLe hL hxl hxb hxm hxn
    obtain ⟨⟨c0, c1, c2, c3, c4⟩, l0, _⟩ := HX.out W0 (Below.refl _ _)
    clear hW0 hB0 hbx hH hr hN hf hg hty hb1 hb2 hb3 hc 
    unfold Hi.hvl
    go_enter Tryd.func3, Tryd.ntmps3
    go_upto_region 1 with fail
    rw [HW0.out]
    go_wp2_with fail
    refine HAW.out.mono ?_
    rintro e y1 ⟨rfl, hb⟩
    have Y1 : Hid (Below W0.heap.size W0 y1) := hb
    clear hb c0 c1 c2 c3 c4 l0
    obtain ⟨⟨c0, c1, c2, c3, c4⟩, l0, _⟩ := HX.out y1 Y1.out
    go_wp2_with fail
    refine (HGR.out y1).mono ?_
    rintro e y2 ⟨rfl, hb⟩
    have Y2 : Hid (Below W0.heap.size W0 y2) := btrI Y1.out hb
    clear hb c0 c1 c2 c3 c4 l0
    obtain ⟨⟨c0, c1, c2, c3, c4⟩, l0, _⟩ := HX.out y2 Y2.out
    cases greatI h with
    | true =>
      go_wp2
      go_ret
      exact ⟨rfl, (HX.out y2 Y2.out).2.2⟩
    | false =>
      by_cases hbig : 100000 < x.length
      · have d1 : decide ((100000 : Int) < (x.length : Int)) = true := decide_eq_true (by omega)
        have d2 : decide (100000 < x.length) = true := decide_eq_true hbig
        go_wp2
        go_ret
        exact ⟨rfl, (HX.out y2 Y2.out).2.2⟩
      have HXS : Hid (x.length ≤ 100000) := (by omega : x.length ≤ 100000)
      have d1 : decide ((100000 : Int) < (x.length : Int)) = false := decide_eq_false (by omega)
      have d2 : decide (100000 < x.length) = false := decide_eq_false hbig
      clear hbig
      go_wp2_with fail
      refine (HEN.out y2 Y2.out).mono ?_
      rintro e y3 ⟨mo, mc, rfl, hp, hb⟩
      have Y3 : Hid (Below W0.heap.size W0 y3 ∧ HasB y3 (.slice mo L.length mc) L ∧ L.length ≤ mc ∧ (mo = none → mc = 0)) := ⟨btrI Y2.out hb, hp⟩
      clear hb hp c0 c1 c2 c3 c4 l0
      obtain ⟨⟨c0, c1, c2, c3, c4⟩, l0, _⟩ := HX.out y3 Y3.out.1
      go_wp2_with fail
      refine (HSZ.out y3 Y3.out.1).mono ?_
      rintro e y4 ⟨rfl, hb⟩
      have Y4 : Hid (Below W0.heap.size W0 y4) := btrI Y3.out.1 hb
      have Z4 : Hid (HasB y4 (.slice mo L.length mc) L) := Y3.out.2.1.keep hb
      clear hb c0 c1 c2 c3 c4 l0
      obtain ⟨⟨c0, c1, c2, c3, c4⟩, l0, _⟩ := HX.out y4 Y4.out
      go_upto_region 7 with fail
      go_region_held3 (fun w' => w'.cell? ⟨w.heap.size, 0, none⟩ = some (.slice v.no h.node.length v.nc) ∧ w'.cell? ⟨w.heap.size, 1, none⟩ = some (.slice v.uo h.upF.length v.uc) ∧ w'.cell? ⟨w.heap.size, 2, none⟩ = some (.slice v.ul h.up.length v.ulc) ∧ w'.cell? ⟨w.heap.size, 3, none⟩ = some (.slice v.wo h.dnF.length v.wc) ∧ w'.cell? ⟨w.heap.size, 4, none⟩ = some (.slice v.dl h.dn.length v.dlc)) (go_keep) (first
        | (go_at_call 11; refine (HCK.out _ (Y4.out.drew)).mono ?_; rintro e y5 ⟨rfl, hb⟩; have Y5 : Hid (Below W0.heap.size W0 y5) := btrI Y4.out.drew hb; have Z5 : Hid (HasB y5 (.slice mo L.length mc) L) := Z4.out.keep ((Below.refl _ y4).drew.trans (hb.mono (Nat.le_refl _))); clear hb c0 c1 c2 c3 c4 l0; obtain ⟨⟨c0, c1, c2, c3, c4⟩, l0, _⟩ := HX.out y5 Y5.out))
      go_wp2_with fail
      refine (HDH.out y5 mo mc Y5.out Z5.out Y3.out.2.2.1).mono ?_
      rintro e y6 ⟨u6, rfl, hu, hb⟩
      have Y6 : Hid (Below W0.heap.size W0 y6 ∧ Hi.HasH y6 u6 h) := ⟨btrI Y5.out hb, hu⟩
      clear hb hu c0 c1 c2 c3 c4 l0
      obtain ⟨W6, hW6⟩ : ∃ W6, y6.alloc (.cells #[.slice u6.no h.node.length u6.nc, .slice u6.uo h.upF.length u6.uc, .slice u6.ul h.up.length u6.ulc, .slice u6.wo h.dnF.length u6.wc, .slice u6.dl h.dn.length u6.dlc] 25) = W6 := ⟨_, rfl⟩
      obtain ⟨b, hbz⟩ : ∃ b, y6.heap.size = b := ⟨_, rfl⟩
      have bW6 : Below y6.heap.size y6 W6 := by rw [← hW6]; exact (Below.refl _ _).alloc (Nat.le_refl _) _
      have nW6 : W6.heap[b]? = some (.cells #[.slice u6.no h.node.length u6.nc, .slice u6.uo h.upF.length u6.uc, .slice u6.ul h.up.length u6.ulc, .slice u6.wo h.dnF.length u6.wc, .slice u6.dl h.dn.length u6.dlc] 25) := by rw [← hW6, ← hbz]; exact heap_new _ _
      have HB : Hid (∀ wx, Below W6.heap.size W6 wx → wx.heap[b]? = some (.cells #[.slice u6.no h.node.length u6.nc, .slice u6.uo h.upF.length u6.uc, .slice u6.ul h.up.length u6.ulc, .slice u6.wo h.dnF.length u6.wc, .slice u6.dl h.dn.length u6.dlc] 25) ∧ Below W0.heap.size W0 wx ∧ Below y6.heap.size y6 wx) := fun wx hx => ⟨(hx.block _ (w_lt_get nW6)).trans nW6, btrI Y6.out.1 (btrI bW6 hx), btrI bW6 hx⟩
      have HW6 : Hid (y6.alloc (.cells #[.slice u6.no h.node.length u6.nc, .slice u6.uo h.upF.length u6.uc, .slice u6.ul h.up.length u6.ulc, .slice u6.wo h.dnF.length u6.wc, .slice u6.dl h.dn.length u6.dlc] 25) = W6 ∧ y6.heap.size = b) := ⟨hW6, hbz⟩
      clear hW6 hbz bW6 nW6
      go_upto_region 11 with fail
      rw [HW6.out.1]
      rw [HW6.out.2]
      obtain ⟨p1, p2, p3⟩ := HB.out W6 (Below.refl _ _)
      obtain ⟨a0, a1, a2, a3, a4⟩ := Hi.five_cells p1
      have la := w_lt_get p1
      obtain ⟨⟨c0, c1, c2, c3, c4⟩, l0, _⟩ := HX.out W6 p2
      have HS6 : Hid (Hi.HasH W6 u6 h ∧ Hi.HasH W6 v h) := ⟨Y6.out.2.keep p3, HV.out W6 p2⟩
      clear p1 p2 p3
      go_wp2_with fail
      refine (HSA.out W6 u6 v HS6.out.1 HS6.out.2).mono ?_
      rintro e y7 ⟨rfl, hb⟩
      have ZZ : Hid (Below W0.heap.size W0 y7) := (HB.out y7 hb).2.1
      clear hb a0 a1 a2 a3 a4 la c0 c1 c2 c3 c4 l0
      by_cases hdE : dE x = (0, [])
      · have HDE : Hid (dE x = (0, [])) := hdE
        clear hdE
        go_wp2_with fail
        refine (HTW.out y7 ZZ.out).mono ?_
        rintro e t1 ⟨ro, rc, rfl, hp, hb⟩
        have T1 : Hid (Below W0.heap.size W0 t1 ∧ HasB t1 (.slice ro x.length rc) x ∧ x.length ≤ rc) := ⟨btrI ZZ.out hb, hp⟩
        clear hp hb
        go_wp2_with fail
        refine (HDG.out t1 ro rc HXS.out HDE.out T1.out.1 T1.out.2.1 T1.out.2.2).mono ?_
        rintro e t2 ⟨u2, rfl, hp, hb⟩
        have T2 : Hid (Below W0.heap.size W0 t2 ∧ Hi.HasH t2 u2 (dH x) ∧ NilH u2) := ⟨btrI T1.out.1 hb, hp⟩
        clear hp hb
        generalize dH x = D at *
        obtain ⟨V3, hV3⟩ : ∃ V3, t2.alloc (.cells #[.slice u2.no D.node.length u2.nc, .slice u2.uo D.upF.length u2.uc, .slice u2.ul D.up.length u2.ulc, .slice u2.wo D.dnF.length u2.wc, .slice u2.dl D.dn.length u2.dlc] 25) = V3 := ⟨_, rfl⟩
        obtain ⟨d, hbz⟩ : ∃ d, t2.heap.size = d := ⟨_, rfl⟩
        have bV3 : Below t2.heap.size t2 V3 := by rw [← hV3]; exact (Below.refl _ _).alloc (Nat.le_refl _) _
        have nV3 : V3.heap[d]? = some (.cells #[.slice u2.no D.node.length u2.nc, .slice u2.uo D.upF.length u2.uc, .slice u2.ul D.up.length u2.ulc, .slice u2.wo D.dnF.length u2.wc, .slice u2.dl D.dn.length u2.dlc] 25) := by rw [← hV3, ← hbz]; exact heap_new _ _
        have HD : Hid (∀ wx, Below V3.heap.size V3 wx → wx.heap[d]? = some (.cells #[.slice u2.no D.node.length u2.nc, .slice u2.uo D.upF.length u2.uc, .slice u2.ul D.up.length u2.ulc, .slice u2.wo D.dnF.length u2.wc, .slice u2.dl D.dn.length u2.dlc] 25) ∧ Below W0.heap.size W0 wx ∧ Below t2.heap.size t2 wx) := fun wx hx => ⟨(hx.block _ (w_lt_get nV3)).trans nV3, btrI T2.out.1 (btrI bV3 hx), btrI bV3 hx⟩
        have HV3 : Hid (t2.alloc (.cells #[.slice u2.no D.node.length u2.nc, .slice u2.uo D.upF.length u2.uc, .slice u2.ul D.up.length u2.ulc, .slice u2.wo D.dnF.length u2.wc, .slice u2.dl D.dn.length u2.dlc] 25) = V3 ∧ t2.heap.size = d) := ⟨hV3, hbz⟩
        clear hV3 hbz bV3 nV3
        go_upto_region 16 with fail
        rw [HV3.out.1]
        rw [HV3.out.2]
        obtain ⟨p1, p2, p3⟩ := HD.out V3 (Below.refl _ _)
        obtain ⟨a0, a1, a2, a3, a4⟩ := Hi.five_cells p1
        have la := w_lt_get p1
        have HS : Hid (Hi.HasH V3 u2 D ∧ Below W0.heap.size W0 V3) := ⟨T2.out.2.1.keep p3, p2⟩
        clear p1 p2 p3
        go_wp2_with fail
        refine (HEK.out V3 u2 HDE.out HS.out.2 HS.out.1 T2.out.2.2).mono ?_
        rintro e t4 ⟨qo, qc, rfl, hp, hb⟩
        have T4 : Hid (Below V3.heap.size V3 t4 ∧ HasB t4 (.slice qo x.length qc) x) := ⟨hb, hp⟩
        clear hp hb a0 a1 a2 a3 a4 la
        obtain ⟨p1, p2, p3⟩ := HD.out t4 T4.out.1
        obtain ⟨a0, a1, a2, a3, a4⟩ := Hi.five_cells p1
        have la := w_lt_get p1
        have HS4 : Hid (Hi.HasH t4 u2 D ∧ Below W0.heap.size W0 t4) := ⟨T2.out.2.1.keep p3, p2⟩
        clear p1 p2 p3
        go_wp2_with fail
        refine (HKS.out t4 qo qc T4.out.2 (HXB.out t4 HS4.out.2)).mono ?_
        rintro e t5 ⟨rfl, hz⟩
        have hz' := hz.symm
        clear hz
        subst hz'
        go_wp2_with fail
        refine (HKC.out t4 u2 HDE.out HS4.out.1).mono ?_
        rintro e t6 ⟨rfl, hb⟩
        have T6 : Hid (Below w.heap.size w t6) := (HX.out t6 (btrI HS4.out.2 hb)).2.2
        clear hb
        go_wp2
        go_ret
        exact ⟨rfl, T6.out⟩
      · have HDE : Hid (dE x ≠ (0, [])) := hdE
        clear hdE
        go_wp2_with fail
        refine (HTW.out y7 ZZ.out).mono ?_
        rintro e t1 ⟨ro, rc, rfl, hp, hb⟩
        have T1 : Hid (Below W0.heap.size W0 t1 ∧ HasB t1 (.slice ro x.length rc) x ∧ x.length ≤ rc) := ⟨btrI ZZ.out hb, hp⟩
        clear hp hb
        go_wp2_with fail
        refine (HDB.out t1 ro rc HXS.out HDE.out T1.out.1 T1.out.2.1 T1.out.2.2).mono ?_
        rintro e t2 ⟨u2, T, z, rfl, hb⟩
        have T2 : Hid (Below w.heap.size w t2) := (HX.out t2 (btrI T1.out.1 hb)).2.2
        clear hb
        go_wp2
        go_ret
        exact ⟨rfl, T2.out.alloc T2.out.size _⟩
  · have HEN : Hid (∀ wx, Below W0.heap.size W0 wx → Calls Tryd.prog 9 #[.agg #[.slice v.no h.node.length v.nc, .slice v.uo h.upF.length v.uc, .slice v.ul h.up.length v.ulc, .slice v.wo h.dnF.length v.wc, .slice v.dl h.dn.length v.dlc]] wx fun e w' => ∃ T x, e = .returned (.tuple #[.slice none 0 0, .iface T x]) ∧ Below wx.heap.size wx w') := fun wx hb => by
      refine (encode_bad v h wx (HV.out wx hb) hb1 hb2 hb3 hc).mono ?_
      rintro e w' ⟨T, x, rfl, _, hb2⟩
      exact ⟨T, x, rfl, hb2⟩
    have HSZ : Hid (∀ wx, Below W0.heap.size W0 wx → Calls Tryd.prog 10 #[.agg #[.slice v.no h.node.length v.nc, .slice v.uo h.upF.length v.uc, .slice v.ul h.up.length v.ulc, .slice v.wo h.dnF.length v.wc, .slice v.dl h.dn.length v.dlc]] wx fun e w' => ∃ T z, e = .returned (.tuple #[.int .i64 0, .iface T z]) ∧ Below wx.heap.size wx w') := fun wx hb => by
      refine (size_bad v h wx (HV.out wx hb) hb1 hb2 hb3 hc).mono ?_
      rintro e w' ⟨T, z, rfl, _, hb2⟩
      exact ⟨T, z, rfl, hb2⟩
    have HCK : Hid (∀ wx, Below W0.heap.size W0 wx → Calls Tryd.prog 11 #[.agg #[.slice v.no h.node.length v.nc, .slice v.uo h.upF.length v.uc, .slice v.ul h.up.length v.ulc, .slice v.wo h.dnF.length v.wc, .slice v.dl h.dn.length v.dlc]] wx fun e w' => ∃ T z, e = .returned (.iface T z) ∧ Below wx.heap.size wx w') := fun wx hb => by
      refine (Hi.check_calls v h wx (HV.out wx hb) (by omega) (by omega) (by omega)).mono ?_
      rintro e w' ⟨vv, rfl, ht, hb2⟩
      obtain ⟨T, z, rfl⟩ := told_some ht hc
      exact ⟨T, z, rfl, hb2⟩
    have HXB : Hid (∀ wx, Below W0.heap.size W0 wx → HasB wx (.slice xo x.length xc) x) := fun wx hx => hxl.keep (HX.out wx hx).2.2
    have HXM : Hid (x.length ≤ 140737488351232) := hxm
    have HTW : Hid (∀ wx, Below W0.heap.size W0 wx → Calls Tryd.prog 14 #[.slice xo x.length xc] wx fun e w' => ∃ mo mc, e = .returned (.slice mo x.length mc) ∧ (HasB w' (.slice mo x.length mc) x ∧ x.length ≤ mc) ∧ Below wx.heap.size wx w') := fun wx hx => by
      refine (kTwin_calls xo xc x wx (HXB.out wx hx) (by omega) hxn).mono ?_
      rintro e w' ⟨mo, mc, rfl, ho, hb2⟩
      exact ⟨mo, mc, rfl, ⟨hasB_own ho, (own_cap ho).1⟩, hb2⟩
    have HDB : Hid (∀ wx mo mc, x.length ≤ 100000 → dE x ≠ (0, []) → Below W0.heap.size W0 wx → HasB wx (.slice mo x.length mc) x → x.length ≤ mc → Calls Tryd.prog 12 #[.slice mo x.length mc] wx fun e w' => ∃ (u : Hi.HV) (T : TypeId) (z : Value), e = .returned (.tuple #[.agg #[.slice u.no 0 u.nc, .slice u.uo 0 u.uc, .slice u.ul 0 u.ulc, .slice u.wo 0 u.wc, .slice u.dl 0 u.dlc], .iface T z]) ∧ Below wx.heap.size wx w') := fun wx mo mc hs hne hx h1 h2 => by
      refine (decode_all mo mc x wx h1 h2 hxb (by omega) (HFR.out wx hx).1 (HFR.out wx hx).2.1 (HFR.out wx hx).2.2).mono ?_
      rintro e w' ⟨u, vv, rfl, hu, ht, hb2⟩
      obtain ⟨T, z, rfl⟩ := told_some ht hne
      rw [dH_none hne]
      exact ⟨u, T, z, rfl, hb2⟩
    have HDG : Hid (∀ wx mo mc, x.length ≤ 100000 → dE x = (0, []) → Below W0.heap.size W0 wx → HasB wx (.slice mo x.length mc) x → x.length ≤ mc → Calls Tryd.prog 12 #[.slice mo x.length mc] wx fun e w' => ∃ (u : Hi.HV), e = .returned (.tuple #[.agg #[.slice u.no (dH x).node.length u.nc, .slice u.uo (dH x).upF.length u.uc, .slice u.ul (dH x).up.length u.ulc, .slice u.wo (dH x).dnF.length u.wc, .slice u.dl (dH x).dn.length u.dlc], .nilIface]) ∧ (Hi.HasH w' u (dH x) ∧ NilH u) ∧ Below wx.heap.size wx w') := fun wx mo mc hs hne hx h1 h2 => by
      refine (decode_all mo mc x wx h1 h2 hxb (by omega) (HFR.out wx hx).1 (HFR.out wx hx).2.1 (HFR.out wx hx).2.2).mono ?_
      rintro e w' ⟨u, vv, rfl, hu, ht, hb2⟩
      rcases ht with ⟨_, rfl⟩ | ⟨hn0, _⟩
      · exact ⟨u, rfl, ⟨hasH_own hu (dH_ok hxb), nil_own hu⟩, hb2⟩
      · rw [hne] at hn0
        exact absurd rfl hn0
    have HEK : Hid (∀ wx (u : Hi.HV), dE x = (0, []) → Below W0.heap.size W0 wx → Hi.HasH wx u (dH x) → NilH u → Calls Tryd.prog 9 #[.agg #[.slice u.no (dH x).node.length u.nc, .slice u.uo (dH x).upF.length u.uc, .slice u.ul (dH x).up.length u.ulc, .slice u.wo (dH x).dnF.length u.wc, .slice u.dl (dH x).dn.length u.dlc]] wx fun e w' => ∃ mo mc, e = .returned (.tuple #[.slice mo x.length mc, .nilIface]) ∧ HasB w' (.slice mo x.length mc) x ∧ Below wx.heap.size wx w') := fun wx u hne hx h1 h2 => by
      obtain ⟨_, hck, him⟩ := dH_only hxb hne
      refine (encode_good u (dH x) wx h1 h2 hck (HFR.out wx hx).1 (HFR.out wx hx).2.1).mono ?_
      rintro e w' ⟨mo, mc, rfl, ho, hb2⟩
      rw [him] at ho ⊢
      exact ⟨mo, mc, rfl, hasB_own ho, hb2⟩
    have HKC : Hid (∀ wx (u : Hi.HV), dE x = (0, []) → Hi.HasH wx u (dH x) → Calls Tryd.prog 11 #[.agg #[.slice u.no (dH x).node.length u.nc, .slice u.uo (dH x).upF.length u.uc, .slice u.ul (dH x).up.length u.ulc, .slice u.wo (dH x).dnF.length u.wc, .slice u.dl (dH x).dn.length u.dlc]] wx fun e w' => e = .returned .nilIface ∧ Below wx.heap.size wx w') := fun wx u hne h1 => by
      obtain ⟨_, hck, him⟩ := dH_only hxb hne
      have hsh := dH_short hxb
      refine (Hi.check_calls u (dH x) wx h1 (by have := hsh.up; omega) (by have := hsh.dn; omega) (by have := hsh.node; omega)).mono ?_
      rintro e w' ⟨vv, rfl, ht, hb2⟩
      rw [hck] at ht
      rcases ht with ⟨_, rfl⟩ | ⟨hn0, _⟩
      · exact ⟨rfl, hb2⟩
      · exact absurd rfl hn0
    have HKS : Hid (∀ wx ao ac, HasB wx (.slice ao x.length ac) x → HasB wx (.slice xo x.length xc) x → Calls Tryd.prog 15 #[.slice ao x.length ac, .slice xo x.length xc] wx fun e w' => e = .returned (.bool true) ∧ w' = wx) := fun wx ao ac h1 h2 => kSame_calls ao xo ac xc x wx h1 h2
    clear hxl hxb hxm hxn
    obtain ⟨⟨c0, c1, c2, c3, c4⟩, l0, _⟩ := HX.out W0 (Below.refl _ _)
    clear hW0 hB0 hbx hH hr hN hf hg hty hb1 hb2 hb3 hc 
    unfold Hi.hvl
    go_enter Tryd.func3, Tryd.ntmps3
    go_upto_region 1 with fail
    rw [HW0.out]
    go_wp2_with fail
    refine HAW.out.mono ?_
    rintro e y1 ⟨rfl, hb⟩
    have Y1 : Hid (Below W0.heap.size W0 y1) := hb
    clear hb c0 c1 c2 c3 c4 l0
    obtain ⟨⟨c0, c1, c2, c3, c4⟩, l0, _⟩ := HX.out y1 Y1.out
    go_wp2_with fail
    refine (HGR.out y1).mono ?_
    rintro e y2 ⟨rfl, hb⟩
    have Y2 : Hid (Below W0.heap.size W0 y2) := btrI Y1.out hb
    clear hb c0 c1 c2 c3 c4 l0
    obtain ⟨⟨c0, c1, c2, c3, c4⟩, l0, _⟩ := HX.out y2 Y2.out
    cases greatI h with
    | true =>
      go_wp2
      go_ret
      exact ⟨rfl, (HX.out y2 Y2.out).2.2⟩
    | false =>
      by_cases hbig : 100000 < x.length
      · have d1 : decide ((100000 : Int) < (x.length : Int)) = true := decide_eq_true (by omega)
        have d2 : decide (100000 < x.length) = true := decide_eq_true hbig
        go_wp2
        go_ret
        exact ⟨rfl, (HX.out y2 Y2.out).2.2⟩
      have HXS : Hid (x.length ≤ 100000) := (by omega : x.length ≤ 100000)
      have d1 : decide ((100000 : Int) < (x.length : Int)) = false := decide_eq_false (by omega)
      have d2 : decide (100000 < x.length) = false := decide_eq_false hbig
      clear hbig
      go_wp2_with fail
      refine (HEN.out y2 Y2.out).mono ?_
      rintro e y3 ⟨T3, z3, rfl, hb⟩
      have Y3 : Hid (Below W0.heap.size W0 y3) := btrI Y2.out hb
      clear hb c0 c1 c2 c3 c4 l0
      obtain ⟨⟨c0, c1, c2, c3, c4⟩, l0, _⟩ := HX.out y3 Y3.out
      go_wp2_with fail
      refine (HSZ.out y3 Y3.out).mono ?_
      rintro e y4 ⟨T4, z4, rfl, hb⟩
      have Y4 : Hid (Below W0.heap.size W0 y4) := btrI Y3.out hb
      clear hb c0 c1 c2 c3 c4 l0
      obtain ⟨⟨c0, c1, c2, c3, c4⟩, l0, _⟩ := HX.out y4 Y4.out
      go_upto_region 7 with fail
      go_region_held3 (fun w' => w'.cell? ⟨w.heap.size, 0, none⟩ = some (.slice v.no h.node.length v.nc) ∧ w'.cell? ⟨w.heap.size, 1, none⟩ = some (.slice v.uo h.upF.length v.uc) ∧ w'.cell? ⟨w.heap.size, 2, none⟩ = some (.slice v.ul h.up.length v.ulc) ∧ w'.cell? ⟨w.heap.size, 3, none⟩ = some (.slice v.wo h.dnF.length v.wc) ∧ w'.cell? ⟨w.heap.size, 4, none⟩ = some (.slice v.dl h.dn.length v.dlc)) (go_keep) (first
        | (go_at_call 11; refine (HCK.out _ (Y4.out.drew)).mono ?_; rintro e y5 ⟨T5, z5, rfl, hb⟩; have Y5 : Hid (Below W0.heap.size W0 y5) := btrI Y4.out.drew hb; clear hb c0 c1 c2 c3 c4 l0; obtain ⟨⟨c0, c1, c2, c3, c4⟩, l0, _⟩ := HX.out y5 Y5.out))
      have ZZ : Hid (Below W0.heap.size W0 y5) := Y5.out
      clear c0 c1 c2 c3 c4 l0
      by_cases hdE : dE x = (0, [])
      · have HDE : Hid (dE x = (0, [])) := hdE
        clear hdE
        go_wp2_with fail
        refine (HTW.out y5 ZZ.out).mono ?_
        rintro e t1 ⟨ro, rc, rfl, hp, hb⟩
        have T1 : Hid (Below W0.heap.size W0 t1 ∧ HasB t1 (.slice ro x.length rc) x ∧ x.length ≤ rc) := ⟨btrI ZZ.out hb, hp⟩
        clear hp hb
        go_wp2_with fail
        refine (HDG.out t1 ro rc HXS.out HDE.out T1.out.1 T1.out.2.1 T1.out.2.2).mono ?_
        rintro e t2 ⟨u2, rfl, hp, hb⟩
        have T2 : Hid (Below W0.heap.size W0 t2 ∧ Hi.HasH t2 u2 (dH x) ∧ NilH u2) := ⟨btrI T1.out.1 hb, hp⟩
        clear hp hb
        generalize dH x = D at *
        obtain ⟨V3, hV3⟩ : ∃ V3, t2.alloc (.cells #[.slice u2.no D.node.length u2.nc, .slice u2.uo D.upF.length u2.uc, .slice u2.ul D.up.length u2.ulc, .slice u2.wo D.dnF.length u2.wc, .slice u2.dl D.dn.length u2.dlc] 25) = V3 := ⟨_, rfl⟩
        obtain ⟨d, hbz⟩ : ∃ d, t2.heap.size = d := ⟨_, rfl⟩
        have bV3 : Below t2.heap.size t2 V3 := by rw [← hV3]; exact (Below.refl _ _).alloc (Nat.le_refl _) _
        have nV3 : V3.heap[d]? = some (.cells #[.slice u2.no D.node.length u2.nc, .slice u2.uo D.upF.length u2.uc, .slice u2.ul D.up.length u2.ulc, .slice u2.wo D.dnF.length u2.wc, .slice u2.dl D.dn.length u2.dlc] 25) := by rw [← hV3, ← hbz]; exact heap_new _ _
        have HD : Hid (∀ wx, Below V3.heap.size V3 wx → wx.heap[d]? = some (.cells #[.slice u2.no D.node.length u2.nc, .slice u2.uo D.upF.length u2.uc, .slice u2.ul D.up.length u2.ulc, .slice u2.wo D.dnF.length u2.wc, .slice u2.dl D.dn.length u2.dlc] 25) ∧ Below W0.heap.size W0 wx ∧ Below t2.heap.size t2 wx) := fun wx hx => ⟨(hx.block _ (w_lt_get nV3)).trans nV3, btrI T2.out.1 (btrI bV3 hx), btrI bV3 hx⟩
        have HV3 : Hid (t2.alloc (.cells #[.slice u2.no D.node.length u2.nc, .slice u2.uo D.upF.length u2.uc, .slice u2.ul D.up.length u2.ulc, .slice u2.wo D.dnF.length u2.wc, .slice u2.dl D.dn.length u2.dlc] 25) = V3 ∧ t2.heap.size = d) := ⟨hV3, hbz⟩
        clear hV3 hbz bV3 nV3
        go_upto_region 16 with fail
        rw [HV3.out.1]
        rw [HV3.out.2]
        obtain ⟨p1, p2, p3⟩ := HD.out V3 (Below.refl _ _)
        obtain ⟨a0, a1, a2, a3, a4⟩ := Hi.five_cells p1
        have la := w_lt_get p1
        have HS : Hid (Hi.HasH V3 u2 D ∧ Below W0.heap.size W0 V3) := ⟨T2.out.2.1.keep p3, p2⟩
        clear p1 p2 p3
        go_wp2_with fail
        refine (HEK.out V3 u2 HDE.out HS.out.2 HS.out.1 T2.out.2.2).mono ?_
        rintro e t4 ⟨qo, qc, rfl, hp, hb⟩
        have T4 : Hid (Below V3.heap.size V3 t4 ∧ HasB t4 (.slice qo x.length qc) x) := ⟨hb, hp⟩
        clear hp hb a0 a1 a2 a3 a4 la
        obtain ⟨p1, p2, p3⟩ := HD.out t4 T4.out.1
        obtain ⟨a0, a1, a2, a3, a4⟩ := Hi.five_cells p1
        have la := w_lt_get p1
        have HS4 : Hid (Hi.HasH t4 u2 D ∧ Below W0.heap.size W0 t4) := ⟨T2.out.2.1.keep p3, p2⟩
        clear p1 p2 p3
        go_wp2_with fail
        refine (HKS.out t4 qo qc T4.out.2 (HXB.out t4 HS4.out.2)).mono ?_
        rintro e t5 ⟨rfl, hz⟩
        have hz' := hz.symm
        clear hz
        subst hz'
        go_wp2_with fail
        refine (HKC.out t4 u2 HDE.out HS4.out.1).mono ?_
        rintro e t6 ⟨rfl, hb⟩
        have T6 : Hid (Below w.heap.size w t6) := (HX.out t6 (btrI HS4.out.2 hb)).2.2
        clear hb
        go_wp2
        go_ret
        exact ⟨rfl, T6.out⟩
      · have HDE : Hid (dE x ≠ (0, [])) := hdE
        clear hdE
        go_wp2_with fail
        refine (HTW.out y5 ZZ.out).mono ?_
        rintro e t1 ⟨ro, rc, rfl, hp, hb⟩
        have T1 : Hid (Below W0.heap.size W0 t1 ∧ HasB t1 (.slice ro x.length rc) x ∧ x.length ≤ rc) := ⟨btrI ZZ.out hb, hp⟩
        clear hp hb
        go_wp2_with fail
        refine (HDB.out t1 ro rc HXS.out HDE.out T1.out.1 T1.out.2.1 T1.out.2.2).mono ?_
        rintro e t2 ⟨u2, T, z, rfl, hb⟩
        have T2 : Hid (Below w.heap.size w t2) := (HX.out t2 (btrI T1.out.1 hb)).2.2
        clear hb
        go_wp2
        go_ret
        exact ⟨rfl, T2.out.alloc T2.out.size _⟩
end Go.Proofs.YtamedcnjanichaaDoor
