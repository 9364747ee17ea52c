/- ShortsContracts, where the graph is right and small and the list short. ShortsContracts, whatever it is handed. -/
import Derived.Test.YtbkclhaonbjobaaGreatDoorQyX
namespace Go.Proofs.YtbkclhaonbjobaaGreatDoor.Wt
open Go Go.RowKit Go.Extern Go.Deep

attribute [local go_sem] Oper.semAt_some

theorem tied_few {n : Nat} {bs : List Bool} {R : Bool → Nat → Rw} {zs : List A4} (ht : Tied n bs R zs) (hi : OvInv n bs R) (hn : n ≤ 12) : zs.length ≤ 190000 := by
  have h1 := ht.arcs hi
  have h2 : arcSum n bs R ≤ n * n := sumN_le n _ n fun u hu => by
    have h3 : (rowL bs R false u).length ≤ n := rise_few (rowL_rise hi false hu) fun a ha => by
      obtain ⟨m, e, hm, _⟩ := rowL_at hi false hu ha
      omega
    exact h3
  have h3 := Nat.mul_le_mul hn hn
  omega
theorem ss_set {w : World} {B : Nat} {lv c0 c1 : Value} {L : List S3} {a0 b0 : Option Addr} {a1 a2 b1 b2 : Nat} {T : TypeId} (h : HasSs w lv L) (hB : w.heap[B]? = some (.cells #[.slice a0 a1 a2, .slice b0 b1 b2] T)) : HasSs ((w.setCell ⟨B, 0, none⟩ c0).setCell ⟨B, 1, none⟩ c1) lv L := by
  obtain ⟨ao, cap, e, hc⟩ := h
  refine ⟨ao, cap, e, fun j a hj => ?_⟩
  obtain ⟨b, off, e1, hl, p0, p1, p2⟩ := hc j a hj
  have hne : b ≠ B := by
    rintro rfl
    have hp := p0
    simp only [World.cell?, hB] at hp
    rcases hk : off + j * 3 with _ | _ | k
    · rw [hk] at hp; simp at hp
    · rw [hk] at hp; simp at hp
    · rw [hk] at hp; simp at hp
  have hh : ((w.setCell ⟨B, 0, none⟩ c0).setCell ⟨B, 1, none⟩ c1).heap[b]? = w.heap[b]? := set_far hne
  refine ⟨b, off, e1, by simpa [World.setCell] using hl, ?_, ?_, ?_⟩
  · rw [← p0]; simp only [World.cell?, hh]
  · rw [← p1]; simp only [World.cell?, hh]
  · rw [← p2]; simp only [World.cell?, hh]
set_option maxRecDepth 100000 in
set_option maxHeartbeats 64000000 in
theorem scontr_yes (n : Nat) (ao : Option Addr) (cap : Nat) (xs : List (Int × Int × Int)) (w : World) (hX : HasArcs w (.slice ao xs.length cap) xs) (hxl : xs.length ≤ maxLen) (hfew : fewB (n : Int) xs 12 = true) (hg : graphErr (n : Int) xs = (0, [])) (oo : Option Addr) (oc : Nat) (ops : List Op5) (hO : HasOp5 w (.slice oo ops.length oc) ops) (h60 : ops.length ≤ 60) (hwt : ∀ q ∈ ops, 0 ≤ q.2.2.2.1)
    (io : Option Addr) (ic : Nat) (ls : List Int) (hls : HasInts w (.slice io ls.length ic) ls) (hl30 : ls.length ≤ 30) (o0 o1 o2 o3 o4 : Int) (hty : HasType w) :
    Calls Tryz.prog 4 #[.agg #[.int .i64 (n : Int), .slice ao xs.length cap], .slice oo ops.length oc, .slice io ls.length ic, .agg #[.int .i64 o0, .int .i64 o1, .int .i64 o2, .int .i64 o3, .int .i64 o4]] w fun e w' => e = .returned (.bool true) ∧ Below w.heap.size w w' := by
  have hn12 : n ≤ 12 := by have h := (of_decide_eq_true hfew).2.1; omega
  obtain ⟨W0, hW0⟩ : ∃ W0, (w.alloc (.cells #[.int .i64 (n : Int), .slice ao xs.length cap] 24)).alloc (optObj o0 o1 o2 o3 o4) = W0 := ⟨_, rfl⟩
  obtain ⟨hbx, hk0, hB0⟩ := two_new w (.cells #[.int .i64 (n : Int), .slice ao xs.length cap] 24) (optObj o0 o1 o2 o3 o4)
  rw [hW0] at hbx hk0 hB0
  have HW0 : Hid ((w.alloc (.cells #[.int .i64 (n : Int), .slice ao xs.length cap] 24)).alloc (.cells #[.int .i64 o0, .int .i64 o1, .int .i64 o2, .int .i64 o3, .int .i64 o4] 27) = W0) := hW0
  have HG : Hid (∀ wx, Below W0.heap.size W0 wx → (wx.cell? ⟨w.heap.size, 0, none⟩ = some (.int .i64 (n : Int)) ∧ wx.cell? ⟨w.heap.size, 1, none⟩ = some (.slice ao xs.length cap) ∧ w.heap.size < wx.heap.size) ∧ wx.heap[w.heap.size + 1]? = some (optObj o0 o1 o2 o3 o4) ∧ HasType wx ∧ HasInts wx (.slice io ls.length ic) ls ∧ Below w.heap.size w wx) := fun wx hwx => by
    have hgg := (hwx.block _ (lt_of_get hbx)).trans hbx
    have hb := hB0.trans (hwx.mono hB0.size)
    exact ⟨⟨(cell_two hgg).1, (cell_two hgg).2.1, lt_of_get hgg⟩, (hwx.block _ (lt_of_get hk0)).trans hk0, hty.keep hb hty.pos, hls.keep hb, hb⟩
  have HLA : Hid (∀ wx, Below W0.heap.size W0 wx → Calls Tryz.prog 7 #[.agg #[.int .i64 (n : Int), .slice ao xs.length cap], .slice oo ops.length oc] wx fun e w' => LaidA n wx e w') := fun wx hwx => laid_yes n ao cap xs wx (hX.keep (HG.out wx hwx).2.2.2.2) hxl hfew hg oo oc ops (hO.keep (HG.out wx hwx).2.2.2.2) h60 hwt
  have HAW : Hid (type_of% (awake13_calls W0)) := awake13_calls W0
  have HNN : Hid (n ≤ 12 ∧ ls.length ≤ 30) := ⟨hn12, hl30⟩
  have q4 : decide ((30 : Int) < (ls.length : Int)) = false := decide_eq_false (by omega)
  have q5 : decide (30 < ls.length) = false := decide_eq_false (by omega)
  have q6 : ¬ (30 : Int) < (ls.length : Int) := by omega
  clear hW0 hB0 hbx hk0 hX hO hfew hg hwt hty hls
  go_enter Tryz.func4, Tryz.ntmps4
  go_wp2_with fail
  rw [HW0.out]
  refine HAW.out.mono ?_
  rintro e w1 ⟨rfl, hb1⟩
  have HB1 : Hid (Below W0.heap.size W0 w1) := hb1
  clear hb1 HAW
  obtain ⟨⟨g0, g1, gl⟩, _⟩ := HG.out w1 HB1.out
  go_wp2_with fail
  refine (HLA.out w1 HB1.out).mono ?_
  rintro e w2 ⟨pb, PX, bs, R, zs, fo, fc, eo, ec, rfl, hB, ⟨hzb, hzl⟩, hb2⟩
  clear g0 g1 gl
  obtain ⟨W3, hW3⟩ : ∃ W3, w2.alloc (.cells #[.slice fo n fc, .slice eo zs.length ec] 33) = W3 := ⟨_, rfl⟩
  have HW3 : Hid (w2.alloc (.cells #[.slice fo n fc, .slice eo zs.length ec] 33) = W3) := hW3
  have b3 : Below w2.heap.size w2 W3 := by rw [← hW3]; exact bel_one _ _
  have k3 : W3.heap[w2.heap.size]? = some (.cells #[.slice fo n fc, .slice eo zs.length ec] 33) := by rw [← hW3]; exact heap_new _ _
  have hWR := hB.wrap b3
  have hPX3 : wrapP PX w2.heap.size W3 w2.heap.size = some (.cells #[.slice fo n fc, .slice eo zs.length ec] 33) := by unfold wrapP; rw [if_pos (Nat.le_refl _)]; exact k3
  have HB13 : Hid (Below w1.heap.size w1 W3 ∧ w1.heap.size ≤ w2.heap.size) := ⟨btr hb2 b3, hb2.size⟩
  have H3 : Hid (∃ PX', Both PX' w1.heap.size W3 pb n bs R zs (.slice fo n fc) (.slice eo zs.length ec) ∧ PX' w2.heap.size = some (.cells #[.slice fo n fc, .slice eo zs.length ec] 33) ∧ ZB zs) := ⟨_, hWR, hPX3, hzb⟩
  have HLO : Hid (∀ wx, Below w1.heap.size W3 wx → wx.heap[w.heap.size + 1]? = some (optObj o0 o1 o2 o3 o4) ∧ HasType wx ∧ HasInts wx (.slice io ls.length ic) ls ∧ Below w.heap.size w wx) := fun wx hx => (HG.out wx (btr HB1.out (HB13.out.1.trans hx))).2
  clear hB hzb hzl hb2 hW3 b3 k3 hWR hPX3
  go_upto_region 4 with fail
  rw [HW3.out]
  go_wp2_with fail
  clear q4 q5 q6
  go_loopw [35] (fun iv wr => ∃ (k : Nat) (PX : Nat → Option Obj) (bs : List Bool) (R : Bool → Nat → Rw) (zs : List A4) (fo : Option Addr) (fc : Nat) (eo : Option Addr) (ec : Nat), k ≤ ls.length ∧ iv = .int .i64 k ∧ Both PX w1.heap.size wr pb n bs R zs (.slice fo n fc) (.slice eo zs.length ec) ∧ PX w2.heap.size = some (.cells #[.slice fo n fc, .slice eo zs.length ec] 33) ∧ ZB zs ∧ Below w1.heap.size W3 wr) (fun iv _ => ls.length - (intOf iv).toNat)
  case atStart =>
    obtain ⟨PX', h1, h2, h3⟩ := H3.out
    exact ⟨0, PX', bs, R, zs, fo, fc, eo, ec, Nat.zero_le _, rfl, h1, h2, h3, Below.refl _ _⟩
  case round =>
    clear H3 HW3
    obtain ⟨k, PX, bs, R, zs, fo, fc, eo, ec, hk, rfl, hBo, hPX, hzb, hbw⟩ := hrel
    have HR : Hid (Both PX w1.heap.size wr pb n bs R zs (.slice fo n fc) (.slice eo zs.length ec) ∧ PX w2.heap.size = some (.cells #[.slice fo n fc, .slice eo zs.length ec] 33) ∧ ZB zs ∧ Below w1.heap.size W3 wr) := ⟨hBo, hPX, hzb, hbw⟩
    clear hBo hPX hzb hbw
    by_cases hlt : k < ls.length
    · obtain ⟨v, hv⟩ : ∃ v, ls[k]? = some v := ⟨ls[k], List.getElem?_eq_getElem hlt⟩
      obtain ⟨hob, _, hgi, _⟩ := HLO.out wr HR.out.2.2.2
      obtain ⟨b, off, rfl, bl, e0⟩ := hgi.at hv
      obtain ⟨p0, p1, ps⟩ := opt_cells hob
      obtain ⟨p2, p3, p4⟩ := opt_all hob
      have i1 : (k : Int) < (ls.length : Int) := by omega
      have i2 : (0 : Int) ≤ (k : Int) := by omega
      have hll := HNN.out.2
      have HZL : Hid (zs.length ≤ 190000) := tied_few HR.out.1.tie HR.out.1.ov.inv HNN.out.1
      have hcc := cont_calls ⟨HR.out.1.ov, HR.out.1.tie⟩ HR.out.2.2.1 HNN.out.1 HZL.out v o0 o1 o2 o3 o4
      have HCC : Hid (type_of% hcc) := hcc
      clear hgi hv hob hcc
      go_wp2_with fail
      refine HCC.out.mono ?_
      clear e0 bl p0 p1 ps p2 p3 p4
      rintro e w4 (⟨hal, rfl, hov4, hb4⟩ | ⟨hal, so, sc, R', rfl, hs4, hov4, hb4⟩)
      · have H4 : Hid (Both PX w1.heap.size w4 pb n bs R zs (.slice fo n fc) (.slice eo zs.length ec) ∧ Below w1.heap.size W3 w4) := ⟨HR.out.1.keep hb4, HR.out.2.2.2.trans (hb4.mono HR.out.1.ov.size)⟩
        have hbm := H4.out.1.ov.lies _ _ HR.out.2.1
        obtain ⟨c0, c1, _, _⟩ := cell_two hbm
        have cs := lt_of_get hbm
        have hlv := both_rlives H4.out.1 v
        rw [hal] at hlv
        have HLV : Hid (type_of% hlv) := hlv
        clear hal hov4 hb4 HCC hbm hlv
        go_wp2_with fail
        refine HLV.out.mono ?_
        rintro e w5 ⟨rfl, hb5⟩
        have H5 : Hid (Both PX w1.heap.size w5 pb n bs R zs (.slice fo n fc) (.slice eo zs.length ec) ∧ Below w1.heap.size W3 w5) := ⟨H4.out.1.keep hb5, H4.out.2.trans (hb5.mono H4.out.1.ov.size)⟩
        clear hb5 HLV c0 c1 cs H4
        go_wp2_with fail
        refine (E_calls 7 _).mono ?_
        rintro e w6 ⟨rfl, hb6⟩
        have H6 : Hid (Both PX w1.heap.size w6 pb n bs R zs (.slice fo n fc) (.slice eo zs.length ec) ∧ Below w1.heap.size W3 w6) := ⟨H5.out.1.keep hb6, H5.out.2.trans (hb6.mono H5.out.1.ov.size)⟩
        clear hb6 H5
        have HSE : Hid (type_of% (seen_bare 7 (by decide) w6 (HLO.out w6 H6.out.2).2.1)) := seen_bare 7 (by decide) w6 (HLO.out w6 H6.out.2).2.1
        go_wp2_with fail
        refine HSE.out.mono ?_
        rintro e w7 ⟨rfl, hb7⟩
        have H7 : Hid (Both PX w1.heap.size w7 pb n bs R zs (.slice fo n fc) (.slice eo zs.length ec) ∧ Below w1.heap.size W3 w7) := ⟨H6.out.1.keep hb7, H6.out.2.trans (hb7.mono H6.out.1.ov.size)⟩
        clear hb7 H6 HSE
        go_wp2
        go_roundw
        case rel => exact ⟨k + 1, PX, bs, R, zs, fo, fc, eo, ec, by omega, by go_num, H7.out.1, HR.out.2.1, HR.out.2.2.1, H7.out.2⟩
        case measure => simp [intOf]; omega
      · obtain ⟨u, rfl, hun, hul⟩ := aliveB_iff.1 hal
        rw [Int.toNat_natCast] at hov4
        have hrows := HR.out.1.after hov4.1
        have hbm := hov4.1.lies _ _ HR.out.2.1
        have href : RefO w4 n bs R zs (.slice fo n fc) (.slice eo zs.length ec) := ⟨HR.out.1.tie, HR.out.1.ov.inv, fl_of_row HR.out.1.ov.bl.1 hrows.1, a4_of_row hrows.2, HR.out.1.ov.bl⟩
        have hrc := fun wx (hx : Below w4.heap.size w4 wx) => rcont_calls (href.keep hx) HZL.out HR.out.2.2.1 HNN.out.1 u hun o0 o1 o2 o3 o4 _ _ rfl rfl
        have hlen := needL_len HR.out.1.ov.inv HNN.out.1 (u : Int) (min (max o0 0) 1048576) (min (max o1 0) 1048576)
        have hzb : ZB (contZ (u : Int) zs (needL n bs R (u : Int) (min (max o0 0) 1048576) (min (max o1 0) 1048576))) := putsZ_zb _ _ _ (fun a ha => HR.out.2.2.1 a (remZ_mem.1 ha).1) fun s hs => (need_ok HR.out.1.tie HR.out.1.ov.inv HR.out.2.2.1 hs).2.2.2
        have hlv := href.lives (u : Int)
        rw [hal] at hlv
        obtain ⟨L, hL⟩ : ∃ L, needL n bs R (u : Int) (min (max o0 0) 1048576) (min (max o1 0) 1048576) = L := ⟨_, rfl⟩
        simp only [hL] at hrc hs4 hov4 hlen hzb ⊢
        obtain ⟨Z, hZ⟩ : ∃ Z, contZ (u : Int) zs L = Z := ⟨_, rfl⟩
        simp only [hZ] at hrc hov4 hzb
        have HLV : Hid (type_of% hlv) := hlv
        have HRC : Hid (type_of% hrc) := hrc
        have H4 : Hid (OvT PX w1.heap.size w4 pb n (bs.set u false) R' Z ∧ HasSs w4 (.slice so L.length sc) L ∧ w4.heap[w2.heap.size]? = some (.cells #[.slice fo n fc, .slice eo zs.length ec] 33 (0, 0)) ∧ Below w1.heap.size W3 w4 ∧ L.length ≤ 144 ∧ ZB Z) := ⟨hov4, hs4, hbm, HR.out.2.2.2.trans hb4, hlen, hzb⟩
        obtain ⟨c0, c1, _, _⟩ := cell_two hbm
        have cs := lt_of_get hbm
        clear hal hun hul hov4 hrows hbm href hrc hlen hzb hlv hL hZ hs4 hb4 HCC
        go_wp2_with fail
        refine HLV.out.mono ?_
        rintro e w5 ⟨rfl, hb5⟩
        have H5 : Hid (Below w4.heap.size w4 w5 ∧ w5.heap[w2.heap.size]? = some (.cells #[.slice fo n fc, .slice eo zs.length ec] 33 (0, 0)) ∧ Below w1.heap.size W3 w5) := ⟨hb5, (hb5.block _ (lt_of_get H4.out.2.2.1)).trans H4.out.2.2.1, H4.out.2.2.2.1.trans (hb5.mono H4.out.1.1.size)⟩
        clear hb5 HLV c0 c1 cs
        obtain ⟨c0, c1, _, _⟩ := cell_two H5.out.2.1
        have cs := lt_of_get H5.out.2.1
        have hob := (HLO.out w5 H5.out.2.2).1
        obtain ⟨p0, p1, ps⟩ := opt_cells hob
        obtain ⟨p2, p3, p4⟩ := opt_all hob
        have HR5 : Hid (type_of% (HRC.out w5 H5.out.1)) := HRC.out w5 H5.out.1
        clear hob
        go_wp2_with fail
        refine HR5.out.mono ?_
        rintro e w6 ⟨fb, fd, zo, zc, lo, lc, rfl, hs6, hf6, ha6, hb6⟩
        clear c0 c1 cs p0 p1 ps p2 p3 p4
        have hb46 := btr H5.out.1 hb6
        have hbm6 := (hb6.block _ (lt_of_get H5.out.2.1)).trans H5.out.2.1
        have hxl : w2.heap.size < w4.heap.size := lt_of_get H4.out.2.2.1
        have h45 := H5.out.1.size
        obtain ⟨hov6, hwd6⟩ := H4.out.1.1.wrap hb46
        have hbo6 : Both (wrapP PX w4.heap.size w6) w1.heap.size w6 pb n (bs.set u false) R' Z (.slice fb n fd) (.slice zo Z.length zc) := ⟨hov6, H4.out.1.2, rowX_base hf6 (Nat.zero_le _), rowX_base ha6 (Nat.zero_le _), wrap_held h45 hf6, wrap_held h45 ha6⟩
        have hbo7 := hbo6.write (hwd6 _ _ HR.out.2.1) (two_set (v0 := .slice fb n fd) (v1 := .slice zo Z.length zc) hbm6) (fun j hj => set_far hj) (fun e => by have := (hf6.lt _ e).1; omega) (fun e => by have := (ha6.lt _ e).1; omega)
        obtain ⟨c0, c1, y0, y1⟩ := cell_two hbm6
        have cs := lt_of_get hbm6
        obtain ⟨W7, hW7⟩ : ∃ W7, (w6.setCell ⟨w2.heap.size, 0, none⟩ (.slice fb n fd)).setCell ⟨w2.heap.size, 1, none⟩ (.slice zo Z.length zc) = W7 := ⟨_, rfl⟩
        have HW7 : Hid ((w6.setCell ⟨w2.heap.size, 0, none⟩ (.slice fb n fd)).setCell ⟨w2.heap.size, 1, none⟩ (.slice zo Z.length zc) = W7) := hW7
        have hsA : HasSs W7 (.slice so L.length sc) L := by rw [← hW7]; exact ss_set (H4.out.2.1.keep hb46) hbm6
        have hsB : HasSs W7 (.slice lo L.length lc) L := by rw [← hW7]; exact ss_set hs6 hbm6
        have hb37 : Below w1.heap.size W3 W7 := by
          rw [← hW7]
          exact ((H5.out.2.2.trans (hb6.mono (Nat.le_trans H4.out.1.1.size h45))).setCell (p := ⟨w2.heap.size, 0, none⟩) HB13.out.2 _).setCell (p := ⟨w2.heap.size, 1, none⟩) HB13.out.2 _
        have hm7 : W7.heap[w2.heap.size]? = some (.cells #[.slice fb n fd, .slice zo Z.length zc] 33 (0, 0)) := by rw [← hW7]; exact two_set hbm6
        rw [hW7] at hbo7
        have H7 : Hid (∃ PX', Both PX' w1.heap.size W7 pb n (bs.set u false) R' Z (.slice fb n fd) (.slice zo Z.length zc) ∧ PX' w2.heap.size = some (.cells #[.slice fb n fd, .slice zo Z.length zc] 33)) := ⟨_, hbo7, by unfold updP; rw [if_pos rfl]⟩
        have H7b : Hid (HasSs W7 (.slice so L.length sc) L ∧ HasSs W7 (.slice lo L.length lc) L ∧ Below w1.heap.size W3 W7 ∧ W7.heap[w2.heap.size]? = some (.cells #[.slice fb n fd, .slice zo Z.length zc] 33 (0, 0)) ∧ w1.heap.size ≤ W7.heap.size) := ⟨hsA, hsB, hb37, hm7, hbo7.ov.size⟩
        clear hs6 hf6 ha6 hb6 hb46 hbm6 hxl h45 hov6 hwd6 hbo6 hbo7 hW7 hsA hsB hb37 hm7 HR5 H5
        go_upto_region 15 with fail
        rw [HW7.out]
        clear c0 c1 y0 y1 cs
        have HOF : Hid (type_of% (of13_calls so sc L W7 H7b.out.1 (by have := H4.out.2.2.2.2.1; omega))) := of13_calls so sc L W7 H7b.out.1 (by have := H4.out.2.2.2.2.1; omega)
        go_wp2_with fail
        refine HOF.out.mono ?_
        rintro e w8 ⟨qo, qc, rfl, ho8, hb8⟩
        have H8 : Hid (HasSs w8 (.slice qo L.length qc) L ∧ HasSs w8 (.slice lo L.length lc) L ∧ Below W7.heap.size W7 w8) := ⟨ss_of_row ho8, H7b.out.2.1.keep hb8, hb8⟩
        clear ho8 hb8 HOF
        have HS8 : Hid (type_of% (same13_yes qo lo qc lc L w8 H8.out.1 H8.out.2.1 (by have := H4.out.2.2.2.2.1; omega))) := same13_yes qo lo qc lc L w8 H8.out.1 H8.out.2.1 (by have := H4.out.2.2.2.2.1; omega)
        go_wp2_with fail
        refine HS8.out.mono ?_
        rintro e w9 ⟨rfl, hb9⟩
        have H9 : Hid (Below W7.heap.size W7 w9) := btr H8.out.2.2 hb9
        clear hb9 HS8 H8
        obtain ⟨PX', hbo7, hpx7⟩ := H7.out
        have HB9 : Hid (Both PX' w1.heap.size w9 pb n (bs.set u false) R' Z (.slice fb n fd) (.slice zo Z.length zc) ∧ PX' w2.heap.size = some (.cells #[.slice fb n fd, .slice zo Z.length zc] 33)) := ⟨hbo7.keep H9.out, hpx7⟩
        have HSL : Hid (type_of% (same_law HB9.out.1 (Nat.le_trans (tied_few HB9.out.1.tie HB9.out.1.ov.inv HNN.out.1) (by omega)))) := same_law HB9.out.1 (Nat.le_trans (tied_few HB9.out.1.tie HB9.out.1.ov.inv HNN.out.1) (by omega))
        have hm9 := (H9.out.block _ (lt_of_get H7b.out.2.2.2.1)).trans H7b.out.2.2.2.1
        obtain ⟨c0, c1, _, _⟩ := cell_two hm9
        have cs := lt_of_get hm9
        clear hbo7 hpx7 hm9
        go_wp2_with fail
        refine HSL.out.mono ?_
        rintro e w10 ⟨rfl, hb10⟩
        have H10 : Hid (Both PX' w1.heap.size w10 pb n (bs.set u false) R' Z (.slice fb n fd) (.slice zo Z.length zc) ∧ Below w1.heap.size W3 w10) := ⟨HB9.out.1.keep hb10, H7b.out.2.2.1.trans ((btr H9.out hb10).mono H7b.out.2.2.2.2)⟩
        clear hb10 HSL c0 c1 cs
        go_wp2
        go_roundw
        case rel => exact ⟨k + 1, PX', bs.set u false, R', Z, fb, fd, zo, zc, by omega, by go_num, H10.out.1, HB9.out.2, H4.out.2.2.2.2.2, H10.out.2⟩
        case measure => simp [intOf]; omega
    · obtain rfl : k = ls.length := by omega
      have HZ : Hid (Below w.heap.size w wr) := (HLO.out wr HR.out.2.2.2).2.2.2
      go_wp2
      go_ret
      exact ⟨rfl, HZ.out⟩
end Go.Proofs.YtbkclhaonbjobaaGreatDoor.Wt

namespace Go.Proofs.YtbkclhaonbjobaaGreatDoor.Wt
open Go Go.RowKit Go.Extern Go.Deep

attribute [local go_sem] Oper.semAt_some

set_option maxRecDepth 100000 in
set_option maxHeartbeats 8000000 in
theorem scontr_no (N : Int) (ao : Option Addr) (cap : Nat) (xs : List (Int × Int × Int)) (w : World) (hX : HasArcs w (.slice ao xs.length cap) xs) (hxl : xs.length ≤ maxLen) (oo : Option Addr) (oc lm : Nat) (hfar : fewB N xs 12 = false ∨ 60 < lm) (io : Option Addr) (il ic : Nat) (o0 o1 o2 o3 o4 : Int) :
    Calls Tryz.prog 4 #[.agg #[.int .i64 N, .slice ao xs.length cap], .slice oo lm oc, .slice io il ic, .agg #[.int .i64 o0, .int .i64 o1, .int .i64 o2, .int .i64 o3, .int .i64 o4]] w fun e w' => e = .returned (.bool true) ∧ Below w.heap.size w w' := by
  obtain ⟨W0, hW0⟩ : ∃ W0, (w.alloc (.cells #[.int .i64 N, .slice ao xs.length cap] 24)).alloc (optObj o0 o1 o2 o3 o4) = W0 := ⟨_, rfl⟩
  obtain ⟨hbx, hk0, hB0⟩ := two_new w (.cells #[.int .i64 N, .slice ao xs.length cap] 24) (optObj o0 o1 o2 o3 o4)
  rw [hW0] at hbx hk0 hB0
  have HW0 : Hid ((w.alloc (.cells #[.int .i64 N, .slice ao xs.length cap] 24)).alloc (.cells #[.int .i64 o0, .int .i64 o1, .int .i64 o2, .int .i64 o3, .int .i64 o4] 27) = W0) := hW0
  have HG : Hid (∀ wx, Below W0.heap.size W0 wx → (wx.cell? ⟨w.heap.size, 0, none⟩ = some (.int .i64 N) ∧ wx.cell? ⟨w.heap.size, 1, none⟩ = some (.slice ao xs.length cap) ∧ w.heap.size < wx.heap.size) ∧ Below w.heap.size w wx) := fun wx hwx => by
    have hgg := (hwx.block _ (lt_of_get hbx)).trans hbx
    exact ⟨⟨(cell_two hgg).1, (cell_two hgg).2.1, lt_of_get hgg⟩, hB0.trans (hwx.mono hB0.size)⟩
  have HLA : Hid (∀ wx (hwx : Below W0.heap.size W0 wx), type_of% (laid_no N ao cap xs wx (hX.keep (HG.out wx hwx).2) hxl oo oc lm hfar)) := fun wx hwx => laid_no N ao cap xs wx (hX.keep (HG.out wx hwx).2) hxl oo oc lm hfar
  have HAW : Hid (type_of% (awake13_calls W0)) := awake13_calls W0
  clear hW0 hB0 hbx hk0 hX hfar
  go_enter Tryz.func4, Tryz.ntmps4
  go_wp2_with fail
  rw [HW0.out]
  refine HAW.out.mono ?_
  rintro e w1 ⟨rfl, hb1⟩
  have HB1 : Hid (Below W0.heap.size W0 w1) := hb1
  clear hb1 HAW
  obtain ⟨⟨g0, g1, gs⟩, _⟩ := HG.out w1 HB1.out
  go_wp2_with fail
  refine (HLA.out w1 HB1.out).mono ?_
  rintro e w2 ⟨rfl, hb2⟩
  have HZ : Hid (Below w.heap.size w (w2.alloc (.cells #[.slice none 0 0, .slice none 0 0] 33))) := (HG.out _ (btr HB1.out (btr hb2 (bel_one _ _)))).2
  clear hb2 g0 g1 gs
  go_wp2
  go_ret
  exact ⟨rfl, HZ.out⟩
set_option maxRecDepth 100000 in
set_option maxHeartbeats 64000000 in
theorem scontr_many (n : Nat) (ao : Option Addr) (cap : Nat) (xs : List (Int × Int × Int)) (w : World) (hX : HasArcs w (.slice ao xs.length cap) xs) (hxl : xs.length ≤ maxLen) (hfew : fewB (n : Int) xs 12 = true) (hg : graphErr (n : Int) xs = (0, [])) (oo : Option Addr) (oc : Nat) (ops : List Op5) (hO : HasOp5 w (.slice oo ops.length oc) ops) (h60 : ops.length ≤ 60) (hwt : ∀ q ∈ ops, 0 ≤ q.2.2.2.1)
    (io : Option Addr) (ic : Nat) (ls : List Int) (hls : HasInts w (.slice io ls.length ic) ls) (hl30 : 30 < ls.length) (o0 o1 o2 o3 o4 : Int) (hty : HasType w) :
    Calls Tryz.prog 4 #[.agg #[.int .i64 (n : Int), .slice ao xs.length cap], .slice oo ops.length oc, .slice io ls.length ic, .agg #[.int .i64 o0, .int .i64 o1, .int .i64 o2, .int .i64 o3, .int .i64 o4]] w fun e w' => e = .returned (.bool true) ∧ Below w.heap.size w w' := by
  have hn12 : n ≤ 12 := by have h := (of_decide_eq_true hfew).2.1; omega
  obtain ⟨W0, hW0⟩ : ∃ W0, (w.alloc (.cells #[.int .i64 (n : Int), .slice ao xs.length cap] 24)).alloc (optObj o0 o1 o2 o3 o4) = W0 := ⟨_, rfl⟩
  obtain ⟨hbx, hk0, hB0⟩ := two_new w (.cells #[.int .i64 (n : Int), .slice ao xs.length cap] 24) (optObj o0 o1 o2 o3 o4)
  rw [hW0] at hbx hk0 hB0
  have HW0 : Hid ((w.alloc (.cells #[.int .i64 (n : Int), .slice ao xs.length cap] 24)).alloc (.cells #[.int .i64 o0, .int .i64 o1, .int .i64 o2, .int .i64 o3, .int .i64 o4] 27) = W0) := hW0
  have HG : Hid (∀ wx, Below W0.heap.size W0 wx → (wx.cell? ⟨w.heap.size, 0, none⟩ = some (.int .i64 (n : Int)) ∧ wx.cell? ⟨w.heap.size, 1, none⟩ = some (.slice ao xs.length cap) ∧ w.heap.size < wx.heap.size) ∧ wx.heap[w.heap.size + 1]? = some (optObj o0 o1 o2 o3 o4) ∧ HasType wx ∧ HasInts wx (.slice io ls.length ic) ls ∧ Below w.heap.size w wx) := fun wx hwx => by
    have hgg := (hwx.block _ (lt_of_get hbx)).trans hbx
    have hb := hB0.trans (hwx.mono hB0.size)
    exact ⟨⟨(cell_two hgg).1, (cell_two hgg).2.1, lt_of_get hgg⟩, (hwx.block _ (lt_of_get hk0)).trans hk0, hty.keep hb hty.pos, hls.keep hb, hb⟩
  have HLA : Hid (∀ wx, Below W0.heap.size W0 wx → Calls Tryz.prog 7 #[.agg #[.int .i64 (n : Int), .slice ao xs.length cap], .slice oo ops.length oc] wx fun e w' => LaidA n wx e w') := fun wx hwx => laid_yes n ao cap xs wx (hX.keep (HG.out wx hwx).2.2.2.2) hxl hfew hg oo oc ops (hO.keep (HG.out wx hwx).2.2.2.2) h60 hwt
  have HAW : Hid (type_of% (awake13_calls W0)) := awake13_calls W0
  have HNN : Hid (n ≤ 12 ∧ 30 < ls.length) := ⟨hn12, hl30⟩
  have q4 : decide ((30 : Int) < (ls.length : Int)) = true := decide_eq_true (by omega)
  have q5 : decide (30 < ls.length) = true := decide_eq_true (by omega)
  have q6 : (30 : Int) < (ls.length : Int) := by omega
  clear hW0 hB0 hbx hk0 hX hO hfew hg hwt hty hls
  go_enter Tryz.func4, Tryz.ntmps4
  go_wp2_with fail
  rw [HW0.out]
  refine HAW.out.mono ?_
  rintro e w1 ⟨rfl, hb1⟩
  have HB1 : Hid (Below W0.heap.size W0 w1) := hb1
  clear hb1 HAW
  obtain ⟨⟨g0, g1, gl⟩, _⟩ := HG.out w1 HB1.out
  go_wp2_with fail
  refine (HLA.out w1 HB1.out).mono ?_
  rintro e w2 ⟨pb, PX, bs, R, zs, fo, fc, eo, ec, rfl, hB, ⟨hzb, hzl⟩, hb2⟩
  clear g0 g1 gl
  obtain ⟨W3, hW3⟩ : ∃ W3, w2.alloc (.cells #[.slice fo n fc, .slice eo zs.length ec] 33) = W3 := ⟨_, rfl⟩
  have HW3 : Hid (w2.alloc (.cells #[.slice fo n fc, .slice eo zs.length ec] 33) = W3) := hW3
  have b3 : Below w2.heap.size w2 W3 := by rw [← hW3]; exact bel_one _ _
  have k3 : W3.heap[w2.heap.size]? = some (.cells #[.slice fo n fc, .slice eo zs.length ec] 33) := by rw [← hW3]; exact heap_new _ _
  have HZ : Hid (Below w.heap.size w W3) := (HG.out W3 (btr HB1.out (btr hb2 b3))).2.2.2.2
  clear hB hzb hzl hb2 hW3 b3 k3
  go_upto_region 4 with fail
  rw [HW3.out]
  go_wp2
  go_ret
  exact ⟨rfl, HZ.out⟩
/-- the law, whatever it is handed. -/
theorem scontr_calls (N : Int) (ao : Option Addr) (cap : Nat) (xs : List (Int × Int × Int)) (w : World) (hX : HasArcs w (.slice ao xs.length cap) xs) (hxl : xs.length ≤ maxLen) (oo : Option Addr) (oc : Nat) (ops : List Op5) (hO : HasOp5 w (.slice oo ops.length oc) ops) (hwt : ∀ q ∈ ops, 0 ≤ q.2.2.2.1) (io : Option Addr) (ic : Nat) (ls : List Int) (hls : HasInts w (.slice io ls.length ic) ls) (o0 o1 o2 o3 o4 : Int) (hty : HasType w) :
    Calls Tryz.prog 4 #[.agg #[.int .i64 N, .slice ao xs.length cap], .slice oo ops.length oc, .slice io ls.length ic, .agg #[.int .i64 o0, .int .i64 o1, .int .i64 o2, .int .i64 o3, .int .i64 o4]] w fun e w' => e = .returned (.bool true) ∧ Below w.heap.size w w' := by
  by_cases hfar : fewB N xs 12 = false ∨ 60 < ops.length
  · exact scontr_no N ao cap xs w hX hxl oo oc ops.length hfar io ls.length ic o0 o1 o2 o3 o4
  · obtain ⟨h1, h2⟩ := not_or.1 hfar
    have hb : fewB N xs 12 = true := by simpa using h1
    obtain ⟨hg, hN, _⟩ := of_decide_eq_true hb
    have hN0 := ((good_iff _ _).1 hg).1
    obtain ⟨n, rfl⟩ : ∃ n : Nat, N = (n : Int) := ⟨N.toNat, by omega⟩
    by_cases hm : ls.length ≤ 30
    · exact scontr_yes n ao cap xs w hX hxl hb hg oo oc ops hO (by omega) hwt io ic ls hls hm o0 o1 o2 o3 o4 hty
    · exact scontr_many n ao cap xs w hX hxl hb hg oo oc ops hO (by omega) hwt io ic ls hls (by omega) o0 o1 o2 o3 o4 hty
end Go.Proofs.YtbkclhaonbjobaaGreatDoor.Wt
