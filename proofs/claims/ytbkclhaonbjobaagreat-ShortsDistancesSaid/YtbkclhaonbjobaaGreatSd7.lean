/- ShortsDistances, walked: the graph is right and small, the list short. -/
import Derived.Test.YtbkclhaonbjobaaGreatQxX
namespace Go.Proofs.YtbkclhaonbjobaaGreat.Wt
open Go Go.RowKit Go.Extern Go.Deep

attribute [local go_sem] Oper.semAt_some

set_option maxRecDepth 100000 in
set_option maxHeartbeats 64000000 in
theorem sdist_yes (n : Nat) (ao : Option Addr) (cap : Nat) (xs : List (Int × Int × Int)) (w : World) (hX : HasArcs w (.slice ao xs.length cap) xs) (hxl : xs.length ≤ maxLen) (hfew : fewB (n : Int) xs 12 = true) (hg : graphErr (n : Int) xs = (0, []))
    (io : Option Addr) (ic : Nat) (ls : List Int) (hls : HasInts w (.slice io ls.length ic) ls) (hl40 : ls.length ≤ 40) (o0 o1 o2 o3 o4 : Int) :
    Calls Tryz.prog 3 #[.agg #[.int .i64 (n : Int), .slice ao xs.length cap], .slice io ls.length ic, .agg #[.int .i64 o0, .int .i64 o1, .int .i64 o2, .int .i64 o3, .int .i64 o4]] w fun e w' => e = .returned (.bool true) ∧ Below w.heap.size w w' := by
  have hff := of_decide_eq_true hfew
  have hn12 : n ≤ 12 := by have h := hff.2.1; omega
  obtain ⟨W0, hW0⟩ : ∃ W0, (w.alloc (.cells #[.int .i64 (n : Int), .slice ao xs.length cap] 24)).alloc (optObj o0 o1 o2 o3 o4) = W0 := ⟨_, rfl⟩
  obtain ⟨hbx, hk0, hB0⟩ := two_new w (.cells #[.int .i64 (n : Int), .slice ao xs.length cap] 24) (optObj o0 o1 o2 o3 o4)
  rw [hW0] at hbx hk0 hB0
  have HW0 : Hid ((w.alloc (.cells #[.int .i64 (n : Int), .slice ao xs.length cap] 24)).alloc (.cells #[.int .i64 o0, .int .i64 o1, .int .i64 o2, .int .i64 o3, .int .i64 o4] 27) = W0) := hW0
  have HG : Hid (∀ wx, Below W0.heap.size W0 wx → (wx.cell? ⟨w.heap.size, 0, none⟩ = some (.int .i64 (n : Int)) ∧ wx.cell? ⟨w.heap.size, 1, none⟩ = some (.slice ao xs.length cap) ∧ w.heap.size < wx.heap.size) ∧ wx.heap[w.heap.size + 1]? = some (optObj o0 o1 o2 o3 o4) ∧ HasInts wx (.slice io ls.length ic) ls ∧ Below w.heap.size w wx) := fun wx hwx => by
    have hgg := (hwx.block _ (lt_of_get hbx)).trans hbx
    have hb := hB0.trans (hwx.mono hB0.size)
    exact ⟨⟨(cell_two hgg).1, (cell_two hgg).2.1, lt_of_get hgg⟩, (hwx.block _ (lt_of_get hk0)).trans hk0, hls.keep hb, hb⟩
  have HFW : Hid (∀ wx, Below W0.heap.size W0 wx → Calls Tryz.prog 6 #[.agg #[.int .i64 (n : Int), .slice ao xs.length cap], .int .i64 12] wx fun e w' => e = .returned (.bool true) ∧ Below wx.heap.size wx w') := fun wx hwx => by
    have h := few_calls (n : Int) ao cap xs 12 wx (hX.keep (HG.out wx hwx).2.2.2) hxl
    rw [hfew] at h
    exact h
  have HNW : Hid (∀ wx, Below W0.heap.size W0 wx → Calls Tryz.prog 7 #[.agg #[.int .i64 (n : Int), .slice ao xs.length cap]] wx fun e w' => ∃ pb R, e = .returned (.tuple #[.pointer (some ⟨pb, 0, none⟩), .nilIface]) ∧ IsOv noP wx.heap.size w' pb n (List.replicate n true) R (n : Int) ((normA xs).length : Int) ∧ (∀ s u, u < n → (R s u).2 = (sideL s (normA xs) u, 0)) ∧ Below wx.heap.size wx w') := fun wx hwx => ov_new ao xs.length cap xs wx (hX.keep (HG.out wx hwx).2.2.2) hg
  have HDG : Hid (∀ wx, Below W0.heap.size W0 wx → Calls Tryz.prog 8 #[.agg #[.int .i64 (n : Int), .slice ao xs.length cap]] wx fun e w' => ∃ db rs, e = .returned (.slice (some ⟨db, 0, none⟩) n n) ∧ Dt.MatP wx.heap.size w' db n n rs (Dt.dist n (fun _ => true) xs) ∧ Below wx.heap.size wx w') := fun wx hwx => gdist_calls n hn12 ao cap xs wx (hX.keep (HG.out wx hwx).2.2.2) hg (by have := hff.2.2; omega)
  have HAW : Hid (type_of% (awake13_calls W0)) := awake13_calls W0
  have HNN : Hid (n ≤ 12 ∧ ls.length ≤ 40) := ⟨hn12, hl40⟩
  have HGE : Hid (graphErr (n : Int) xs = (0, [])) := hg
  have q4 : decide ((40 : Int) < (ls.length : Int)) = false := decide_eq_false (by omega)
  have q5 : decide (40 < ls.length) = false := decide_eq_false (by omega)
  have q6 : ¬ (40 : Int) < (ls.length : Int) := by omega
  clear hW0 hB0 hbx hk0 hX hfew hg hls hff
  go_enter Tryz.func3, Tryz.ntmps3
  go_wp2_with fail
  rw [HW0.out]
  refine HAW.out.mono ?_
  rintro e w1 ⟨rfl, hb1⟩
  have HB1 : Hid (Below W0.heap.size W0 w1) := hb1
  clear hb1 HAW
  obtain ⟨⟨g0, g1, gl⟩, _⟩ := HG.out w1 HB1.out
  go_wp2_with fail
  refine (HFW.out w1 HB1.out).mono ?_
  rintro e w2 ⟨rfl, hb2⟩
  have HB2 : Hid (Below W0.heap.size W0 w2) := btr HB1.out hb2
  clear hb2 g0 g1 gl HFW
  obtain ⟨⟨g0, g1, gl⟩, _⟩ := HG.out w2 HB2.out
  go_wp2_with fail
  clear q4 q5 q6
  refine (HNW.out w2 HB2.out).mono ?_
  rintro e w3 ⟨pb, R, rfl, hO, hR, hb3⟩
  have hti : Tied n (List.replicate n true) R ((normA xs).map asA4) := tied_new (normA_norm xs).rise (fun a ha => (norm_sub ha).2) (fun a ha => by have := graph_arc (good_norm HGE.out) ha; exact ⟨⟨this.1, this.2.1⟩, this.2.2.1, this.2.2.2.1⟩) hR
  have H3 : Hid (OvT noP w2.heap.size w3 pb n (List.replicate n true) R ((normA xs).map asA4) ∧ Below w2.heap.size w2 w3) := by
    refine ⟨⟨?_, hti⟩, hb3⟩
    rw [List.length_map, aliveN_all]
    exact hO
  have HB3 : Hid (Below W0.heap.size W0 w3) := btr HB2.out hb3
  clear hO hR hb3 hti g0 g1 gl HNW
  obtain ⟨⟨g0, g1, gl⟩, _⟩ := HG.out w3 HB3.out
  go_wp2_with fail
  refine (HDG.out w3 HB3.out).mono ?_
  rintro e w4 ⟨db, rs, rfl, hM, hb4⟩
  have hw4 := H3.out.1.1.wrap hb4
  obtain ⟨PX, hPX⟩ : ∃ PX, wrapP noP w3.heap.size w4 = PX := ⟨_, rfl⟩
  have HML : Hid (∀ wx bs R nodes arcs, IsOv PX w2.heap.size wx pb n bs R nodes arcs → Dt.MatP w3.heap.size wx db n n rs (Dt.dist n (fun _ => true) xs)) := fun wx bs R nodes arcs h => by rw [← hPX] at h; exact mat_lies h hM
  rw [hPX] at hw4
  have hz0 : ZB ((normA xs).map asA4) := fun a ha => by
    obtain ⟨b, hb, rfl⟩ := List.mem_map.1 ha
    have := graph_arc (good_norm HGE.out) hb
    exact ⟨this.2.2.2.2.1, by show b.2.2 ≤ _; omega⟩
  have H4 : Hid (OvT PX w2.heap.size w4 pb n (List.replicate n true) R ((normA xs).map asA4) ∧ ZB ((normA xs).map asA4) ∧ Kept9 n (List.replicate n true) ((normA xs).map asA4) xs) := ⟨⟨hw4.1, H3.out.1.2⟩, hz0, kept9_new HGE.out HNN.out.1⟩
  have HLO : Hid (∀ wx, Below w2.heap.size w4 wx → (wx.cell? ⟨w.heap.size, 0, none⟩ = some (.int .i64 (n : Int)) ∧ w.heap.size < wx.heap.size) ∧ wx.heap[w.heap.size + 1]? = some (optObj o0 o1 o2 o3 o4) ∧ HasInts wx (.slice io ls.length ic) ls ∧ Below w.heap.size w wx) := fun wx hx => by
    have h24 : Below w2.heap.size w2 w4 := btr H3.out.2 hb4
    have h := HG.out wx (btr HB2.out (h24.trans hx))
    exact ⟨⟨h.1.1, h.1.2.2⟩, h.2⟩
  clear hM hb4 hw4 hPX hz0 g0 g1 gl HDG H3
  go_wp2_with fail
  go_loopw [43] (fun iv wr => ∃ (k : Nat) (bs : List Bool) (R : Bool → Nat → Rw) (zs : List A4), k ≤ ls.length ∧ iv = .int .i64 k ∧ OvT PX w2.heap.size wr pb n bs R zs ∧ ZB zs ∧ Kept9 n bs zs xs ∧ Below w2.heap.size w4 wr) (fun iv _ => ls.length - (intOf iv).toNat)
  case atStart => exact ⟨0, _, R, _, Nat.zero_le _, rfl, H4.out.1, H4.out.2.1, H4.out.2.2, Below.refl _ _⟩
  case round =>
    clear H4 HW0
    obtain ⟨k, bs, R, zs, hk, rfl, hov, hzb, hkp, hbw⟩ := hrel
    have HR : Hid (OvT PX w2.heap.size wr pb n bs R zs ∧ ZB zs ∧ Kept9 n bs zs xs ∧ Below w2.heap.size w4 wr) := ⟨hov, hzb, hkp, hbw⟩
    clear hov hzb hkp hbw
    by_cases hlt : k < ls.length
    · obtain ⟨v, hv⟩ : ∃ v, ls[k]? = some v := ⟨ls[k], List.getElem?_eq_getElem hlt⟩
      obtain ⟨_, hob, hgi, _⟩ := HLO.out wr HR.out.2.2.2
      obtain ⟨b, off, rfl, bl, e0⟩ := hgi.at hv
      obtain ⟨p0, p1, ps⟩ := opt_cells hob
      obtain ⟨p2, p3, p4⟩ := opt_all hob
      have i1 : (k : Int) < (ls.length : Int) := by omega
      have i2 : (0 : Int) ≤ (k : Int) := by omega
      have hll := HNN.out.2
      have HAL : Hid (type_of% (HR.out.1.1.alive v)) := HR.out.1.1.alive v
      have HCC : Hid (type_of% (contA_calls HGE.out HR.out.1 HR.out.2.1 HR.out.2.2.1 HNN.out.1 v o0 o1 o2 o3 o4)) := contA_calls HGE.out HR.out.1 HR.out.2.1 HR.out.2.2.1 HNN.out.1 v o0 o1 o2 o3 o4
      clear hgi hv hob
      go_wp2_with fail
      refine HAL.out.mono ?_
      rintro e wr' ⟨rfl, rfl⟩
      clear e0 bl HAL
      go_wp2_with fail
      refine HCC.out.mono ?_
      clear p0 p1 ps p2 p3 p4
      rintro e w5 ⟨lv, ev, bs', R', zs', rfl, hcase, hov5, hgone, hzb5, hkp5, hb5⟩
      have H5 : Hid (OvT PX w2.heap.size w5 pb n bs' R' zs' ∧ ZB zs' ∧ Kept9 n bs' zs' xs ∧ Below w2.heap.size w4 w5) := ⟨hov5, hzb5, hkp5, HR.out.2.2.2.trans hb5⟩
      have HAV : Hid (type_of% (hov5.1.alive v)) := hov5.1.alive v
      rw [hgone] at HAV
      clear hov5 hgone hzb5 hkp5 hb5 HCC HR
      rcases hcase with ⟨hal, rfl⟩ | ⟨hal, rfl⟩ <;>
      (rw [hal]
       clear hal
       go_wp2_with fail
       refine HAV.out.mono ?_
       rintro e w6 ⟨rfl, hw6⟩
       rw [hw6]
       clear hw6 HAV
       obtain ⟨⟨g0, gl⟩, _⟩ := HLO.out w5 H5.out.2.2.2
       obtain ⟨W6, hW6⟩ : ∃ W6, (w5.alloc (.cells (madeCells #[.bool false] n) 4)).alloc (.cells #[.slice (some ⟨w5.heap.size, 0, none⟩) n n, .slice none 0 0] 44) = W6 := ⟨_, rfl⟩
       have HW6 : Hid ((w5.alloc (.cells (madeCells #[.bool false] n) 4)).alloc (.cells #[.slice (some ⟨w5.heap.size, 0, none⟩) n n, .slice none 0 0] 44) = W6) := hW6
       have HN6 : Hid (NowS n (w5.heap.size + 1) w5.heap.size 0 0 w5 w5 W6 (flg n bs' 0) (.slice none 0 0) (nowL n bs' R' 0)) := by
         rw [flg_zero, ← hW6]
         exact now_made
       have hn12 := HNN.out.1
       have hmk := run_make_row' (P := Tryz.prog) 41 4 (.bool false) 1 Tryz.underlying41 infoBo rfl .i64 .i64 n (by omega) (by omega)
       have HBX : Hid (∀ wx, Below w5.heap.size w5 wx → (wx.cell? ⟨w.heap.size, 0, none⟩ = some (.int .i64 (n : Int)) ∧ w.heap.size < wx.heap.size) ∧ OvT PX w2.heap.size wx pb n bs' R' zs' ∧ Dt.MatP w3.heap.size wx db n n rs (Dt.dist n (fun _ => true) xs) ∧ Below w2.heap.size w4 wx) := fun wx hx => by
         have hb : Below w2.heap.size w4 wx := H5.out.2.2.2.trans (hx.mono H5.out.1.1.size)
         exact ⟨(HLO.out wx hb).1, ⟨H5.out.1.1.keep hx, H5.out.1.2⟩, HML.out wx _ _ _ _ (H5.out.1.1.keep hx), hb⟩
       clear hW6
       go_upto_region 17 with fail
       rw [HW6.out]
       clear hmk g0 gl
       obtain ⟨⟨g0, gl⟩, _⟩ := HBX.out W6 HN6.out.below
       go_wp2_with fail
       clear g0 gl
       go_loopw [72] (fun uv wr => ∃ (u : Nat) (ro : Option Addr) (rc : Nat), u ≤ n ∧ uv = .int .i64 u ∧ NowS n (w5.heap.size + 1) w5.heap.size 0 0 w5 w5 wr (flg n bs' u) (.slice ro (nowL n bs' R' u).length rc) (nowL n bs' R' u)) (fun uv _ => n - (intOf uv).toNat)
       case atStart => exact ⟨0, none, 0, Nat.zero_le _, rfl, HN6.out⟩
       case round =>
         obtain ⟨u, ro, rc, hu, rfl, hN⟩ := hrel
         have HN : Hid (type_of% hN) := hN
         clear hN HW6 HN6
         by_cases hun : u < n
         · obtain ⟨c0, c1, cs, cf⟩ := HN.out.cells
           obtain ⟨f0, f1, f2⟩ := HN.out.flagAt (k := u) (by rw [flg_len]; exact hun)
           have HA : Hid (∀ wx, Below wr.heap.size wr wx → Calls Tryz.prog 9 #[.pointer (some ⟨pb, 0, none⟩), .int .i64 (u : Int)] wx fun e w' => e = .returned (.bool (liv bs' u)) ∧ w' = wx) := fun wx hx => by
             have h := (HBX.out wx (HN.out.later hx).below).2.1.1.alive (u : Int)
             rw [liv_alive hun] at h
             exact h
           have i3 : (u : Int) < (n : Int) := by omega
           have i4 : (0 : Int) ≤ (u : Int) := by omega
           have n1 : w5.heap.size ≠ w5.heap.size + 1 := by omega
           have n2 : w5.heap.size + 1 ≠ w5.heap.size := by omega
           have HF : Hid (∀ wx, Below wr.heap.size wr wx → NowS n (w5.heap.size + 1) w5.heap.size 0 0 w5 w5 (wx.setCell ⟨w5.heap.size, u, none⟩ (.bool (liv bs' u))) (flg n bs' (u + 1)) (.slice ro (nowL n bs' R' u).length rc) (nowL n bs' R' u)) := fun wx hx => by
             have h := (HN.out.later hx).flag u (liv bs' u)
             rw [flg_set n bs' u] at h
             exact h
           go_upto_region 20 with fail
           go_region_held3 (fun w' => w'.cell? ⟨w5.heap.size + 1, 0, none⟩ = some (.slice (some ⟨w5.heap.size, 0, none⟩) n n)) (go_keep) (first
             | (go_at_call 9; refine (HA.out _ (by first | exact (Below.refl _ _).drew | exact Below.refl _ _ | exact below_drewN (Below.refl _ _) _)).mono ?_; rintro e v1 ⟨rfl, hy⟩; have V1 : Hid (Below wr.heap.size wr v1) := (by rw [hy]; first | exact (Below.refl _ _).drew | exact Below.refl _ _ | exact below_drewN (Below.refl _ _) _); clear hy c0 c1 cs cf f0 f1 f2; obtain ⟨c0, c1, cs, cf⟩ := (HN.out.later V1.out).cells; obtain ⟨f0, f1, f2⟩ := (HN.out.later V1.out).flagAt (k := u) (by rw [flg_len]; exact hun)))
           obtain ⟨W7, hW7⟩ : ∃ W7, v1.setCell ⟨w5.heap.size, u, none⟩ (.bool (liv bs' u)) = W7 := ⟨_, rfl⟩
           have HN7 : Hid (NowS n (w5.heap.size + 1) w5.heap.size 0 0 w5 w5 W7 (flg n bs' (u + 1)) (.slice ro (nowL n bs' R' u).length rc) (nowL n bs' R' u)) := by
             have h := HF.out v1 V1.out
             rw [hW7] at h
             exact h
           rw [hW7]
           clear hW7 c0 c1 cs cf f0 f1 f2 HF HA V1 n1 n2 HN
           have HO : Hid (type_of% (ov_outO (HBX.out W7 HN7.out.below).2.1.1 (u : Int))) := ov_outO (HBX.out W7 HN7.out.below).2.1.1 (u : Int)
           have HOI : Hid (((outM n bs' R' false (u : Int)).length ≤ 12 ∧ (nowL n bs' R' u).length ≤ 144) ∧ (∀ y ∈ outM n bs' R' false (u : Int), ∃ m : Nat, y.1 = (m : Int) ∧ m < n) ∧ nowL n bs' R' (u + 1) = nowL n bs' R' u ++ (outM n bs' R' false (u : Int)).map (arcU u)) := by
             have q1 := half_few H5.out.1.1.inv false (u : Int)
             have q2 := nowL_len H5.out.1.1.inv u
             have q3 := Nat.mul_le_mul (show u ≤ 12 by omega) hn12
             refine ⟨⟨by omega, by omega⟩, fun y hy => ?_, nowL_succ u⟩
             obtain ⟨m, e, hm, _⟩ := aliveB_iff.1 (half_ok H5.out.1.2 H5.out.1.1.inv H5.out.2.1 hy).2.1
             exact ⟨m, e, hm⟩
           obtain ⟨outs, houts⟩ : ∃ outs, outM n bs' R' false (u : Int) = outs := ⟨_, rfl⟩
           rw [houts] at HO HOI
           clear houts
           generalize nowL n bs' R' u = NL at *
           go_wp2_with fail
           refine HO.out.mono ?_
           rintro e w8 ⟨xo, xc, rfl, ho8, hb8⟩
           have HN8 : Hid (NowS n (w5.heap.size + 1) w5.heap.size W7.heap.size w8.heap.size w5 w8 w8 (flg n bs' (u + 1)) (.slice ro NL.length rc) NL) := HN7.out.over hb8
           have HKP : Hid (∀ wx : World, (∀ j, W7.heap.size ≤ j → j < w8.heap.size → wx.heap[j]? = w8.heap[j]?) → HasHs wx (.slice xo outs.length xc) outs) := fun wx hkp => hs_of_rowH (row_keep9 ho8 fun g hg => hkp g (ho8.lt g hg).1 (ho8.lt g hg).2)
           clear ho8 hb8 HO HN7
           generalize hWX : wr = wo at *
           clear hWX
           go_wp2_with fail
           go_loopw [86] (fun jv wx => ∃ (j : Nat) (ro : Option Addr) (rc : Nat), j ≤ outs.length ∧ jv = .int .i64 j ∧ NowS n (w5.heap.size + 1) w5.heap.size W7.heap.size w8.heap.size w5 w8 wx (flg n bs' (u + 1)) (.slice ro (NL ++ (outs.take j).map (arcU u)).length rc) (NL ++ (outs.take j).map (arcU u))) (fun jv _ => outs.length - (intOf jv).toNat)
           case atStart =>
             have e1 : NL ++ (outs.take 0).map (arcU u) = NL := by simp
             refine ⟨0, ro, rc, Nat.zero_le _, rfl, ?_⟩
             rw [e1]
             exact HN8.out
           case round =>
             obtain ⟨j, ro, rc, hj, rfl, hM⟩ := hrel
             have HM : Hid (type_of% hM) := hM
             clear hM HN8
             by_cases hjl : j < outs.length
             · obtain ⟨y, hy⟩ : ∃ y, outs[j]? = some y := ⟨outs[j], List.getElem?_eq_getElem hjl⟩
               obtain ⟨yb, yof, hxo, yl, r0, r1, r2⟩ := (HKP.out wr HM.out.keep).at hy
               subst hxo
               obtain ⟨m, hym, hmn⟩ := HOI.out.2.1 y (List.mem_of_getElem? hy)
               have HTK : Hid (NL ++ (outs.take (j + 1)).map (arcU u) = NL ++ (outs.take j).map (arcU u) ++ [arcU u y]) := by
                 show _ = _
                 rw [List.take_add_one, hy, List.map_append, List.append_assoc]
                 rfl
               have hAL : (NL ++ (outs.take j).map (arcU u)).length ≤ 200 := by
                 rw [List.length_append, List.length_map, List.length_take]
                 have := HOI.out.1
                 omega
               obtain ⟨y0, y1, y2⟩ := y
               simp only at r0 r1 r2 hym
               subst hym
               have HAY : Hid (arcU u ((m : Int), y1, y2) = ((u : Int), (m : Int), y1, (0 : Int))) := rfl
               generalize NL ++ (outs.take j).map (arcU u) = AL at *
               obtain ⟨W9, hW9⟩ : ∃ W9, wr.alloc (.cells #[.int .i64 (m : Int), .int .u64 y1, .int .i64 y2] 49) = W9 := ⟨_, rfl⟩
               have HW9 : Hid (wr.alloc (.cells #[.int .i64 (m : Int), .int .u64 y1, .int .i64 y2] 49) = W9) := hW9
               have hb9 : Below wr.heap.size wr W9 := by rw [← hW9]; exact bel_one _ _
               have k9 : W9.heap[wr.heap.size]? = some (.cells #[.int .i64 (m : Int), .int .u64 y1, .int .i64 y2] 49) := by rw [← hW9]; exact heap_new _ _
               have hM9 := HM.out.later hb9
               have HAP : Hid (NowS n (w5.heap.size + 1) w5.heap.size W7.heap.size w8.heap.size w5 w8 (W9.alloc (.cells #[.int .i64 (u : Int), .int .i64 (m : Int), .int .u64 y1, .int .i64 0] 51)) (flg n bs' (u + 1)) (.slice ro AL.length rc) AL ∧ HasA4 (W9.alloc (.cells #[.int .i64 (u : Int), .int .i64 (m : Int), .int .u64 y1, .int .i64 0] 51)) (.slice (some ⟨W9.heap.size, 0, none⟩) 1 1) [((u : Int), (m : Int), y1, (0 : Int))] ∧ w5.heap.size ≤ (W9.alloc (.cells #[.int .i64 (u : Int), .int .i64 (m : Int), .int .u64 y1, .int .i64 0] 51)).heap.size) := by
                 have h := hM9.later (bel_one W9 (.cells #[.int .i64 (u : Int), .int .i64 (m : Int), .int .u64 y1, .int .i64 0] 51))
                 exact ⟨h, a4_one W9 ((u : Int), (m : Int), y1, (0 : Int)) _, h.below.size⟩
               obtain ⟨⟨g0, gl⟩, _⟩ := HBX.out W9 hM9.below
               obtain ⟨c0, c1, cs, cf⟩ := hM9.cells
               have e0 : W9.cell? ⟨wr.heap.size, 0, none⟩ = some (.int .i64 (m : Int)) := by simp [World.cell?, k9]
               have e1 : W9.cell? ⟨wr.heap.size, 1, none⟩ = some (.int .u64 y1) := by simp [World.cell?, k9]
               have es := lt_of_get k9
               have i5 : (j : Int) < (outs.length : Int) := by omega
               have i6 : (0 : Int) ≤ (j : Int) := by omega
               have i7 : ¬ (m : Int) < 0 := by omega
               have i8 : ¬ (n : Int) ≤ (m : Int) := by omega
               have hol := HOI.out.1.1
               clear hy hW9 hb9 k9 hM9
               go_upto_region 24 with fail
               rw [HW9.out]
               clear r0 r1 r2 yl
               go_wp2_with (at_builtin; refine wpList_append_a4A rfl _ _ rfl w5.heap.size (.slice ro AL.length rc) AL rfl HAP.out.1.row ⟨W9.heap.size, 0, none⟩ 1 [((u : Int), (m : Int), y1, (0 : Int))] rfl HAP.out.2.1 (by simp only [List.length_cons, List.length_nil]; omega) HAP.out.2.2 ?_; intro v11 w11 hown hgr hv; obtain ⟨ro2, rc2, hv2⟩ := row4_slice hown; subst hv2; have H11 : Hid (NowS n (w5.heap.size + 1) w5.heap.size W7.heap.size w8.heap.size w5 w8 (w11.setCell ⟨w5.heap.size + 1, 1, none⟩ (.slice ro2 (AL ++ [((u : Int), (m : Int), y1, (0 : Int))]).length rc2)) (flg n bs' (u + 1)) (.slice ro2 (AL ++ [((u : Int), (m : Int), y1, (0 : Int))]).length rc2) (AL ++ [((u : Int), (m : Int), y1, (0 : Int))])) := HAP.out.1.add hown hgr hv; have hk11 := (hgr.block _ (lt_of_get HAP.out.1.box) (fun e => (HAP.out.1.out _ e.symm).2.1 rfl)).trans HAP.out.1.box; clear c0 c1 cs cf; obtain ⟨c0, c1, cs, cf⟩ : w11.cell? ⟨w5.heap.size + 1, 0, none⟩ = some (.slice (some ⟨w5.heap.size, 0, none⟩) n n) ∧ w11.cell? ⟨w5.heap.size + 1, 1, none⟩ = some (.slice ro AL.length rc) ∧ w5.heap.size + 1 < w11.heap.size ∧ w11.frozen? ⟨w5.heap.size + 1, 1, none⟩ = false := ⟨by simp [World.cell?, hk11], by simp [World.cell?, hk11], lt_of_get hk11, by simp [World.frozen?, hk11]⟩; clear hown hgr hv hk11)
               go_roundw
               case rel => exact ⟨j + 1, ro2, rc2, by omega, by go_num, by
                 have h := H11.out
                 rw [HTK.out, HAY.out]
                 rw [show (AL ++ [((u : Int), (m : Int), y1, (0 : Int))]).length = AL.length + 1 by simp] at h ⊢
                 exact h⟩
               case measure => simp [intOf]; omega
             · obtain rfl : j = outs.length := by omega
               have HE : Hid (NowS n (w5.heap.size + 1) w5.heap.size 0 0 w5 w5 wr (flg n bs' (u + 1)) (.slice ro (nowL n bs' R' (u + 1)).length rc) (nowL n bs' R' (u + 1))) := by
                 have h := HM.out.fill
                 rw [List.take_length, ← HOI.out.2.2] at h
                 exact h
               clear HM
               go_wp2
               go_roundw
               case rel => exact ⟨u + 1, ro, rc, by omega, by go_num, HE.out⟩
               case measure => simp [intOf]; omega
         · obtain rfl : n = u := by omega
           have hbl : bs'.length = n := H5.out.1.1.bl.1
           rw [flg_all hbl] at HN
           have hnl := nowL_len H5.out.1.1.inv (R := R') n
           have hn2 := Nat.mul_le_mul hn12 hn12
           have HDI : Hid (type_of% (Dt.dist_calls n hn12 (some ⟨w5.heap.size, 0, none⟩) n bs' hbl ro (nowL n bs' R' n).length rc (nowL n bs' R' n) wr (HN.out.hasFl hbl) HN.out.hasA4 rfl (now_ends H5.out.1.2 H5.out.1.1.inv) (now_fine H5.out.1.2 H5.out.1.1.inv H5.out.2.1) (by omega))) := Dt.dist_calls n hn12 (some ⟨w5.heap.size, 0, none⟩) n bs' hbl ro (nowL n bs' R' n).length rc (nowL n bs' R' n) wr (HN.out.hasFl hbl) HN.out.hasA4 rfl (now_ends H5.out.1.2 H5.out.1.1.inv) (now_fine H5.out.1.2 H5.out.1.1.inv H5.out.2.1) (by omega)
           have HEQ : Hid (∀ i j : Nat, i < n → j < n → liv bs' i = true → liv bs' j = true → Dt.dist n (liv bs') ((nowL n bs' R' n).map Dt.as3) i j = Dt.dist n (fun _ => true) xs i j) := fun i j hi hj li lj => (now_dist H5.out.1.2 H5.out.1.1.inv H5.out.2.1 hn12 hi li).trans (H5.out.2.2.1 i j hi hj li lj)
           generalize Dt.dist n (liv bs') ((nowL n bs' R' n).map Dt.as3) = D1 at *
           obtain ⟨c0, c1, cs, cf⟩ := HN.out.cells
           generalize hWX : wr = wo at *
           clear hWX
           go_wp2_with fail
           refine HDI.out.mono ?_
           rintro e w9 ⟨d2, rs2, rfl, hM2, hb9⟩
           have HQ : Hid (∀ wx, Below w9.heap.size w9 wx → (∀ i j : Nat, i < n → j < n → (wx.cell? ⟨w5.heap.size + 1, 0, none⟩ = some (.slice (some ⟨w5.heap.size, 0, none⟩) n n) ∧ w5.heap.size + 1 < wx.heap.size) ∧ (wx.cell? ⟨w5.heap.size, i, none⟩ = some (.bool (liv bs' i)) ∧ wx.cell? ⟨w5.heap.size, j, none⟩ = some (.bool (liv bs' j)) ∧ w5.heap.size < wx.heap.size) ∧ (wx.cell? ⟨d2, i, none⟩ = some (.slice (some ⟨rs2 i, 0, none⟩) n n) ∧ d2 < wx.heap.size ∧ wx.cell? ⟨rs2 i, j, none⟩ = some (.int .u64 (D1 i j)) ∧ rs2 i < wx.heap.size) ∧ (wx.cell? ⟨db, i, none⟩ = some (.slice (some ⟨rs i, 0, none⟩) n n) ∧ db < wx.heap.size ∧ wx.cell? ⟨rs i, j, none⟩ = some (.int .u64 (Dt.dist n (fun _ => true) xs i j)) ∧ rs i < wx.heap.size)) ∧ OvT PX w2.heap.size wx pb n bs' R' zs' ∧ Below w2.heap.size w4 wx) := fun wx hx => by
             have hN9 := HN.out.later (btr hb9 hx)
             have hX := HBX.out wx hN9.below
             have hM9 := hM2.keep hx
             refine ⟨fun i j hi hj => ?_, hX.2.1, hX.2.2.2⟩
             have q1 := hN9.cells
             have q2 := hN9.flagAt (k := i) (by rw [hbl]; exact hi)
             have q3 := hN9.flagAt (k := j) (by rw [hbl]; exact hj)
             have q4 := hM9.at hi (Nat.le_refl _)
             have q5 := hM9.cell hi hj
             have q6 := hX.2.2.1.at hi (Nat.le_refl _)
             have q7 := hX.2.2.1.cell hi hj
             exact ⟨⟨q1.1, q1.2.2.1⟩, ⟨q2.1, q3.1, q2.2.2⟩, ⟨q4.1, q4.2.2, q5.1, q5.2.2⟩, q6.1, q6.2.2, q7.1, q7.2.2⟩
           have HKZ : Hid (ZB zs' ∧ Kept9 n bs' zs' xs) := ⟨H5.out.2.1, H5.out.2.2.1⟩
           generalize Dt.dist n (fun _ => true) xs = D0 at *
           clear hM2 hb9 HDI c0 c1 cs cf HN hnl hn2 hbl HBX H5
           go_wp2_with fail
           go_loopw [117] (fun iv wx => ∃ i : Nat, i ≤ n ∧ iv = .int .i64 i ∧ Below w9.heap.size w9 wx) (fun iv _ => n - (intOf iv).toNat)
           case atStart => exact ⟨0, Nat.zero_le _, rfl, Below.refl _ _⟩
           case round =>
             obtain ⟨i, hi, rfl, hbi⟩ := hrel
             have HBI : Hid (Below w9.heap.size w9 wr) := hbi
             clear hbi
             by_cases hin : i < n
             · have j1 : (i : Int) < (n : Int) := by omega
               have j2 : (0 : Int) ≤ (i : Int) := by omega
               generalize hWX : wr = wp at *
               clear hWX
               go_wp2_with fail
               go_loopw [122] (fun jv wx => ∃ j : Nat, j ≤ n ∧ jv = .int .i64 j ∧ Below w9.heap.size w9 wx) (fun jv _ => n - (intOf jv).toNat)
               case atStart => exact ⟨0, Nat.zero_le _, rfl, HBI.out⟩
               case round =>
                 obtain ⟨j, hj, rfl, hbj⟩ := hrel
                 have HBJ : Hid (Below w9.heap.size w9 wr) := hbj
                 clear hbj
                 by_cases hjn : j < n
                 · obtain ⟨⟨c0, cs⟩, ⟨f0, f1, fs⟩, ⟨d0, d1, d3, d4⟩, e0, e1, e2, e3⟩ := (HQ.out wr HBJ.out).1 i j hin hjn
                   have hEQ := HEQ.out i j hin hjn
                   have j3 : (j : Int) < (n : Int) := by omega
                   have j4 : (0 : Int) ≤ (j : Int) := by omega
                   generalize liv bs' i = bi at *
                   generalize liv bs' j = bj at *
                   go_upto_region 36 with fail
                   cases bi with
                   | false =>
                     clear hEQ
                     go_quiet (fail)
                     have HBQ : Hid (Below w9.heap.size w9 (wr.drewN nq)) := below_drewN HBJ.out nq
                     go_wp2
                     go_roundw
                     case rel => exact ⟨j + 1, by omega, by go_num, HBQ.out⟩
                     case measure => simp [intOf]; omega
                   | true =>
                     cases bj with
                     | false =>
                       clear hEQ
                       go_quiet (fail)
                       have HBQ : Hid (Below w9.heap.size w9 (wr.drewN nq)) := below_drewN HBJ.out nq
                       go_wp2
                       go_roundw
                       case rel => exact ⟨j + 1, by omega, by go_num, HBQ.out⟩
                       case measure => simp [intOf]; omega
                     | true =>
                       rw [hEQ rfl rfl] at d3
                       clear hEQ
                       go_quiet (fail)
                       have HBQ : Hid (Below w9.heap.size w9 (wr.drewN nq)) := below_drewN HBJ.out nq
                       go_wp2
                       go_roundw
                       case rel => exact ⟨j + 1, by omega, by go_num, HBQ.out⟩
                       case measure => simp [intOf]; omega
                 · obtain rfl : n = j := by omega
                   go_wp2
                   go_roundw
                   case rel => exact ⟨i + 1, by omega, by go_num, HBJ.out⟩
                   case measure => simp [intOf]; omega
             · obtain rfl : n = i := by omega
               have HZ9 : Hid (type_of% (HQ.out wr HBI.out).2) := (HQ.out wr HBI.out).2
               go_wp2
               go_roundw
               case rel => exact ⟨k + 1, bs', R', zs', by omega, by go_num, HZ9.out.1, HKZ.out.1, HKZ.out.2, HZ9.out.2⟩
               case measure => simp [intOf]; omega)
    · obtain rfl : k = ls.length := by omega
      have HZ : Hid (Below w.heap.size w wr) := (HLO.out wr HR.out.2.2.2).2.2.2
      go_wp2
      go_ret
      exact ⟨rfl, HZ.out⟩
end Go.Proofs.YtbkclhaonbjobaaGreat.Wt
