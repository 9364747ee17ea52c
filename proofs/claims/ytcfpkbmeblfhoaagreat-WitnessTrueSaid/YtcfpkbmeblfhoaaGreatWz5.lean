/- WitnessTrue, where the graph is right and small. -/
import Derived.Test.YtcfpkbmeblfhoaaGreatWz4
import Derived.Test.YtcfpkbmeblfhoaaGreatQlX
import Derived.BigQuiet
namespace Go.Proofs.YtcfpkbmeblfhoaaGreat.Wt
open Go Go.RowKit Go.Extern

attribute [local go_sem] Oper.semAt_some

/-- the living below k but one. -/
def liveL (bs : List Bool) (skip : Int) : Nat → List Int
  | 0 => []
  | k + 1 => liveL bs skip k ++ (if liv bs k = true ∧ (k : Int) ≠ skip then [(k : Int)] else [])
theorem liveL_more {bs : List Bool} {skip : Int} {k : Nat} (h1 : liv bs k = true) (h2 : (k : Int) ≠ skip) : liveL bs skip (k + 1) = liveL bs skip k ++ [(k : Int)] := by
  show _ ++ _ = _
  rw [if_pos ⟨h1, h2⟩]
theorem liveL_same {bs : List Bool} {skip : Int} {k : Nat} (h : ¬ (liv bs k = true ∧ (k : Int) ≠ skip)) : liveL bs skip (k + 1) = liveL bs skip k := by
  show _ ++ _ = _
  rw [if_neg h, List.append_nil]
theorem liveL_len (bs : List Bool) (skip : Int) : ∀ k, (liveL bs skip k).length ≤ k
  | 0 => Nat.le_refl _
  | k + 1 => by
    have := liveL_len bs skip k
    show (liveL bs skip k ++ (if liv bs k = true ∧ (k : Int) ≠ skip then [(k : Int)] else [])).length ≤ _
    rw [List.length_append]
    split
    · simp; omega
    · simp; omega
theorem liveL_mem {bs : List Bool} {skip g : Int} : ∀ {k : Nat}, g ∈ liveL bs skip k → ∃ v : Nat, g = (v : Int) ∧ v < k ∧ liv bs v = true ∧ (v : Int) ≠ skip
  | 0, h => by cases h
  | k + 1, h => by
    rcases List.mem_append.1 h with h | h
    · obtain ⟨v, e, hv, r⟩ := liveL_mem h
      exact ⟨v, e, by omega, r⟩
    · split at h
      · rename_i hc
        simp at h
        exact ⟨k, h, by omega, hc.1, hc.2⟩
      · cases h

set_option maxRecDepth 100000 in
set_option maxHeartbeats 32000000 in
theorem true_yes (n : Nat) (ao : Option Addr) (cap : Nat) (xs : List (Int × Int × Int)) (w : World) (hX : HasArcs w (.slice ao xs.length cap) xs) (hxl : xs.length ≤ maxLen) (hfew : fewB (n : Int) xs 12 = true) (hg : graphErr (n : Int) xs = (0, [])) (oo : Option Addr) (oc : Nat) (ops : List Op5) (hO : HasOp5 w (.slice oo ops.length oc) ops) (h60 : ops.length ≤ 60) (hwt : ∀ q ∈ ops, 0 ≤ q.2.2.2.1)
    (u skip mo hops se : Int) :
    Calls Tryz.prog 3 #[.agg #[.int .i64 (n : Int), .slice ao xs.length cap], .slice oo ops.length oc, .int .i64 u, .int .i64 skip, .int .u64 mo, .int .i64 hops, .int .i64 se] w fun e w' => e = .returned (.bool true) ∧ Below w.heap.size w w' := by
  have hn12 : n ≤ 12 := by have h := (of_decide_eq_true hfew).2.1; omega
  obtain ⟨W0, hW0⟩ : ∃ W0, w.alloc (.cells #[.int .i64 (n : Int), .slice ao xs.length cap] 24) = W0 := ⟨_, rfl⟩
  have HW0 : Hid (w.alloc (.cells #[.int .i64 (n : Int), .slice ao xs.length cap] 24) = W0) := hW0
  have hB0 : Below w.heap.size w W0 := by rw [← hW0]; exact bel_one _ _
  have hbx : W0.heap[w.heap.size]? = some (.cells #[.int .i64 (n : Int), .slice ao xs.length cap] 24) := by rw [← hW0]; exact heap_new _ _
  have HG : Hid (∀ wx, Below W0.heap.size W0 wx → (wx.cell? ⟨w.heap.size, 0, none⟩ = some (.int .i64 (n : Int)) ∧ wx.cell? ⟨w.heap.size, 1, none⟩ = some (.slice ao xs.length cap) ∧ w.heap.size < wx.heap.size) ∧ Below w.heap.size w wx) := fun wx hwx => by
    have hgg := (hwx.block _ (lt_of_get hbx)).trans hbx
    have hb := hB0.trans (hwx.mono hB0.size)
    exact ⟨⟨(cell_two hgg).1, (cell_two hgg).2.1, lt_of_get hgg⟩, hb⟩
  have HLA : Hid (∀ wx, Below W0.heap.size W0 wx → Calls Tryz.prog 6 #[.agg #[.int .i64 (n : Int), .slice ao xs.length cap], .slice oo ops.length oc] wx fun e w' => LaidA n wx e w') := fun wx hwx => laid_yes n ao cap xs wx (hX.keep (HG.out wx hwx).2) hxl hfew hg oo oc ops (hO.keep (HG.out wx hwx).2) h60 hwt
  have HAW : Hid (type_of% (awake12_calls W0)) := awake12_calls W0
  have HNN : Hid (n ≤ 12) := hn12
  clear hW0 hB0 hbx hX hO hfew hg hwt
  obtain ⟨i0, hi, hz0, hz1, hz2⟩ : ∃ i, Tryz.prog.info? 3 = some i ∧ i.zero = some (.int .i64 0) ∧ i.size = 1 ∧ i.bytes = 8 := by
    have h := infoJ8
    cases hi : Tryz.prog.info? 3 with
    | none => rw [hi] at h; cases h
    | some i => rw [hi] at h; simp at h; exact ⟨i, rfl, h.1, h.2.1, h.2.2⟩
  go_enter Tryz.func3, Tryz.ntmps3
  go_wp2_with fail
  rw [HW0.out]
  refine HAW.out.mono ?_
  rintro e w1 ⟨rfl, hb1⟩
  have HB1 : Hid (Below W0.heap.size W0 w1) := hb1
  clear hb1 HAW
  obtain ⟨⟨g0, g1, gl⟩, _⟩ := HG.out w1 HB1.out
  go_wp2_with fail
  refine (HLA.out w1 HB1.out).mono ?_
  rintro e w2 ⟨pb, PX, bs, R, zs, fo, fc, eo, ec, rfl, hB, ⟨hzb, hzl⟩, hb2⟩
  clear g0 g1 gl
  obtain ⟨W3, hW3⟩ : ∃ W3, w2.alloc (.cells #[.slice fo n fc, .slice eo zs.length ec] 32) = W3 := ⟨_, rfl⟩
  have HW3 : Hid (w2.alloc (.cells #[.slice fo n fc, .slice eo zs.length ec] 32) = W3) := hW3
  have b3 : Below w2.heap.size w2 W3 := by rw [← hW3]; exact bel_one _ _
  have k3 : W3.heap[w2.heap.size]? = some (.cells #[.slice fo n fc, .slice eo zs.length ec] 32) := by rw [← hW3]; exact heap_new _ _
  have H2 : Hid (∀ wx, Below w2.heap.size w2 wx → Both PX w1.heap.size wx pb n bs R zs (.slice fo n fc) (.slice eo zs.length ec) ∧ Below W0.heap.size W0 wx ∧ Below w.heap.size w wx) := fun wx hx => ⟨hB.keep hx, btr HB1.out (btr hb2 hx), (HG.out wx (btr HB1.out (btr hb2 hx))).2⟩
  have HTI : Hid (Tied n bs R zs ∧ OvInv n bs R ∧ ZB zs ∧ zs.length ≤ 200000 ∧ bs.length = n) := ⟨hB.tie, hB.ov.inv, hzb, hzl, hB.ov.bl.1⟩
  have HMB : Hid (∀ wx, Below W3.heap.size W3 wx → (wx.cell? ⟨w2.heap.size, 0, none⟩ = some (.slice fo n fc) ∧ wx.cell? ⟨w2.heap.size, 1, none⟩ = some (.slice eo zs.length ec) ∧ w2.heap.size < wx.heap.size) ∧ wx.frozen? ⟨w2.heap.size, 0, none⟩ = false ∧ wx.frozen? ⟨w2.heap.size, 1, none⟩ = false ∧ wx.heap[w2.heap.size]? = some (.cells #[.slice fo n fc, .slice eo zs.length ec] 32)) := fun wx hx => by
    have h := (hx.block _ (lt_of_get k3)).trans k3
    exact ⟨⟨(cell_two h).1, (cell_two h).2.1, lt_of_get h⟩, (cell_two h).2.2.1, (cell_two h).2.2.2, h⟩
  have H3 : Hid (Below w2.heap.size w2 W3) := b3
  have HLV : Hid (∀ wx, Below w2.heap.size w2 wx → ∀ x : Int, Calls Tryz.prog 7 #[.agg #[.slice fo n fc, .slice eo zs.length ec], .int .i64 x] wx fun e w' => e = .returned (.bool (aliveB n bs x)) ∧ Below wx.heap.size wx w') := fun wx hx x => lives_calls fo fc n bs hB.ov.bl.1 eo zs.length ec x wx (hB.keep hx).hasFl hB.ov.bl.2
  clear hB hzb hzl hb2 hW3 b3 k3
  obtain ⟨⟨c0, c1, cs⟩, _, _⟩ := HMB.out W3 (Below.refl _ _)
  go_upto_region 4 with fail
  rw [HW3.out]
  go_wp2_with fail
  refine (HLV.out W3 H3.out u).mono ?_
  rintro e w4 ⟨rfl, hb4⟩
  have H4 : Hid (Below w2.heap.size w2 w4 ∧ Below W3.heap.size W3 w4) := ⟨btr H3.out hb4, hb4⟩
  have HZ4 : Hid (Below w.heap.size w w4) := (H2.out w4 H4.out.1).2.2
  clear hb4 c0 c1 cs
  obtain ⟨ba, hba⟩ : ∃ ba, aliveB n bs u = ba := ⟨_, rfl⟩
  rw [hba]
  cases ba with
  | false =>
    clear hba
    go_wp2
    go_ret
    exact ⟨by simp, HZ4.out⟩
  | true =>
  by_cases hus : u = skip
  · subst hus
    clear hba
    go_wp2
    go_ret
    exact ⟨by simp, HZ4.out⟩
  have hus1 : (u == skip) = false := by simpa using hus
  obtain ⟨⟨c0, c1, cs⟩, _, _⟩ := HMB.out w4 H4.out.2
  obtain ⟨uu, rfl, huu, hlu⟩ := aliveB_iff.1 hba
  have HU : Hid (uu < n ∧ liv bs uu = true ∧ (uu : Int) ≠ skip ∧ aliveB n bs (uu : Int) = true) := ⟨huu, hlu, hus, hba⟩
  clear hba hlu hus huu
  go_wp2_with fail
  clear c0 c1 cs hus1
  go_loopw [52, 18] (fun jv lv wr => ∃ (k : Nat) (po : Option Addr) (pc : Nat), k ≤ n ∧ jv = .int .i64 (k : Nat) ∧ lv = .slice po (liveL bs skip k).length pc ∧ wr.ownsRow w4.heap.size 3 1 (.slice po (liveL bs skip k).length pc) (liveL bs skip k).length (Wt.iv (liveL bs skip k)) ∧ Below w4.heap.size w4 wr) (fun jv _ _ => n - (intOf jv).toNat)
  case atStart => exact ⟨0, none, 0, Nat.zero_le _, rfl, rfl, World.ownsRow_nil _ _ _ _, Below.refl _ _⟩
  case round =>
    obtain ⟨k, po, pc, hk, rfl, rfl, hO, hbw⟩ := hrel
    have HO : Hid (type_of% hO) := hO
    have HB : Hid (type_of% hbw) := hbw
    have HLL : Hid (type_of% (liveL_len bs skip k)) := liveL_len bs skip k
    obtain ⟨⟨c0, c1, cs⟩, _, _⟩ := HMB.out wr (btr H4.out.2 HB.out)
    by_cases hlt : k < n
    · obtain ⟨gf, hfo, gfl, gfc⟩ := (H2.out wr (btr H4.out.1 HB.out)).1.hasFl.at (m := k) (by have := HTI.out.2.2.2.2; omega)
      subst hfo
      have i1 : (k : Int) < (n : Int) := by omega
      have i2 : (0 : Int) ≤ (k : Int) := by omega
      clear hO hbw
      obtain ⟨bk, hbk⟩ : ∃ bk, liv bs k = bk := ⟨_, rfl⟩
      rw [hbk] at gfc
      cases bk with
      | false =>
        have HE : Hid (liveL bs skip (k + 1) = liveL bs skip k) := liveL_same (by rw [hbk]; simp)
        clear hbk
        go_wp2
        go_roundw
        case rel => exact ⟨k + 1, po, pc, by omega, by go_num, by rw [HE.out], by rw [HE.out]; exact HO.out, HB.out⟩
        case measure => simp [intOf]; omega
      | true =>
        by_cases hks : (k : Int) = skip
        · have HE : Hid (liveL bs skip (k + 1) = liveL bs skip k) := liveL_same (fun h => h.2 hks)
          have hks1 : ((k : Int) != skip) = false := by simpa using hks
          have hks2 : ((k : Int) == skip) = true := by simpa using hks
          have hks3 : Hid ((k : Int) = skip) := hks
          clear hbk hks
          go_wp2
          go_roundw
          case rel => exact ⟨k + 1, po, pc, by omega, by go_num, by rw [HE.out], by rw [HE.out]; exact HO.out, HB.out⟩
          case measure => simp [intOf]; omega
        · have HE : Hid (liveL bs skip (k + 1) = liveL bs skip k ++ [(k : Int)]) := liveL_more hbk hks
          have hks1 : ((k : Int) != skip) = true := by simpa using hks
          have hks2 : ((k : Int) == skip) = false := by simpa using hks
          have hlen : (liveL bs skip k).length ≤ 12 := by have := HLL.out; have := HNN.out; omega
          have hws := HB.out.size
          clear hbk
          obtain ⟨L, hL⟩ : ∃ L, liveL bs skip k = L := ⟨_, rfl⟩
          rw [hL] at HO HE hlen ⊢
          clear hL HLL
          go_wp2_with (at_builtin; refine wpList_append_own _ rfl _ _ 36 rfl w4.heap.size 3 i0 (.int .i64 0) 1 8 Tryz.underlying36 hi hz0 hz1 hz2 rfl (by decide) (.slice po L.length pc) L.length (Wt.iv L) rfl (iown_below HO.out ((Below.refl _ wr).alloc (Nat.le_refl _) _)) ⟨wr.heap.size, 0, none⟩ 1 1 [.int .i64 (k : Int)] rfl rfl (tw_cell wr (.int .i64 (k : Int))) (fun u hu => by simp at hu; subst hu; rfl) (by unfold maxLen; omega) (by omega) (by simp; omega) ?_; intro v5 w5 hown5 hgr5 _; have H5 : Hid (w5.ownsRow w4.heap.size 3 1 v5 (L.length + 1) (Wt.iv (L ++ [(k : Int)])) ∧ Below w4.heap.size w4 w5) := (by refine ⟨?_, ibelow_grown (HB.out.alloc hws _) (iown_below HO.out ((Below.refl _ wr).alloc (Nat.le_refl _) _)) hgr5 (by simp; omega)⟩; rw [iv_append]; exact hown5); clear hown5 hgr5)
          obtain ⟨qo, qc, hv5⟩ := iown_slice H5.out.1
          subst hv5
          have HEL : Hid ((liveL bs skip (k + 1)).length = L.length + 1) := by show _ = _; rw [HE.out, List.length_append]; rfl
          go_roundw
          case rel => exact ⟨k + 1, qo, qc, by omega, by go_num, by rw [HEL.out], by rw [HEL.out, HE.out]; exact H5.out.1, H5.out.2⟩
          case measure => simp [intOf]; omega
    · obtain rfl : k = n := by omega
      obtain ⟨L, hL⟩ : ∃ L, liveL bs skip k = L := ⟨_, rfl⟩
      have HLM : Hid (L.length ≤ 12 ∧ ∀ g ∈ L, ∃ v : Nat, g = (v : Int) ∧ v < k ∧ liv bs v = true ∧ (v : Int) ≠ skip) := by
        rw [← hL]
        exact ⟨by have := HLL.out; have := HNN.out; omega, fun g hg => liveL_mem hg⟩
      rw [hL] at HO ⊢
      have HXL : Hid (w2.heap.size < w4.heap.size) := (HMB.out w4 H4.out.2).1.2.2
      have H5 : Hid (Below w2.heap.size w2 wr ∧ Below W3.heap.size W3 wr) := ⟨btr H4.out.1 HB.out, btr H4.out.2 HB.out⟩
      have HGA : Hid (findErr (aliveB k bs) (uu : Int) L = (0, [])) := findErr_iff.2 ⟨HU.out.2.2.2, fun g hg => by
        obtain ⟨v, rfl, hv, hl, _⟩ := HLM.out.2 g hg
        exact aliveB_iff.2 ⟨v, rfl, hv, hl⟩⟩
      clear hO hbw hL HLL HB hi hz0 hz1 hz2
      obtain ⟨⟨c0, c1, cs⟩, z0, z1, _⟩ := HMB.out wr H5.out.2
      have HLS : Hid (type_of% (HLV.out wr H5.out.1 skip)) := HLV.out wr H5.out.1 skip
      obtain ⟨sb, hsb⟩ : ∃ sb, aliveB k bs skip = sb := ⟨_, rfl⟩
      have HSB : Hid (aliveB k bs skip = sb) := hsb
      rw [hsb] at HLS
      clear hsb
      go_wp2_with fail
      refine HLS.out.mono ?_
      rintro e w6 ⟨rfl, hb6⟩
      have H6 : Hid (Below w2.heap.size w2 w6 ∧ Below W3.heap.size W3 w6 ∧ w6.ownsRow w4.heap.size 3 1 (.slice po L.length pc) L.length (Wt.iv L)) := ⟨btr H5.out.1 hb6, btr H5.out.2 hb6, iown_below HO.out hb6⟩
      clear hb6 HLS HO c0 c1 cs z0 z1
      obtain ⟨⟨c0, c1, cs⟩, z0, z1, _⟩ := HMB.out w6 H6.out.2.1
      cases sb
      case' false =>
        have HD : Hid (bsX k bs skip = bs ∧ zsX k bs zs skip = zs) := ⟨by unfold bsX; rw [if_neg (by rw [HSB.out]; simp)], by unfold zsX; rw [if_neg (by rw [HSB.out]; simp)]⟩
        have HF7 : Hid (∀ wx, Below w6.heap.size w6 wx → wx.cell? ⟨w2.heap.size, 0, none⟩ = some (.slice fo k fc) ∧ wx.cell? ⟨w2.heap.size, 1, none⟩ = some (.slice eo zs.length ec) ∧ w2.heap.size < wx.heap.size) := fun wx hx => (HMB.out wx (btr H6.out.2.1 hx)).1
        have H7 : Hid (Below w2.heap.size w2 w6 ∧ w6.ownsRow w4.heap.size 3 1 (.slice po L.length pc) L.length (Wt.iv L)) := ⟨H6.out.1, H6.out.2.2⟩
        have HDI : Hid (Calls Tryz.prog 9 #[.agg #[.slice fo k fc, .slice eo zs.length ec]] w6 fun e w' => ∃ db rs, e = .returned (.slice (some ⟨db, 0, none⟩) k k) ∧ Dt.MatP w6.heap.size w' db k k rs (Dt.dist k (liv (bsX k bs skip)) ((zsX k bs zs skip).map Dt.as3)) ∧ Below w6.heap.size w6 w') := by
          have hB := (H2.out w6 H6.out.1).1
          have hf := hB.hasFl
          have ha := hB.hasA4
          have h1 := fineX (skip := skip) HTI.out.1 HTI.out.2.2.1
          have h2 := endsX (skip := skip) HTI.out.1
          rw [HD.out.1, HD.out.2] at h1
          rw [HD.out.2] at h2
          rw [HD.out.1, HD.out.2]
          exact Dt.dist_calls k HNN.out fo fc bs HTI.out.2.2.2.2 eo zs.length ec zs w6 hf ha rfl h2 h1 (by have := HTI.out.2.2.2.1; omega)
        clear HD H6
        go_upto_region 15 with fail
        clear c0 c1 cs z0 z1
        generalize Value.slice fo k fc = F9 at *
        generalize Value.slice eo zs.length ec = E9 at *
        generalize w6 = W7 at *
      case' true =>
        obtain ⟨s, hss, hsn, _⟩ := aliveB_iff.1 HSB.out
        have HD : Hid (bsX k bs skip = bs.set s false ∧ zsX k bs zs skip = remZ zs skip) := ⟨by unfold bsX; rw [if_pos HSB.out, hss, Int.toNat_natCast], by unfold zsX; rw [if_pos HSB.out]⟩
        have HRR : Hid (type_of% (rRemove11_calls fo k fc bs HTI.out.2.2.2.2 (by have := HNN.out; omega) eo ec zs s hsn w6 (H2.out w6 H6.out.1).1.hasFl (H2.out w6 H6.out.1).1.hasA4 (by have := HTI.out.2.2.2.1; omega))) := rRemove11_calls fo k fc bs HTI.out.2.2.2.2 (by have := HNN.out; omega) eo ec zs s hsn w6 (H2.out w6 H6.out.1).1.hasFl (H2.out w6 H6.out.1).1.hasA4 (by have := HTI.out.2.2.2.1; omega)
        rw [← hss] at HRR
        clear hss hsn
        go_wp2_with fail
        refine HRR.out.mono ?_
        rintro e y ⟨hby, fb, fd, so, sc, rfl, hof, hoa⟩
        obtain ⟨W7, hW7⟩ : ∃ W7, (y.setCell ⟨w2.heap.size, 0, none⟩ (.slice (some ⟨fb, 0, none⟩) k fd)).setCell ⟨w2.heap.size, 1, none⟩ (.slice so (remZ zs skip).length sc) = W7 := ⟨_, rfl⟩
        have HW7 : Hid ((y.setCell ⟨w2.heap.size, 0, none⟩ (.slice (some ⟨fb, 0, none⟩) k fd)).setCell ⟨w2.heap.size, 1, none⟩ (.slice so (remZ zs skip).length sc) = W7) := hW7
        have hy3 := btr H6.out.2.1 hby
        have hs9 := two_set (v0 := .slice (some ⟨fb, 0, none⟩) k fd) (v1 := .slice so (remZ zs skip).length sc) (HMB.out y hy3).2.2.2
        rw [hW7] at hs9
        have hk9 : ∀ g, g ≠ w2.heap.size → W7.heap[g]? = y.heap[g]? := fun g hg => by rw [← hW7]; exact (hso _ hg).trans (hso _ hg)
        have hf7 : HasFl W7 (.slice (some ⟨fb, 0, none⟩) k fd) (bs.set s false) := fl_of_row (by rw [List.length_set]; exact HTI.out.2.2.2.2) (rowX_keep hof fun g hg => hk9 g (by have := (hof.lt g hg).1; omega))
        have ha7 : HasA4 W7 (.slice so (remZ zs skip).length sc) (remZ zs skip) := a4_of_row (rowX_keep hoa fun g hg => hk9 g (by have := (hoa.lt g hg).1; omega))
        have ho6 := iown_below H6.out.2.2 hby
        have ho7 : W7.ownsRow w4.heap.size 3 1 (.slice po L.length pc) L.length (Wt.iv L) := iown_keep ho6 fun g hg => hk9 g (by have := (ho6.lt g hg).1; have := HXL.out; omega)
        have hb7 : Below w2.heap.size w2 W7 := by rw [← hW7]; exact (btr H6.out.1 hby).trans (two_below (Nat.le_refl _))
        have HF7 : Hid (∀ wx, Below W7.heap.size W7 wx → wx.cell? ⟨w2.heap.size, 0, none⟩ = some (.slice (some ⟨fb, 0, none⟩) k fd) ∧ wx.cell? ⟨w2.heap.size, 1, none⟩ = some (.slice so (remZ zs skip).length sc) ∧ w2.heap.size < wx.heap.size) := fun wx hx => by
          have h := (hx.block _ (lt_of_get hs9)).trans hs9
          exact ⟨(cell_two h).1, (cell_two h).2.1, lt_of_get h⟩
        have H7 : Hid (Below w2.heap.size w2 W7 ∧ W7.ownsRow w4.heap.size 3 1 (.slice po L.length pc) L.length (Wt.iv L)) := ⟨hb7, ho7⟩
        have HDI : Hid (Calls Tryz.prog 9 #[.agg #[.slice (some ⟨fb, 0, none⟩) k fd, .slice so (remZ zs skip).length sc]] W7 fun e w' => ∃ db rs, e = .returned (.slice (some ⟨db, 0, none⟩) k k) ∧ Dt.MatP W7.heap.size w' db k k rs (Dt.dist k (liv (bsX k bs skip)) ((zsX k bs zs skip).map Dt.as3)) ∧ Below W7.heap.size W7 w') := by
          have h1 := fineX (skip := skip) HTI.out.1 HTI.out.2.2.1
          have h2 := endsX (skip := skip) HTI.out.1
          rw [HD.out.1, HD.out.2] at h1
          rw [HD.out.2] at h2
          rw [HD.out.1, HD.out.2]
          exact Dt.dist_calls k HNN.out (some ⟨fb, 0, none⟩) fd (bs.set s false) (by rw [List.length_set]; exact HTI.out.2.2.2.2) so (remZ zs skip).length sc (remZ zs skip) W7 hf7 ha7 rfl h2 h1 (by have := HTI.out.2.2.2.1; have := remZ_len zs skip; omega)
        clear hby hof hoa hW7 hs9 hk9 hf7 ha7 ho6 ho7 hb7 HRR HD c0 c1 cs z0 z1
        obtain ⟨⟨c0, c1, cs⟩, z0, z1, _⟩ := HMB.out y hy3
        clear hy3
        go_upto_region 15 with fail
        rw [HW7.out]
        clear c0 c1 cs z0 z1 HW7 H6
        generalize Value.slice (some ⟨fb, 0, none⟩) k fd = F9 at *
        generalize Value.slice so (remZ zs skip).length sc = E9 at *
      all_goals
        clear HMB HLV
        obtain ⟨c0, c1, cs⟩ := HF7.out W7 (Below.refl _ _)
        go_wp2_with fail
        refine HDI.out.mono ?_
        rintro e w8 ⟨db, rs, rfl, hM, hb8⟩
        obtain ⟨D9, hD9⟩ : ∃ D9, Dt.dist k (liv (bsX k bs skip)) ((zsX k bs zs skip).map Dt.as3) = D9 := ⟨_, rfl⟩
        rw [hD9] at hM
        have HSE : Hid (∀ v, v < k → ∀ hops se mo : Int, D9 uu v ≤ goalF k (rowsZ (rowW k bs R) skip k) uu hops se mo (v : Int) ∧ goalF k (rowsZ (rowW k bs R) skip k) uu hops se mo (v : Int) ≤ 18446744073709551615 ∧ ((k : Int) < hops → (k : Int) < se → 9223372036854775808 ≤ mo → goalF k (rowsZ (rowW k bs R) skip k) uu hops se mo (v : Int) = D9 uu v)) := fun v hv hops se mo => by
          rw [← hD9]
          exact seen_true HTI.out.1 HTI.out.2.1 HTI.out.2.2.1 HNN.out HU.out.1 HU.out.2.1 HU.out.2.2.1 hv hops se mo
        have H8 : Hid (Dt.MatP W7.heap.size w8 db k k rs D9 ∧ Below w2.heap.size w2 w8 ∧ HasInts w8 (.slice po L.length pc) L) := ⟨hM, btr H7.out.1 hb8, ints_of_iown (iown_below H7.out.2 hb8)⟩
        clear hM hb8 hD9 HDI c0 c1 cs
        have HFI : Hid (type_of% (both_find (H2.out w8 H8.out.2.1).1 HTI.out.2.2.1 (by have := HNN.out; omega) (uu : Int) skip po pc L H8.out.2.2 (by have := HLM.out.1; omega) mo hops se)) := both_find (H2.out w8 H8.out.2.1).1 HTI.out.2.2.1 (by have := HNN.out; omega) (uu : Int) skip po pc L H8.out.2.2 (by have := HLM.out.1; omega) mo hops se
        go_wp2_with fail
        refine HFI.out.mono ?_
        rintro e w9 ⟨hb9, ⟨_, d1, rfl, _, hu9⟩ | ⟨her, _⟩⟩
        rotate_left
        · exact absurd HGA.out her
        rw [Int.toNat_natCast, findL_is] at hu9
        have H9 : Hid (U64s w9 d1 (L.map (goalF k (rowsZ (rowW k bs R) skip k) uu hops se mo)) ∧ Below w8.heap.size w8 w9) := ⟨hu9, hb9⟩
        clear hu9 hb9 HFI
        have HFJ : Hid (type_of% (both_find (H2.out w9 (btr H8.out.2.1 H9.out.2)).1 HTI.out.2.2.1 (by have := HNN.out; omega) (uu : Int) skip po pc L (H8.out.2.2.keep H9.out.2) (by have := HLM.out.1; omega) 18446744073709551615 1048576 1048576)) := both_find (H2.out w9 (btr H8.out.2.1 H9.out.2)).1 HTI.out.2.2.1 (by have := HNN.out; omega) (uu : Int) skip po pc L (H8.out.2.2.keep H9.out.2) (by have := HLM.out.1; omega) 18446744073709551615 1048576 1048576
        go_wp2_with fail
        refine HFJ.out.mono ?_
        rintro e w10 ⟨hb10, ⟨_, d2, rfl, _, hu10⟩ | ⟨her, _⟩⟩
        rotate_left
        · exact absurd HGA.out her
        rw [Int.toNat_natCast, findL_is] at hu10
        have HA : Hid (U64s w10 d1 (L.map (goalF k (rowsZ (rowW k bs R) skip k) uu hops se mo)) ∧ U64s w10 d2 (L.map (goalF k (rowsZ (rowW k bs R) skip k) uu 1048576 1048576 18446744073709551615)) ∧ Dt.MatP W7.heap.size w10 db k k rs D9 ∧ HasInts w10 (.slice po L.length pc) L ∧ Below w2.heap.size w2 w10) := ⟨(hb10.block _ (lt_of_get H9.out.1)).trans H9.out.1, hu10, H8.out.1.keep (btr H9.out.2 hb10), (H8.out.2.2.keep H9.out.2).keep hb10, btr H8.out.2.1 (btr H9.out.2 hb10)⟩
        clear hu10 hb10 HFJ
        go_wp2_with fail
        go_loopw [119] (fun iv wr => ∃ i : Nat, i ≤ L.length ∧ iv = .int .i64 i ∧ Below w10.heap.size w10 wr) (fun iv _ => L.length - (intOf iv).toNat)
        case atStart => exact ⟨0, Nat.zero_le _, rfl, Below.refl _ _⟩
        case round =>
          obtain ⟨i, hi, rfl, hbw⟩ := hrel
          have HBW : Hid (Below w10.heap.size w10 wr) := hbw
          by_cases hlt : i < L.length
          · obtain ⟨g, hg⟩ : ∃ g, L[i]? = some g := ⟨L[i], List.getElem?_eq_getElem hlt⟩
            obtain ⟨v, hgv, hvk, _, _⟩ := HLM.out.2 g (List.mem_of_getElem? hg)
            subst hgv
            obtain ⟨_, _, he0, hc0⟩ := HA.out.2.2.2.1.keep hbw
            obtain ⟨gb, goff, hgo, hgl1, q0⟩ := hc0 i _ hg
            cases he0
            subst hgo
            have hm1 : (L.map (goalF k (rowsZ (rowW k bs R) skip k) uu hops se mo))[i]? = some (goalF k (rowsZ (rowW k bs R) skip k) uu hops se mo (v : Int)) := by rw [List.getElem?_map, hg]; rfl
            have hm2 : (L.map (goalF k (rowsZ (rowW k bs R) skip k) uu 1048576 1048576 18446744073709551615))[i]? = some (goalF k (rowsZ (rowW k bs R) skip k) uu 1048576 1048576 18446744073709551615 (v : Int)) := by rw [List.getElem?_map, hg]; rfl
            obtain ⟨s1, s2, _⟩ := HSE.out v hvk hops se mo
            have s4 := (HSE.out v hvk 1048576 1048576 18446744073709551615).2.2 (by have := HNN.out; omega) (by have := HNN.out; omega) (by omega)
            rw [s4] at hm2
            have a0 := (hbw.cell (p := ⟨d1, i, none⟩) (HA.out.1.at hm1).2.1).trans (HA.out.1.at hm1).1
            have al := Nat.lt_of_lt_of_le (HA.out.1.at hm1).2.1 hbw.size
            have b0 := (hbw.cell (p := ⟨d2, i, none⟩) (HA.out.2.1.at hm2).2.1).trans (HA.out.2.1.at hm2).1
            have bl := Nat.lt_of_lt_of_le (HA.out.2.1.at hm2).2.1 hbw.size
            have hM := HA.out.2.2.1.keep hbw
            obtain ⟨t0, _, t0s⟩ := hM.at (i := uu) HU.out.1 (Nat.le_refl _)
            obtain ⟨t1, _, t1s⟩ := hM.cell (i := uu) (j := v) HU.out.1 hvk
            obtain ⟨A, hA9⟩ : ∃ A, goalF k (rowsZ (rowW k bs R) skip k) uu hops se mo (v : Int) = A := ⟨_, rfl⟩
            rw [hA9] at a0 s1 s2
            generalize D9 uu v = D at *
            generalize rs uu = ru at *
            have i1 : (i : Int) < (L.length : Int) := by omega
            have i2 : (0 : Int) ≤ (i : Int) := by omega
            have i3 : (i : Int) ≤ 12 := by have := HLM.out.1; omega
            have u1 : (uu : Int) < (k : Int) := by have := HU.out.1; omega
            have u2 : (0 : Int) ≤ (uu : Int) := by omega
            have v1 : (v : Int) < (k : Int) := by omega
            have v2 : (0 : Int) ≤ (v : Int) := by omega
            have r1 : decide (A < D) = false := decide_eq_false (by omega)
            clear hg hc0 hM hm1 hm2 s4 hA9 hbw
            by_cases hD : D = 18446744073709551615
            · obtain rfl : A = D := by omega
              subst hD
              clear s1 s2
              go_wp2_with fail
              go_quiet (fail)
              have HB8 : Hid (Below w10.heap.size w10 (wr.drewN nq)) := below_drewN HBW.out nq
              go_wp2
              go_roundw
              case rel => exact ⟨i + 1, by omega, by go_num, HB8.out⟩
              case measure => simp [intOf]; omega
            · have r3 : (D == 18446744073709551615) = false := by simpa using hD
              clear s1 s2
              go_wp2_with fail
              go_quiet (fail)
              have HB8 : Hid (Below w10.heap.size w10 (wr.drewN nq)) := below_drewN HBW.out nq
              go_wp2
              go_roundw
              case rel => exact ⟨i + 1, by omega, by go_num, HB8.out⟩
              case measure => simp [intOf]; omega
          · have HZ : Hid (Below w.heap.size w wr) := (H2.out wr (btr HA.out.2.2.2.2 HBW.out)).2.2
            go_wp2
            go_ret
            exact ⟨rfl, HZ.out⟩
end Go.Proofs.YtcfpkbmeblfhoaaGreat.Wt
