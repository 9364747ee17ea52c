/- sink: the free place goes down till the thing may stand there. -/
import Derived.Test.YtepkogijignmlaaHpLeast
namespace Go.Proofs.Ytepkogijignmlaa.Hp
open Go.RowKit

attribute [local go_sem] Oper.semAt_some

set_option maxRecDepth 100000 in
set_option maxHeartbeats 2000000 in
theorem sink_calls {hb wb n g cap m free : Nat} {ps : List Th} {wh : List Int} {w : World} (xk xd : Int) (f : Int → Option Int) (h : Mem w hb wb n (.slice (some ⟨g, 0, none⟩) m cap) ps wh) (hm : ps.length = m) (hm6 : m ≤ 65536) (hh : Hole ps wh free xd f) (hpar : 0 < free → ∀ p, ps[(free - 1) / 4]? = some p → ¬ ltT (xk, xd) p) :
    Calls Try.prog 79 #[.pointer (some ⟨hb, 0, none⟩), .int .i64 free, .agg #[.int .u64 xk, .int .u32 xd]] w fun e w' => ∃ (free' : Nat) (ps' : List Th) (wh' : List Int), e = .returned (.int .i64 free') ∧ Hole ps' wh' free' xd f ∧ Mem w' hb wb n (.slice (some ⟨g, 0, none⟩) m cap) ps' wh' ∧ ps'.length = m ∧ Fr hb wb (.slice (some ⟨g, 0, none⟩) m cap) (.slice (some ⟨g, 0, none⟩) m cap) w w' ∧ (0 < free' → ∀ p, ps'[(free' - 1) / 4]? = some p → ¬ ltT (xk, xd) p) ∧ (∀ (i : Nat) (z : Th), 0 < i → (i - 1) / 4 = free' → ps'[i]? = some z → ¬ ltT z (xk, xd)) := by
  obtain ⟨W0, hW0⟩ : ∃ W0, w.alloc (.cells #[.int .u64 xk, .int .u32 xd] 145) = W0 := ⟨_, rfl⟩
  have hB0 : Below w.heap.size w W0 := by rw [← hW0]; exact (Below.refl _ w).alloc (Nat.le_refl _) _
  have k0 : W0.heap[w.heap.size]? = some (.cells #[.int .u64 xk, .int .u32 xd] 145) := by rw [← hW0]; exact heap_new _ _
  obtain ⟨bx, hbx⟩ : ∃ bx, w.heap.size = bx := ⟨_, rfl⟩
  have HFR : Hid (Fr hb wb (.slice (some ⟨g, 0, none⟩) m cap) (.slice (some ⟨g, 0, none⟩) m cap) w W0) := Fr.of_below hB0
  have HI0 : Hid (Free W0 bx hb wb n g cap m xk xd f free ps wh W0 ∧ (0 < free → ∀ p, ps[(free - 1) / 4]? = some p → ¬ ltT (xk, xd) p)) := ⟨⟨hh, h.below hB0, hm, Fr.refl _ _ _ _, by rw [← hbx]; exact k0⟩, hpar⟩
  have HBX : Hid ((hb < bx ∧ wb < bx ∧ g < bx) ∧ bx < W0.heap.size) := by
    refine ⟨?_, by rw [← hbx]; exact lt_of_get k0⟩
    rw [← hbx]
    refine ⟨lt_of_get h.box, lt_of_get h.whr, ?_⟩
    obtain ⟨y, hy⟩ : ∃ y, ps[free]? = some y := ⟨ps[free]'hh.flt, List.getElem?_eq_getElem _⟩
    obtain ⟨g', cap', e, _, _, hgl, _⟩ := h.thing hy
    cases e
    exact hgl
  have HW0 : Hid (w.alloc (.cells #[.int .u64 xk, .int .u32 xd] 145) = W0) := hW0
  have HBE : Hid (w.heap.size = bx) := hbx
  clear hW0 hB0 k0 h hh hm hbx hpar
  go_enter Try.func79, Try.ntmps79
  go_wp2_with fail
  rw [HW0.out, HBE.out]
  go_loopw [1] (fun fv wr => ∃ (fr : Nat) (ps' : List Th) (wh' : List Int), fv = .int .i64 fr ∧ Free W0 bx hb wb n g cap m xk xd f fr ps' wh' wr ∧ (0 < fr → ∀ p, ps'[(fr - 1) / 4]? = some p → ¬ ltT (xk, xd) p)) (fun fv _ => m - (intOf fv).toNat)
  case atStart => exact ⟨free, ps, wh, rfl, HI0.out⟩
  case round =>
    obtain ⟨fr, ps', wh', rfl, hI, hp⟩ := hrel
    have HI : Hid (Free W0 bx hb wb n g cap m xk xd f fr ps' wh' wr) := hI
    have HP : Hid (0 < fr → ∀ p, ps'[(fr - 1) / 4]? = some p → ¬ ltT (xk, xd) p) := hp
    have hfl := hI.hole.flt
    have hl := hI.len
    have HLC : Hid (Calls Try.prog 82 #[.pointer (some ⟨hb, 0, none⟩), .int .i64 fr] wr fun e w' => ∃ lc : Nat, e = .returned (.int .i64 lc) ∧ LeastOf ps' fr lc ∧ Below wr.heap.size wr w') := least_calls (by rw [hl]; exact hI.mem) (by omega) hfl
    clear hI hp
    go_wp2_with fail
    refine HLC.out.mono ?_
    rintro e w1 ⟨lc, rfl, hlo, hb1⟩
    have HI1 : Hid (Free W0 bx hb wb n g cap m xk xd f fr ps' wh' w1) := HI.out.below hb1
    clear hb1
    rcases hlo with ⟨rfl, hnone⟩ | ⟨hlo1, hlo2, hlo3, hlo4⟩
    · go_wp2_with fail
      go_quiet (fail)
      go_wp2
      go_ret
      have hI2 : Free W0 bx hb wb n g cap m xk xd f lc ps' wh' (w1.drewN nq) := HI1.out.below (below_draws (Below.refl _ _) _)
      exact ⟨lc, ps', wh', rfl, hI2.hole, hI2.mem, hI2.len, HFR.out.trans hI2.fr, HP.out, fun i z h1 h2 hz => by have := (List.getElem?_eq_some_iff.1 hz).1; omega⟩
    · obtain ⟨y, hy⟩ : ∃ y, ps'[lc]? = some y := ⟨ps'[lc]'hlo3, List.getElem?_eq_getElem _⟩
      obtain ⟨x, hx⟩ : ∃ x, ps'[fr]? = some x := ⟨ps'[fr]'hfl, List.getElem?_eq_getElem _⟩
      obtain ⟨p0, p1, p2, p3⟩ := HI1.out.hole.idr lc y (by omega) hy
      obtain ⟨yk, yi⟩ := y
      obtain ⟨d, hd⟩ : ∃ d : Nat, yi = d := ⟨yi.toNat, by simp only at p0; omega⟩
      subst hd
      obtain ⟨c0, c1, _, _⟩ := HI1.out.mem.cells
      obtain ⟨g', cap', e, hc1, hc2, hgl, hgh, hgw, q0, q1, _, _⟩ := HI1.out.mem.thing hy
      cases e
      obtain ⟨x0, x1⟩ := pair_cells HI1.out.box
      have HCH : Hid (∀ (i : Nat) (z : Th), 0 < i → (i - 1) / 4 = fr → ps'[i]? = some z → ¬ ltT z (yk, (d : Int))) := fun i z h1 h2 hz => hlo4 i z _ (by omega) (by omega) hz hy
      have HMV : Hid (ltT (yk, (d : Int)) (xk, xd) → ∀ w2, Below w1.heap.size w1 w2 → Calls Try.prog 81 #[.pointer (some ⟨hb, 0, none⟩), .int .i64 fr, .int .i64 lc] w2 fun e w' => e = .returned (.tuple #[]) ∧ Free W0 bx hb wb n g cap ps'.length xk xd f lc (ps'.set fr (yk, (d : Int))) (wh'.set d ((fr : Int) + 1)) w' ∧ (0 < lc → ∀ p, (ps'.set fr (yk, (d : Int)))[(lc - 1) / 4]? = some p → ¬ ltT (xk, xd) p)) := fun hlt w2 hb2 => by
        have hI2 := HI1.out.below hb2
        refine (move_calls hI2.mem rfl hm6 fr lc d x yk hx hy (by have := hI2.mem.len; simp only at p1; omega)).mono ?_
        rintro e w' ⟨he, hM, hF⟩
        have hr := hI2.hole.sink (c := lc) (y := (yk, (d : Int))) (by omega) (by omega) hy HCH.out
        have hbl := HBX.out
        refine ⟨he, ⟨by simpa using hr, hM, by rw [List.length_set], hI2.fr.trans hF, ?_⟩, fun _ p hp => ?_⟩
        · rw [hF.block bx (lt_of_get hI2.box) (by omega) (by omega) (fun e => by have := Option.some.inj e; simp only at this; omega)]
          exact hI2.box
        · rw [show (lc - 1) / 4 = fr by omega, set_same _ hfl] at hp
          cases hp
          exact ltT_asymm hlt
      have HK : Hid (∀ w2, Below w1.heap.size w1 w2 → w2.cell? ⟨hb, 0, none⟩ = some (.slice (some ⟨g, 0, none⟩) ps'.length cap) ∧ w2.cell? ⟨bx, 0, none⟩ = some (.int .u64 xk) ∧ w2.cell? ⟨bx, 1, none⟩ = some (.int .u32 xd) ∧ w2.cell? ⟨g, lc * 2, none⟩ = some (.int .u64 yk) ∧ w2.cell? ⟨g, lc * 2 + 1, none⟩ = some (.int .u32 (d : Int))) := fun w2 hb2 =>
        ⟨(hb2.cell (p := ⟨hb, 0, none⟩) (lt_of_get HI1.out.mem.box)).trans c0, (hb2.cell (p := ⟨bx, 0, none⟩) (lt_of_get HI1.out.box)).trans x0, (hb2.cell (p := ⟨bx, 1, none⟩) (lt_of_get HI1.out.box)).trans x1, (hb2.cell (p := ⟨g, lc * 2, none⟩) hgl).trans q0, (hb2.cell (p := ⟨g, lc * 2 + 1, none⟩) hgl).trans q1⟩
      have b1 : (0 : Int) ≤ (lc : Int) := by omega
      have b2 : (lc : Int) < (ps'.length : Int) := by omega
      have b3 : ((lc : Int) == (fr : Int)) = false := by
        have : (lc : Int) ≠ (fr : Int) := by omega
        simpa using this
      have hbxl := HBX.out
      have HLT : Hid (ltT (yk, (d : Int)) (xk, xd) ∨ ¬ ltT (yk, (d : Int)) (xk, xd)) := Classical.em _
      have HABL : Hid (fr < lc ∧ lc < ps'.length) := by exact ⟨by omega, hlo3⟩
      unfold maxLen at hc2
      clear hy p0 p1 p2 p3 hx hl hlo1 hlo2 hlo4 hc2
      rcases HLT.out with hlt | hlt
      · have HLS : Hid (∀ wx, Calls Try.prog 80 #[.agg #[.int .u64 yk, .int .u32 (d : Int)], .agg #[.int .u64 xk, .int .u32 xd]] wx fun e w' => e = .returned (.bool true) ∧ Below wx.heap.size wx w') := fun wx => by rw [← ltB_true hlt]; exact less_calls _ _ _ _ wx
        have HLL : Hid (ltT (yk, (d : Int)) (xk, xd)) := hlt
        clear hlt
        go_wp2_with fail
        go_region_held3 (fun w' => w'.cell? ⟨hb, 0, none⟩ = some (.slice (some ⟨g, 0, none⟩) ps'.length cap) ∧ w'.cell? ⟨bx, 0, none⟩ = some (.int .u64 xk) ∧ w'.cell? ⟨bx, 1, none⟩ = some (.int .u32 xd) ∧ w'.cell? ⟨g, lc * 2, none⟩ = some (.int .u64 yk) ∧ w'.cell? ⟨g, lc * 2 + 1, none⟩ = some (.int .u32 (d : Int))) (go_keep) (first
          | (go_at_call 80; refine (HLS.out _).mono ?_; rintro e w2 ⟨rfl, hb2⟩; have HB2 : Hid (Below w1.heap.size w1 w2) := (Below.refl _ w1).drew.trans hb2; obtain ⟨t0, t1, t2, t3, t4⟩ := HK.out w2 HB2.out; clear hb2))
        clear c0 c1 x0 x1 q0 q1 t0 t1 t2 t3 t4
        go_wp2_with fail
        refine (HMV.out HLL.out _ HB2.out).mono ?_
        rintro e w3 ⟨rfl, hI3⟩
        have HI3 : Hid _ := hI3
        clear hI3
        go_wp2
        go_roundw
        case rel => exact ⟨lc, _, _, rfl, HI3.out⟩
        case measure => have := HABL.out; simp [intOf]; omega
      · have HLS : Hid (∀ wx, Calls Try.prog 80 #[.agg #[.int .u64 yk, .int .u32 (d : Int)], .agg #[.int .u64 xk, .int .u32 xd]] wx fun e w' => e = .returned (.bool false) ∧ Below wx.heap.size wx w') := fun wx => by rw [← ltB_false hlt]; exact less_calls _ _ _ _ wx
        have HLL : Hid (¬ ltT (yk, (d : Int)) (xk, xd)) := hlt
        clear hlt
        go_wp2_with fail
        go_region_held3 (fun w' => w'.cell? ⟨hb, 0, none⟩ = some (.slice (some ⟨g, 0, none⟩) ps'.length cap) ∧ w'.cell? ⟨bx, 0, none⟩ = some (.int .u64 xk) ∧ w'.cell? ⟨bx, 1, none⟩ = some (.int .u32 xd) ∧ w'.cell? ⟨g, lc * 2, none⟩ = some (.int .u64 yk) ∧ w'.cell? ⟨g, lc * 2 + 1, none⟩ = some (.int .u32 (d : Int))) (go_keep) (first
          | (go_at_call 80; refine (HLS.out _).mono ?_; rintro e w2 ⟨rfl, hb2⟩; have HB2 : Hid (Below w1.heap.size w1 w2) := (Below.refl _ w1).drew.trans hb2; obtain ⟨t0, t1, t2, t3, t4⟩ := HK.out w2 HB2.out; clear hb2))
        clear c0 c1 x0 x1 q0 q1 t0 t1 t2 t3 t4
        go_wp2
        go_ret
        have hI2 := HI1.out.below HB2.out
        exact ⟨fr, ps', wh', rfl, hI2.hole, hI2.mem, hI2.len, HFR.out.trans hI2.fr, HP.out, fun i z h1 h2 hz => ltT_not_trans (HCH.out i z h1 h2 hz) HLL.out⟩
end Go.Proofs.Ytepkogijignmlaa.Hp
