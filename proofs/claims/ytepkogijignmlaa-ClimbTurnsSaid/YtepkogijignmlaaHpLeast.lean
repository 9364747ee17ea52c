/- leastChild: the place of the least thing right below a place; the place itself, if there is none. -/
import Derived.Test.YtepkogijignmlaaHpRise
namespace Go.Proofs.Ytepkogijignmlaa.Hp
open Go.RowKit

attribute [local go_sem] Oper.semAt_some

theorem below_draws {B : Nat} {a w : World} (h : Below B a w) (q : Nat) : Below B a (w.drewN q) := ⟨h.os, h.tape, h.output, h.size, h.block⟩
/-- what leastChild answers. -/
def LeastOf (ps : List Th) (pl lc : Nat) : Prop := (lc = pl ∧ ps.length ≤ 4 * pl + 1) ∨ (4 * pl < lc ∧ lc ≤ 4 * pl + 4 ∧ lc < ps.length ∧ ∀ j y z, 4 * pl < j → j ≤ 4 * pl + 4 → ps[j]? = some y → ps[lc]? = some z → ¬ ltT y z)
/-- so far. -/
def SoFar (ps : List Th) (pl k lc : Nat) : Prop := (k = 0 ∧ lc = pl) ∨ (0 < k ∧ 4 * pl < lc ∧ lc ≤ 4 * pl + k ∧ ∀ j y z, 4 * pl < j → j ≤ 4 * pl + k → ps[j]? = some y → ps[lc]? = some z → ¬ ltT y z)

set_option maxRecDepth 100000 in
set_option maxHeartbeats 2000000 in
theorem least_some {hb wb n g cap pl : Nat} {ps : List Th} {wh : List Int} {w : World} (h : Mem w hb wb n (.slice (some ⟨g, 0, none⟩) ps.length cap) ps wh) (hm6 : ps.length ≤ 65536) (hpl : pl < ps.length) (hch : 4 * pl + 1 < ps.length) :
    Calls Try.prog 82 #[.pointer (some ⟨hb, 0, none⟩), .int .i64 pl] w fun e w' => ∃ lc : Nat, e = .returned (.int .i64 lc) ∧ LeastOf ps pl lc ∧ Below w.heap.size w w' := by
  obtain ⟨B, hB1, hB2, hB3⟩ : ∃ B : Nat, B ≤ 4 ∧ 4 * pl + B ≤ ps.length - 1 ∧ (B = 4 ∨ 4 * pl + B = ps.length - 1) := ⟨min 4 (ps.length - 1 - 4 * pl), by omega, by omega, by omega⟩
  obtain ⟨c0, c1, _, _⟩ := h.cells
  have b0 : (0 : Int) ≤ (pl : Int) := by omega
  have b1 : (pl : Int) ≤ 65536 := by omega
  have HM : Hid (Mem w hb wb n (.slice (some ⟨g, 0, none⟩) ps.length cap) ps wh) := h
  have HEND : Hid (∀ lc, SoFar ps pl B lc → LeastOf ps pl lc) := fun lc hs => by
    rcases hs with ⟨h0, _⟩ | ⟨h0, h1, h2, h3⟩
    · omega
    · refine Or.inr ⟨h1, by omega, by omega, fun j y z hj1 hj2 hy hz => h3 j y z hj1 ?_ hy hz⟩
      have := (List.getElem?_eq_some_iff.1 hy).1
      omega
  have hcapl : (ps.length : Int) ≤ cap := by
    obtain ⟨so, c, e, hc, _⟩ := h.shape
    cases e
    omega
  have hbox := lt_of_get h.box
  clear h
  rcases (show (¬ (4 : Int) > (ps.length : Int) - (4 * (pl : Int) + 1) ∧ B = 4) ∨ ((ps.length : Int) - (4 * (pl : Int) + 1) < 4 ∧ B = ps.length - 1 - 4 * pl) by omega) with ⟨hq, hB⟩ | ⟨hq, hB⟩
  all_goals
    go_enter Try.func82, Try.ntmps82
    go_wp2_with fail
    go_loopw [6, 20] (fun lv iv wr => ∃ k lc : Nat, k ≤ B ∧ iv = .int .i64 k ∧ lv = .int .i64 lc ∧ SoFar ps pl k lc ∧ Below w.heap.size w wr) (fun _ iv _ => B - (intOf iv).toNat)
    case atStart => exact ⟨0, pl, by omega, rfl, rfl, Or.inl ⟨rfl, rfl⟩, Below.refl _ _⟩
    case round =>
      obtain ⟨k, lc, hk, rfl, rfl, hs, hbw⟩ := hrel
      have HS : Hid (SoFar ps pl k lc) := hs
      have HBW : Hid (Below w.heap.size w wr) := hbw
      by_cases hkB : k < B
      · have a1 : (k : Int) < 4 := by omega
        have a2 : (k : Int) < (ps.length : Int) - (4 * (pl : Int) + 1) := by omega
        by_cases hk0 : k = 0
        · subst hk0
          obtain rfl : lc = pl := by
            rcases hs with ⟨_, h⟩ | ⟨h, _⟩
            · exact h
            · omega
          clear hs hbw
          go_wp2_with fail
          go_quiet (fail)
          go_wp2
          go_roundw
          case rel => exact ⟨1, 4 * lc + 1, by omega, by go_num, by go_num, Or.inr ⟨by omega, by omega, by omega, fun j y z h1 h2 hy hz => by obtain rfl : j = 4 * lc + 1 := by omega
                                                                                                                                              rw [hy] at hz; cases hz; exact ltT_irrefl _⟩, below_draws HBW.out _⟩
          case measure => simp [intOf]; omega
        · obtain ⟨h1, h2, h3⟩ : 4 * pl < lc ∧ lc ≤ 4 * pl + k ∧ ∀ j y z, 4 * pl < j → j ≤ 4 * pl + k → ps[j]? = some y → ps[lc]? = some z → ¬ ltT y z := by
            rcases hs with ⟨h, _⟩ | ⟨_, h⟩
            · omega
            · exact h
          have H3 : Hid (∀ j y z, 4 * pl < j → j ≤ 4 * pl + k → ps[j]? = some y → ps[lc]? = some z → ¬ ltT y z) := h3
          obtain ⟨j, hj⟩ : ∃ j, 4 * pl + 1 + k = j := ⟨_, rfl⟩
          have HJ : Hid (4 * pl + 1 + k = j) := hj
          have hjl : j < ps.length := by omega
          obtain ⟨y, hy⟩ : ∃ y, ps[j]? = some y := ⟨ps[j]'hjl, List.getElem?_eq_getElem _⟩
          obtain ⟨z, hz⟩ : ∃ z, ps[lc]? = some z := ⟨ps[lc]'(by omega), List.getElem?_eq_getElem _⟩
          have hM := HM.out.below hbw
          obtain ⟨yk, yd⟩ := y
          obtain ⟨zk, zd⟩ := z
          obtain ⟨g', cap', e, hc1, hc2, hgl, hgh, hgw, q0, q1, _, _⟩ := hM.thing hy
          cases e
          obtain ⟨g', cap', e, _, _, _, _, _, r0, r1, _, _⟩ := hM.thing hz
          cases e
          obtain ⟨d0, d1, _, _⟩ := hM.cells
          have HK : Hid (∀ w2, Below wr.heap.size wr w2 → w2.cell? ⟨hb, 0, none⟩ = some (.slice (some ⟨g, 0, none⟩) ps.length cap) ∧ w2.cell? ⟨g, j * 2, none⟩ = some (.int .u64 yk) ∧ w2.cell? ⟨g, j * 2 + 1, none⟩ = some (.int .u32 yd) ∧ w2.cell? ⟨g, lc * 2, none⟩ = some (.int .u64 zk) ∧ w2.cell? ⟨g, lc * 2 + 1, none⟩ = some (.int .u32 zd)) := fun w2 hb2 =>
            ⟨(hb2.cell (p := ⟨hb, 0, none⟩) (lt_of_get hM.box)).trans d0, (hb2.cell (p := ⟨g, j * 2, none⟩) hgl).trans q0, (hb2.cell (p := ⟨g, j * 2 + 1, none⟩) hgl).trans q1, (hb2.cell (p := ⟨g, lc * 2, none⟩) hgl).trans r0, (hb2.cell (p := ⟨g, lc * 2 + 1, none⟩) hgl).trans r1⟩
          have HYZ : Hid (ps[j]? = some (yk, yd) ∧ ps[lc]? = some (zk, zd)) := ⟨hy, hz⟩
          have e1 : 4 * (pl : Int) + 1 + (k : Int) = (j : Int) := by omega
          have ew : IntKind.i64.wrap (j : Int) = (j : Int) := by rw [IntKind.wrap_i64]; omega
          have e2 : ((lc : Int) == (pl : Int)) = false := by
            have : (lc : Int) ≠ (pl : Int) := by omega
            simpa using this
          have f0 : (0 : Int) ≤ (j : Int) := by omega
          have f1 : (j : Int) < (ps.length : Int) := by omega
          have f2 : (0 : Int) ≤ (lc : Int) := by omega
          have f3 : (lc : Int) < (ps.length : Int) := by omega
          have HLT : Hid (ltT (yk, yd) (zk, zd) ∨ ¬ ltT (yk, yd) (zk, zd)) := Classical.em _
          have HN : Hid (4 * pl < lc ∧ lc ≤ 4 * pl + k) := ⟨h1, h2⟩
          unfold maxLen at hc2
          clear hs hbw h3 hj hy hz hM hc2
          rcases HLT.out with hlt | hlt
          · have HLS : Hid (∀ wx, Calls Try.prog 80 #[.agg #[.int .u64 yk, .int .u32 yd], .agg #[.int .u64 zk, .int .u32 zd]] wx fun e w' => e = .returned (.bool true) ∧ Below wx.heap.size wx w') := fun wx => by rw [← ltB_true hlt]; exact less_calls _ _ _ _ wx
            have HLL : Hid (ltT (yk, yd) (zk, zd)) := hlt
            clear hlt
            go_wp2_with fail
            go_region_held3 (fun w' => w'.cell? ⟨hb, 0, none⟩ = some (.slice (some ⟨g, 0, none⟩) ps.length cap) ∧ w'.cell? ⟨g, j * 2, none⟩ = some (.int .u64 yk) ∧ w'.cell? ⟨g, j * 2 + 1, none⟩ = some (.int .u32 yd) ∧ w'.cell? ⟨g, lc * 2, none⟩ = some (.int .u64 zk) ∧ w'.cell? ⟨g, lc * 2 + 1, none⟩ = some (.int .u32 zd)) (go_keep) (first
              | (go_at_call 80; refine (HLS.out _).mono ?_; rintro e w2 ⟨rfl, hb2⟩; have HB2 : Hid (Below wr.heap.size wr w2) := (Below.refl _ wr).drew.trans hb2; obtain ⟨t0, t1, t2, t3, t4⟩ := HK.out w2 HB2.out; clear hb2))
            clear q0 q1 r0 r1 d0 d1 t0 t1 t2 t3 t4
            go_wp2
            go_roundw
            case rel => exact ⟨k + 1, j, by omega, by go_num, rfl, Or.inr ⟨by omega, by have := HJ.out; omega, by have := HJ.out; omega, fun i y z g1 g2 hy hz => by
                          have hj := HJ.out
                          rw [HYZ.out.1] at hz
                          cases hz
                          by_cases e : i = j
                          · subst e; rw [HYZ.out.1] at hy; cases hy; exact ltT_irrefl _
                          · exact ltT_not_trans (H3.out i y _ g1 (by omega) hy HYZ.out.2) (ltT_asymm HLL.out)⟩, HBW.out.trans (HB2.out.mono HBW.out.size)⟩
            case measure => simp [intOf]; omega
          · have HLS : Hid (∀ wx, Calls Try.prog 80 #[.agg #[.int .u64 yk, .int .u32 yd], .agg #[.int .u64 zk, .int .u32 zd]] wx fun e w' => e = .returned (.bool false) ∧ Below wx.heap.size wx w') := fun wx => by rw [← ltB_false hlt]; exact less_calls _ _ _ _ wx
            have HLL : Hid (¬ ltT (yk, yd) (zk, zd)) := hlt
            clear hlt
            go_wp2_with fail
            go_region_held3 (fun w' => w'.cell? ⟨hb, 0, none⟩ = some (.slice (some ⟨g, 0, none⟩) ps.length cap) ∧ w'.cell? ⟨g, j * 2, none⟩ = some (.int .u64 yk) ∧ w'.cell? ⟨g, j * 2 + 1, none⟩ = some (.int .u32 yd) ∧ w'.cell? ⟨g, lc * 2, none⟩ = some (.int .u64 zk) ∧ w'.cell? ⟨g, lc * 2 + 1, none⟩ = some (.int .u32 zd)) (go_keep) (first
              | (go_at_call 80; refine (HLS.out _).mono ?_; rintro e w2 ⟨rfl, hb2⟩; have HB2 : Hid (Below wr.heap.size wr w2) := (Below.refl _ wr).drew.trans hb2; obtain ⟨t0, t1, t2, t3, t4⟩ := HK.out w2 HB2.out; clear hb2))
            clear q0 q1 r0 r1 d0 d1 t0 t1 t2 t3 t4
            go_wp2
            go_roundw
            case rel => exact ⟨k + 1, lc, by omega, by go_num, rfl, Or.inr ⟨by omega, HN.out.1, by have := HN.out.2; omega, fun i y z g1 g2 hy hz => by
                          have hj := HJ.out
                          by_cases e : i = j
                          · subst e; rw [HYZ.out.1] at hy; cases hy; rw [HYZ.out.2] at hz; cases hz; exact HLL.out
                          · exact H3.out i y z g1 (by omega) hy hz⟩, HBW.out.trans (HB2.out.mono HBW.out.size)⟩
            case measure => simp [intOf]; omega
      · obtain rfl : k = B := by omega
        clear hs hbw
        first
          | (have z1 : ¬ (k : Int) < 4 := by omega
             go_wp2
             go_ret
             exact ⟨lc, rfl, HEND.out lc HS.out, HBW.out⟩)
          | (have z1 : ¬ (k : Int) < (ps.length : Int) - (4 * (pl : Int) + 1) := by omega
             go_wp2
             go_ret
             exact ⟨lc, rfl, HEND.out lc HS.out, HBW.out⟩)

set_option maxRecDepth 100000 in
set_option maxHeartbeats 2000000 in
theorem least_none {hb wb n g cap pl : Nat} {ps : List Th} {wh : List Int} {w : World} (h : Mem w hb wb n (.slice (some ⟨g, 0, none⟩) ps.length cap) ps wh) (hm6 : ps.length ≤ 65536) (hpl : pl < ps.length) (hch : ps.length ≤ 4 * pl + 1) :
    Calls Try.prog 82 #[.pointer (some ⟨hb, 0, none⟩), .int .i64 pl] w fun e w' => ∃ lc : Nat, e = .returned (.int .i64 lc) ∧ LeastOf ps pl lc ∧ Below w.heap.size w w' := by
  obtain ⟨c0, c1, _, _⟩ := h.cells
  have b0 : (0 : Int) ≤ (pl : Int) := by omega
  have b1 : (pl : Int) ≤ 65536 := by omega
  have hq : (ps.length : Int) - (4 * (pl : Int) + 1) < 4 := by omega
  have hq2 : ¬ (0 : Int) < (ps.length : Int) - (4 * (pl : Int) + 1) := by omega
  clear h
  go_enter Try.func82, Try.ntmps82
  go_wp2_with fail
  refine wp_loop_rounds 1 ?_
  rw [rounds_succ]
  go_wp2
  go_ret
  exact ⟨pl, rfl, Or.inl ⟨rfl, hch⟩, Below.refl _ _⟩
theorem least_calls {hb wb n g cap pl : Nat} {ps : List Th} {wh : List Int} {w : World} (h : Mem w hb wb n (.slice (some ⟨g, 0, none⟩) ps.length cap) ps wh) (hm6 : ps.length ≤ 65536) (hpl : pl < ps.length) :
    Calls Try.prog 82 #[.pointer (some ⟨hb, 0, none⟩), .int .i64 pl] w fun e w' => ∃ lc : Nat, e = .returned (.int .i64 lc) ∧ LeastOf ps pl lc ∧ Below w.heap.size w w' := by
  rcases Nat.lt_or_ge (4 * pl + 1) ps.length with hc | hc
  · exact least_some h hm6 hpl hc
  · exact least_none h hm6 hpl hc
end Go.Proofs.Ytepkogijignmlaa.Hp
