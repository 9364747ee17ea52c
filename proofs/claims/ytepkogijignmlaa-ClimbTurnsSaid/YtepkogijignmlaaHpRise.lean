/- rise: the free place goes up till the thing may stand there. -/
import Derived.Test.YtepkogijignmlaaHpMove
import Derived.Test.YtepkogijignmlaaHpSmall
namespace Go.Proofs.Ytepkogijignmlaa.Hp
open Go.RowKit

attribute [local go_sem] Oper.semAt_some

/-- a heap but for one place, in memory, the thing for it in a box. -/
structure Free (W0 : World) (bx hb wb n g cap m : Nat) (xk xd : Int) (f : Int → Option Int) (free : Nat) (ps : List Th) (wh : List Int) (wr : World) : Prop where
  hole : Hole ps wh free xd f
  mem : Mem wr hb wb n (.slice (some ⟨g, 0, none⟩) m cap) ps wh
  len : ps.length = m
  fr : Fr hb wb (.slice (some ⟨g, 0, none⟩) m cap) (.slice (some ⟨g, 0, none⟩) m cap) W0 wr
  box : wr.heap[bx]? = some (.cells #[.int .u64 xk, .int .u32 xd] 145)
theorem Free.below {W0 : World} {bx hb wb n g cap m : Nat} {xk xd : Int} {f : Int → Option Int} {free : Nat} {ps : List Th} {wh : List Int} {wr w' : World} (h : Free W0 bx hb wb n g cap m xk xd f free ps wh wr) (hb' : Below wr.heap.size wr w') : Free W0 bx hb wb n g cap m xk xd f free ps wh w' :=
  ⟨h.hole, h.mem.below hb', h.len, h.fr.trans (Fr.of_below hb'), (hb'.block _ (lt_of_get h.box)).trans h.box⟩
theorem pair_cells {w : World} {b : Nat} {c0 c1 : Value} {T : TypeId} (h : w.heap[b]? = some (.cells #[c0, c1] T)) : w.cell? ⟨b, 0, none⟩ = some c0 ∧ w.cell? ⟨b, 1, none⟩ = some c1 := by simp [World.cell?, h]

set_option maxRecDepth 100000 in
set_option maxHeartbeats 2000000 in
theorem rise_calls {hb wb n g cap m free : Nat} {ps : List Th} {wh : List Int} {w : World} (xk xd : Int) (f : Int → Option Int) (h : Mem w hb wb n (.slice (some ⟨g, 0, none⟩) m cap) ps wh) (hm : ps.length = m) (hm6 : m ≤ 65536) (hh : Hole ps wh free xd f) :
    Calls Try.prog 78 #[.pointer (some ⟨hb, 0, none⟩), .int .i64 free, .agg #[.int .u64 xk, .int .u32 xd]] w fun e w' => ∃ (free' : Nat) (ps' : List Th) (wh' : List Int), e = .returned (.int .i64 free') ∧ Hole ps' wh' free' xd f ∧ Mem w' hb wb n (.slice (some ⟨g, 0, none⟩) m cap) ps' wh' ∧ ps'.length = m ∧ Fr hb wb (.slice (some ⟨g, 0, none⟩) m cap) (.slice (some ⟨g, 0, none⟩) m cap) w w' ∧ (0 < free' → ∀ p, ps'[(free' - 1) / 4]? = some p → ¬ ltT (xk, xd) p) := by
  obtain ⟨W0, hW0⟩ : ∃ W0, w.alloc (.cells #[.int .u64 xk, .int .u32 xd] 145) = W0 := ⟨_, rfl⟩
  have hB0 : Below w.heap.size w W0 := by rw [← hW0]; exact (Below.refl _ w).alloc (Nat.le_refl _) _
  have k0 : W0.heap[w.heap.size]? = some (.cells #[.int .u64 xk, .int .u32 xd] 145) := by rw [← hW0]; exact heap_new _ _
  obtain ⟨bx, hbx⟩ : ∃ bx, w.heap.size = bx := ⟨_, rfl⟩
  have HFR : Hid (Fr hb wb (.slice (some ⟨g, 0, none⟩) m cap) (.slice (some ⟨g, 0, none⟩) m cap) w W0) := Fr.of_below hB0
  have HI0 : Hid (Free W0 bx hb wb n g cap m xk xd f free ps wh W0) := ⟨hh, h.below hB0, hm, Fr.refl _ _ _ _, by rw [← hbx]; exact k0⟩
  have HBX : Hid ((hb < bx ∧ wb < bx ∧ g < bx) ∧ bx < W0.heap.size) := by
    refine ⟨?_, by rw [← hbx]; exact lt_of_get k0⟩
    rw [← hbx]
    refine ⟨lt_of_get h.box, lt_of_get h.whr, ?_⟩
    obtain ⟨y, hy⟩ : ∃ y, ps[free]? = some y := ⟨ps[free]'hh.flt, List.getElem?_eq_getElem _⟩
    obtain ⟨g', cap', e, _, _, hgl, _⟩ := h.thing hy
    cases e
    exact hgl
  have HW0 : Hid (w.alloc (.cells #[.int .u64 xk, .int .u32 xd] 145) = W0) := hW0
  have HBE : Hid (w.heap.size = bx) := hbx
  clear hW0 hB0 k0 h hh hm hbx
  go_enter Try.func78, Try.ntmps78
  go_wp2_with fail
  rw [HW0.out, HBE.out]
  go_loopw [1] (fun fv wr => ∃ (fr : Nat) (ps' : List Th) (wh' : List Int), fv = .int .i64 fr ∧ Free W0 bx hb wb n g cap m xk xd f fr ps' wh' wr) (fun fv _ => (intOf fv).toNat)
  case atStart => exact ⟨free, ps, wh, rfl, HI0.out⟩
  case round =>
    obtain ⟨fr, ps', wh', rfl, hI⟩ := hrel
    have HI : Hid (Free W0 bx hb wb n g cap m xk xd f fr ps' wh' wr) := hI
    have hfl := hI.hole.flt
    have hl := hI.len
    by_cases h0 : fr = 0
    · subst h0
      clear hI
      go_wp2
      go_ret
      exact ⟨0, ps', wh', rfl, HI.out.hole, HI.out.mem, HI.out.len, HFR.out.trans HI.out.fr, fun h => by omega⟩
    · obtain ⟨ab, hab⟩ : ∃ ab, (fr - 1) / 4 = ab := ⟨_, rfl⟩
      obtain ⟨p, hp⟩ : ∃ p, ps'[ab]? = some p := ⟨ps'[ab]'(by omega), List.getElem?_eq_getElem _⟩
      obtain ⟨x, hx⟩ : ∃ x, ps'[fr]? = some x := ⟨ps'[fr]'(by omega), List.getElem?_eq_getElem _⟩
      obtain ⟨p0, p1, p2, p3⟩ := hI.hole.idr ab p (by omega) hp
      obtain ⟨pk, pi⟩ := p
      obtain ⟨d, hd⟩ : ∃ d : Nat, pi = d := ⟨pi.toNat, by simp only at p0; omega⟩
      subst hd
      obtain ⟨c0, c1, _, _⟩ := hI.mem.cells
      obtain ⟨g', cap', e, hc1, hc2, hgl, hgh, hgw, q0, q1, _, _⟩ := hI.mem.thing hp
      cases e
      obtain ⟨x0, x1⟩ := pair_cells hI.box
      have HMV : Hid (∀ w2, Below wr.heap.size wr w2 → Calls Try.prog 81 #[.pointer (some ⟨hb, 0, none⟩), .int .i64 fr, .int .i64 ab] w2 fun e w' => e = .returned (.tuple #[]) ∧ Free W0 bx hb wb n g cap ps'.length xk xd f ab (ps'.set fr (pk, (d : Int))) (wh'.set d ((fr : Int) + 1)) w') := fun w2 hb2 => by
        have hI2 := HI.out.below hb2
        refine (move_calls hI2.mem rfl hm6 fr ab d x pk hx hp (by have := hI2.mem.len; simp only at p1; omega)).mono ?_
        rintro e w' ⟨he, hM, hF⟩
        have hr := hI2.hole.rise (by omega) (by rw [hab]; exact hp)
        rw [hab] at hr
        have hbl := HBX.out
        refine ⟨he, by simpa using hr, hM, by rw [List.length_set], hI2.fr.trans hF, ?_⟩
        rw [hF.block bx (lt_of_get hI2.box) (by omega) (by omega) (fun e => by have := Option.some.inj e; simp only at this; omega)]
        exact hI2.box
      have HK : Hid (∀ w2, Below wr.heap.size wr w2 → w2.cell? ⟨hb, 0, none⟩ = some (.slice (some ⟨g, 0, none⟩) ps'.length cap) ∧ w2.cell? ⟨bx, 0, none⟩ = some (.int .u64 xk) ∧ w2.cell? ⟨bx, 1, none⟩ = some (.int .u32 xd) ∧ w2.cell? ⟨g, ab * 2, none⟩ = some (.int .u64 pk) ∧ w2.cell? ⟨g, ab * 2 + 1, none⟩ = some (.int .u32 (d : Int))) := fun w2 hb2 =>
        ⟨(hb2.cell (p := ⟨hb, 0, none⟩) (lt_of_get HI.out.mem.box)).trans c0, (hb2.cell (p := ⟨bx, 0, none⟩) (lt_of_get HI.out.box)).trans x0, (hb2.cell (p := ⟨bx, 1, none⟩) (lt_of_get HI.out.box)).trans x1, (hb2.cell (p := ⟨g, ab * 2, none⟩) hgl).trans q0, (hb2.cell (p := ⟨g, ab * 2 + 1, none⟩) hgl).trans q1⟩
      have HP : Hid (ps'[ab]? = some (pk, (d : Int))) := hp
      have HAB : Hid ((fr - 1) / 4 = ab) := hab
      have b1 : (0 : Int) ≤ (fr : Int) - 1 := by omega
      have b2 : (fr : Int) ≤ 65536 := by omega
      have b3 : (0 : Int) ≤ (ab : Int) := by omega
      have b4 : (ab : Int) < (ps'.length : Int) := by omega
      have b5 : (ab : Int) ≤ 65536 := by omega
      have b6 : (0 : Int) < (fr : Int) := by omega
      have e1 : ((fr : Int) - 1) / 4 = (ab : Int) := by omega
      have hbxl := HBX.out
      have HLT : Hid (ltT (xk, xd) (pk, (d : Int)) ∨ ¬ ltT (xk, xd) (pk, (d : Int))) := Classical.em _
      have HABL : Hid (ab < fr) := by show _ < _; omega
      clear hI hp hab p0 p1 p2 p3 hx hl
      rcases HLT.out with hlt | hlt
      · have HLS : Hid (∀ wx, Calls Try.prog 80 #[.agg #[.int .u64 xk, .int .u32 xd], .agg #[.int .u64 pk, .int .u32 (d : Int)]] wx fun e w' => e = .returned (.bool true) ∧ Below wx.heap.size wx w') := fun wx => by rw [← ltB_true hlt]; exact less_calls _ _ _ _ wx
        clear hlt
        go_wp2_with fail
        go_region_held3 (fun w' => w'.cell? ⟨hb, 0, none⟩ = some (.slice (some ⟨g, 0, none⟩) ps'.length cap) ∧ w'.cell? ⟨bx, 0, none⟩ = some (.int .u64 xk) ∧ w'.cell? ⟨bx, 1, none⟩ = some (.int .u32 xd) ∧ w'.cell? ⟨g, ab * 2, none⟩ = some (.int .u64 pk) ∧ w'.cell? ⟨g, ab * 2 + 1, none⟩ = some (.int .u32 (d : Int))) (go_keep) (first
          | (go_at_call 80; refine (HLS.out _).mono ?_; rintro e w2 ⟨rfl, hb2⟩; have HB2 : Hid (Below wr.heap.size wr w2) := (Below.refl _ wr).drew.trans hb2; obtain ⟨t0, t1, t2, t3, t4⟩ := HK.out w2 HB2.out; clear hb2))
        clear c0 c1 x0 x1 q0 q1 t0 t1 t2 t3 t4
        go_wp2_with fail
        refine (HMV.out _ HB2.out).mono ?_
        rintro e w3 ⟨rfl, hI3⟩
        have HI3 : Hid (Free W0 bx hb wb n g cap ps'.length xk xd f ab (ps'.set fr (pk, (d : Int))) (wh'.set d ((fr : Int) + 1)) w3) := hI3
        clear hI3
        go_wp2
        go_roundw
        case rel => exact ⟨ab, _, _, rfl, HI3.out⟩
        case measure => have := HABL.out; simp [intOf]; omega
      · have HLS : Hid (∀ wx, Calls Try.prog 80 #[.agg #[.int .u64 xk, .int .u32 xd], .agg #[.int .u64 pk, .int .u32 (d : Int)]] wx fun e w' => e = .returned (.bool false) ∧ Below wx.heap.size wx w') := fun wx => by rw [← ltB_false hlt]; exact less_calls _ _ _ _ wx
        have HNL : Hid (¬ ltT (xk, xd) (pk, (d : Int))) := hlt
        clear hlt
        go_wp2_with fail
        go_region_held3 (fun w' => w'.cell? ⟨hb, 0, none⟩ = some (.slice (some ⟨g, 0, none⟩) ps'.length cap) ∧ w'.cell? ⟨bx, 0, none⟩ = some (.int .u64 xk) ∧ w'.cell? ⟨bx, 1, none⟩ = some (.int .u32 xd) ∧ w'.cell? ⟨g, ab * 2, none⟩ = some (.int .u64 pk) ∧ w'.cell? ⟨g, ab * 2 + 1, none⟩ = some (.int .u32 (d : Int))) (go_keep) (first
          | (go_at_call 80; refine (HLS.out _).mono ?_; rintro e w2 ⟨rfl, hb2⟩; have HB2 : Hid (Below wr.heap.size wr w2) := (Below.refl _ wr).drew.trans hb2; obtain ⟨t0, t1, t2, t3, t4⟩ := HK.out w2 HB2.out; clear hb2))
        clear c0 c1 x0 x1 q0 q1 t0 t1 t2 t3 t4
        go_wp2
        go_ret
        have hI2 := HI.out.below HB2.out
        exact ⟨fr, ps', wh', rfl, hI2.hole, hI2.mem, hI2.len, HFR.out.trans hI2.fr, fun _ p hp => by rw [HAB.out, HP.out] at hp; cases hp; exact HNL.out⟩
end Go.Proofs.Ytepkogijignmlaa.Hp
