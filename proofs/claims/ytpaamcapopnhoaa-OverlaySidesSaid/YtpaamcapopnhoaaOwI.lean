/- OverlayKeeps, walked. -/
import Derived.Test.YtpaamcapopnhoaaOwH
namespace Go.Proofs.Ytpaamcapopnhoaa
open Go.RowKit Go.Extern Go.Sort

attribute [local go_sem] Oper.semAt_some

/-- a call's box. -/
def opObj (q : Op5) : Obj := .cells #[.int .u8 q.1, .int .i64 q.2.1, .int .i64 q.2.2.1, .int .u64 q.2.2.2.1, .int .i64 q.2.2.2.2] 35 (0, 0)
theorem op_cells {w : World} {X : Nat} {q : Op5} (h : w.heap[X]? = some (opObj q)) : w.cell? ⟨X, 0, none⟩ = some (.int .u8 q.1) ∧ w.cell? ⟨X, 1, none⟩ = some (.int .i64 q.2.1) ∧ w.cell? ⟨X, 2, none⟩ = some (.int .i64 q.2.2.1) ∧ w.cell? ⟨X, 3, none⟩ = some (.int .u64 q.2.2.2.1) ∧ w.cell? ⟨X, 4, none⟩ = some (.int .i64 q.2.2.2.2) ∧ X < w.heap.size := by
  have hl := lt_of_get h
  unfold opObj at h
  refine ⟨?_, ?_, ?_, ?_, ?_, hl⟩ <;> simp [World.cell?, h]

set_option maxRecDepth 100000 in
set_option maxHeartbeats 4000000 in
theorem keeps_good (n : Nat) (ao : Option Addr) (cap : Nat) (xs : List (Int × Int × Int)) (w : World) (hX : HasArcs w (.slice ao xs.length cap) xs) (hxl : xs.length ≤ maxLen) (hfew : fewB (n : Int) xs 12 = true) (hg : graphErr (n : Int) xs = (0, [])) (oo : Option Addr) (oc : Nat) (ops : List Op5) (hO : HasOp5 w (.slice oo ops.length oc) ops) (h60 : ops.length ≤ 60) :
    Calls Try.prog 4 #[.agg #[.int .i64 (n : Int), .slice ao xs.length cap], .slice oo ops.length oc] w fun e w' => e = .returned (.bool true) ∧ Below w.heap.size w w' := by
  obtain ⟨W0, hW0⟩ : ∃ W0, w.alloc (.cells #[.int .i64 (n : Int), .slice ao xs.length cap] 24) = W0 := ⟨_, rfl⟩
  have HW0 : Hid (w.alloc (.cells #[.int .i64 (n : Int), .slice ao xs.length cap] 24) = W0) := hW0
  have hB0 : Below w.heap.size w W0 := by rw [← hW0]; exact (Below.refl _ w).alloc (Nat.le_refl _) _
  have hbx : W0.heap[w.heap.size]? = some (.cells #[.int .i64 (n : Int), .slice ao xs.length cap] 24) := by rw [← hW0]; exact heap_new _ _
  have HG : Hid (∀ wx, Below W0.heap.size W0 wx → (wx.cell? ⟨w.heap.size, 0, none⟩ = some (.int .i64 (n : Int)) ∧ wx.cell? ⟨w.heap.size, 1, none⟩ = some (.slice ao xs.length cap) ∧ w.heap.size < wx.heap.size) ∧ HasArcs wx (.slice ao xs.length cap) xs ∧ HasOp5 wx (.slice oo ops.length oc) ops ∧ Below w.heap.size w wx) := fun wx hwx => by
    have hgg := (hwx.block _ (lt_of_get hbx)).trans hbx
    have hb := hB0.trans (hwx.mono hB0.size)
    exact ⟨⟨(cell_two hgg).1, (cell_two hgg).2.1, lt_of_get hgg⟩, hX.keep hb, hO.keep hb, hb⟩
  have HAW : Hid (type_of% (awake11_calls W0)) := awake11_calls W0
  have HFW : Hid (∀ wx, Below W0.heap.size W0 wx → Calls Try.prog 7 #[.agg #[.int .i64 (n : Int), .slice ao xs.length cap], .int .i64 12] wx fun e w' => e = .returned (.bool true) ∧ Below wx.heap.size wx w') := fun wx hwx => by
    have h := few_calls (n : Int) ao cap xs 12 wx (HG.out wx hwx).2.1 hxl
    rw [hfew] at h
    exact h
  have HNW : Hid (∀ wx, Below W0.heap.size W0 wx → Calls Try.prog 8 #[.agg #[.int .i64 (n : Int), .slice ao xs.length cap]] wx fun e w' => ∃ pb R, e = .returned (.tuple #[.pointer (some ⟨pb, 0, none⟩), .nilIface]) ∧ IsOv noP wx.heap.size w' pb n (List.replicate n true) R (n : Int) ((normA xs).length : Int) ∧ Below wx.heap.size wx w') := fun wx hwx => by
    refine (ov_new (n := n) ao xs.length cap xs wx (HG.out wx hwx).2.1 hg).mono ?_
    rintro e w' ⟨pb, R, rfl, h1, _, h2⟩
    exact ⟨pb, R, rfl, h1, h2⟩
  have HNM : Hid ((normA xs).length ≤ 262144 ∧ n ≤ 65536) := by have h1 := ((good_iff _ _).1 (good_norm hg)).1; exact ⟨by omega, by omega⟩
  clear hW0 hB0 hbx hX hO hfew hg
  go_enter Try.func4, Try.ntmps4
  go_wp2_with fail
  rw [HW0.out]
  refine HAW.out.mono ?_
  rintro e w1 ⟨rfl, hb1⟩
  have HB1 : Hid (Below W0.heap.size W0 w1) := hb1
  obtain ⟨⟨c0, c1, cs⟩, _, _, _⟩ := HG.out w1 hb1
  clear hb1
  go_wp2_with fail
  refine (HFW.out w1 HB1.out).mono ?_
  rintro e w2 ⟨rfl, hb2⟩
  have HB2 : Hid (Below W0.heap.size W0 w2) := HB1.out.trans (hb2.mono HB1.out.size)
  clear hb2 c0 c1 cs
  obtain ⟨⟨c0, c1, cs⟩, _, hop, hbw⟩ := HG.out w2 HB2.out
  have HOP : Hid (HasOp5 w2 (.slice oo ops.length oc) ops ∧ Below w.heap.size w w2) := ⟨hop, hbw⟩
  clear hop hbw
  go_wp2_with fail
  refine (HNW.out w2 HB2.out).mono ?_
  rintro e w3 ⟨pb, R0, rfl, hO3, hb3⟩
  have H3 : Hid (IsOv noP w2.heap.size w3 pb n (List.replicate n true) R0 (n : Int) ((normA xs).length : Int) ∧ Below w2.heap.size w2 w3) := ⟨hO3, hb3⟩
  clear hO3 hb3 c0 c1 cs
  go_wp2_with fail
  go_loopw [38] (fun iv wr => ∃ (k : Nat) (bs : List Bool) (R : Bool → Nat → Rw) (nd ar : Int), k ≤ ops.length ∧ iv = .int .i64 (k : Nat) ∧ IsOv noP w2.heap.size wr pb n bs R nd ar ∧ (-(131072 * (k : Int)) ≤ ar ∧ ar ≤ 262144 + (k : Int) ∧ -(k : Int) ≤ nd ∧ nd ≤ 65536) ∧ Below w2.heap.size w2 wr) (fun iv _ => ops.length - (intOf iv).toNat)
  case atStart => exact ⟨0, _, R0, _, _, Nat.zero_le _, rfl, H3.out.1, by have := HNM.out; omega, H3.out.2⟩
  case round =>
    obtain ⟨k, bs, R, nd, ar, hkl, rfl, hOv, hbd, hB⟩ := hrel
    by_cases hlt : k < ops.length
    · obtain ⟨q, hq⟩ : ∃ q, ops[k]? = some q := ⟨ops[k], List.getElem?_eq_getElem hlt⟩
      obtain ⟨b, off, rfl, bl, e0, e1, e2, e3, e4⟩ := (HOP.out.1.keep hB).at hq
      obtain ⟨kd, x, y, wt, via⟩ := q
      simp only at e0 e1 e2 e3 e4
      have hGd := hOv.guard (opObj (kd, x, y, wt, via))
      obtain ⟨Wa, hWa⟩ : ∃ Wa, wr.alloc (.cells #[.int .u8 kd, .int .i64 x, .int .i64 y, .int .u64 wt, .int .i64 via] 35) = Wa := ⟨_, rfl⟩
      have hGa : IsOv (P1 wr.heap.size (opObj (kd, x, y, wt, via))) w2.heap.size Wa pb n bs R nd ar := by rw [← hWa]; exact hGd
      have bWa : Below w2.heap.size w2 Wa := by rw [← hWa]; exact hB.alloc hOv.size _
      have HWA : Hid (wr.alloc (.cells #[.int .u8 kd, .int .i64 x, .int .i64 y, .int .u64 wt, .int .i64 via] 35) = Wa) := hWa
      have HGA : Hid (IsOv (P1 wr.heap.size (opObj (kd, x, y, wt, via))) w2.heap.size Wa pb n bs R nd ar ∧ Below w2.heap.size w2 Wa) := ⟨hGa, bWa⟩
      obtain ⟨g0, g1, g2, g3, g4, gl⟩ := op_cells hGa.seen
      simp only at g0 g1 g2 g3 g4
      have i1 : (k : Int) < (ops.length : Int) := by omega
      have i2 : (0 : Int) ≤ (k : Int) := by omega
      have HBD : Hid ((-(131072 * (k : Int)) ≤ ar ∧ ar ≤ 262144 + (k : Int) ∧ -(k : Int) ≤ nd ∧ nd ≤ 65536) ∧ k < 60) := ⟨hbd, by omega⟩
      clear hWa hGd hGa bWa hOv hB hbd hq
      go_wp2_with fail
      rw [HWA.out]
      refine (HGA.out.1.weight x y).mono ?_
      rintro e wb ⟨rfl, hbb⟩
      have HGB : Hid (IsOv (P1 wr.heap.size (opObj (kd, x, y, wt, via))) w2.heap.size wb pb n bs R nd ar ∧ Below w2.heap.size w2 wb) := ⟨HGA.out.1.keep hbb, HGA.out.2.trans (hbb.mono HGA.out.1.size)⟩
      clear hbb g0 g1 g2 g3 g4 gl e0 e1 e2 e3 e4 bl
      obtain ⟨g0, g1, g2, g3, g4, gl⟩ := op_cells HGB.out.1.seen
      simp only at g0 g1 g2 g3 g4
      go_wp2_with fail
      refine HGB.out.1.narcs.mono ?_
      rintro e wb' ⟨rfl, hw⟩
      subst hw
      go_wp2_with fail
      refine HGB.out.1.len.mono ?_
      rintro e wb'' ⟨rfl, hw⟩
      subst hw
      by_cases hk1 : kd = 1
      · subst hk1
        have hpt := HGB.out.1.put x y wt via (by have := HBD.out; omega)
        have HPT : Hid (type_of% hpt) := hpt
        clear hpt
        go_wp2_with fail
        refine HPT.out.mono ?_
        rintro e wc (⟨c, hc, hp, rfl, hbc⟩ | ⟨k', hk', hle, rfl, hbc⟩ | ⟨a, b', v1, v2, rfl, rfl, hlt', hli, rfl, hOc, hbc⟩)
        · have HGC : Hid (IsOv (P1 wr.heap.size (opObj (1, x, y, wt, via))) w2.heap.size wc pb n bs R nd ar ∧ Below w2.heap.size w2 wc) := ⟨HGB.out.1.keep hbc, HGB.out.2.trans (hbc.mono HGB.out.1.size)⟩
          clear hbc HPT hp g0 g1 g2 g3 g4 gl
          obtain ⟨g0, g1, g2, g3, g4, gl⟩ := op_cells HGC.out.1.seen
          simp only at g0 g1 g2 g3 g4
          obtain ⟨wm, hwm⟩ : ∃ wm, weightM n bs R x y = wm := ⟨_, rfl⟩
          have hw2 := HGC.out.1.weight x y
          rw [hwm] at hw2 ⊢
          have HW2 : Hid (type_of% hw2) := hw2
          clear hw2
          generalize wm.getD 0 = v0 at *
          generalize wm.isSome = b0 at *
          go_wp2_with fail
          refine HW2.out.mono ?_
          rintro e wd ⟨rfl, hbdw⟩
          have HGD : Hid (IsOv (P1 wr.heap.size (opObj (1, x, y, wt, via))) w2.heap.size wd pb n bs R nd ar ∧ Below w2.heap.size w2 wd) := ⟨HGC.out.1.keep hbdw, HGC.out.2.trans (hbdw.mono HGC.out.1.size)⟩
          clear hbdw g0 g1 g2 g3 g4 gl
          obtain ⟨g0, g1, g2, g3, g4, gl⟩ := op_cells HGD.out.1.seen
          simp only at g0 g1 g2 g3 g4
          go_wp2_with fail
          refine HGD.out.1.narcs.mono ?_
          rintro e wd' ⟨rfl, hw⟩
          subst hw
          go_wp2
          go_roundw
          case rel => exact ⟨k + 1, bs, R, nd, ar, by omega, by go_num, HGD.out.1.drop, by have := HBD.out; omega, HGD.out.2⟩
          case measure => simp [intOf]; omega
        · have HGC : Hid (IsOv (P1 wr.heap.size (opObj (1, x, y, wt, via))) w2.heap.size wc pb n bs R nd ar ∧ Below w2.heap.size w2 wc) := ⟨HGB.out.1.keep hbc, HGB.out.2.trans (hbc.mono HGB.out.1.size)⟩
          clear hbc HPT hk' hle g0 g1 g2 g3 g4 gl
          obtain ⟨g0, g1, g2, g3, g4, gl⟩ := op_cells HGC.out.1.seen
          simp only at g0 g1 g2 g3 g4
          obtain ⟨wm, hwm⟩ : ∃ wm, weightM n bs R x y = wm := ⟨_, rfl⟩
          have hw2 := HGC.out.1.weight x y
          rw [hwm] at hw2 ⊢
          have HW2 : Hid (type_of% hw2) := hw2
          clear hw2
          generalize wm.getD 0 = v0 at *
          generalize wm.isSome = b0 at *
          go_wp2_with fail
          refine HW2.out.mono ?_
          rintro e wd ⟨rfl, hbdw⟩
          have HGD : Hid (IsOv (P1 wr.heap.size (opObj (1, x, y, wt, via))) w2.heap.size wd pb n bs R nd ar ∧ Below w2.heap.size w2 wd) := ⟨HGC.out.1.keep hbdw, HGC.out.2.trans (hbdw.mono HGC.out.1.size)⟩
          clear hbdw g0 g1 g2 g3 g4 gl
          obtain ⟨g0, g1, g2, g3, g4, gl⟩ := op_cells HGD.out.1.seen
          simp only at g0 g1 g2 g3 g4
          go_wp2_with fail
          refine HGD.out.1.narcs.mono ?_
          rintro e wd' ⟨rfl, hw⟩
          subst hw
          go_wp2
          go_roundw
          case rel => exact ⟨k + 1, bs, R, nd, ar, by omega, by go_num, HGD.out.1.drop, by have := HBD.out; omega, HGD.out.2⟩
          case measure => simp [intOf]; omega
        · obtain ⟨ar', har'⟩ : ∃ ar', ar + (if (weightM n bs R (a : Int) (b' : Int)).isNone then 1 else 0) = ar' := ⟨_, rfl⟩
          have HAR : Hid (ar ≤ ar' ∧ ar' ≤ ar + 1) := by
            show _ ∧ _
            rw [← har']
            split <;> omega
          rw [har'] at hOc
          have hw2 := hOc.weight (a : Int) (b' : Int)
          rw [weight_put HGB.out.1.inv hli.1 hli.2.1 hli.2.2.1 hli.2.2.2 wt via v1 v2] at hw2
          simp only [Option.getD_some, Option.isSome_some] at hw2
          have HW2 : Hid (type_of% hw2) := hw2
          have HGC : Hid (IsOv (P1 wr.heap.size (opObj (1, (a : Int), (b' : Int), wt, via))) w2.heap.size wc pb n bs (putRows R a b' wt via v1 v2) nd ar' ∧ Below w2.heap.size w2 wc) := ⟨hOc, HGB.out.2.trans hbc⟩
          clear hw2 hOc hbc HPT hli har' g0 g1 g2 g3 g4 gl
          obtain ⟨g0, g1, g2, g3, g4, gl⟩ := op_cells HGC.out.1.seen
          simp only at g0 g1 g2 g3 g4
          cases hwm : weightM n bs R (a : Int) (b' : Int) with
          | none =>
            simp only [Option.getD_none, Option.isSome_none]
            clear hlt' hwm
            go_wp2_with fail
            refine HW2.out.mono ?_
            rintro e wd ⟨rfl, hbdw⟩
            have HGD : Hid (IsOv (P1 wr.heap.size (opObj (1, (a : Int), (b' : Int), wt, via))) w2.heap.size wd pb n bs (putRows R a b' wt via v1 v2) nd ar' ∧ Below w2.heap.size w2 wd) := ⟨HGC.out.1.keep hbdw, HGC.out.2.trans (hbdw.mono HGC.out.1.size)⟩
            clear hbdw g0 g1 g2 g3 g4 gl
            obtain ⟨g0, g1, g2, g3, g4, gl⟩ := op_cells HGD.out.1.seen
            simp only at g0 g1 g2 g3 g4
            go_wp2
            go_roundw
            case rel => exact ⟨k + 1, bs, _, nd, ar', by omega, by go_num, HGD.out.1.drop, by have := HBD.out; have := HAR.out; omega, HGD.out.2⟩
            case measure => simp [intOf]; omega
          | some kk =>
            have j1 : ¬ kk ≤ wt := by have := hlt' kk hwm; omega
            have j2 : wt < kk := hlt' kk hwm
            simp only [Option.getD_some, Option.isSome_some]
            clear hlt' hwm
            go_wp2_with fail
            refine HW2.out.mono ?_
            rintro e wd ⟨rfl, hbdw⟩
            have HGD : Hid (IsOv (P1 wr.heap.size (opObj (1, (a : Int), (b' : Int), wt, via))) w2.heap.size wd pb n bs (putRows R a b' wt via v1 v2) nd ar' ∧ Below w2.heap.size w2 wd) := ⟨HGC.out.1.keep hbdw, HGC.out.2.trans (hbdw.mono HGC.out.1.size)⟩
            clear hbdw g0 g1 g2 g3 g4 gl
            obtain ⟨g0, g1, g2, g3, g4, gl⟩ := op_cells HGD.out.1.seen
            simp only at g0 g1 g2 g3 g4
            go_wp2
            go_roundw
            case rel => exact ⟨k + 1, bs, _, nd, ar', by omega, by go_num, HGD.out.1.drop, by have := HBD.out; have := HAR.out; omega, HGD.out.2⟩
            case measure => simp [intOf]; omega
      · by_cases hk2 : kd = 2
        · subst hk2
          generalize (weightM n bs R x y).getD 0 = v0 at *
          generalize (weightM n bs R x y).isSome = b0 at *
          cases hal : aliveB n bs x with
          | false =>
            have HOU : Hid (∀ wx, Below wb''.heap.size wb'' wx → Calls Try.prog 11 #[.pointer (some ⟨pb, 0, none⟩), .int .i64 x] wx fun e w' => e = .returned (.slice none 0 0) ∧ Below wb''.heap.size wb'' w' ∧ w'.cell? ⟨wr.heap.size, 1, none⟩ = some (.int .i64 x)) := fun wx hx => by
              refine ((HGB.out.1.keep hx).out x).mono ?_
              rintro e w' ⟨v', rfl, h1, _, h3⟩
              have hb := hx.trans (h3.mono hx.size)
              exact ⟨by rw [h1 hal], hb, (op_cells (HGB.out.1.keep hb).seen).2.1⟩
            have HIN : Hid (∀ wx, Below wb''.heap.size wb'' wx → Calls Try.prog 12 #[.pointer (some ⟨pb, 0, none⟩), .int .i64 x] wx fun e w' => e = .returned (.slice none 0 0) ∧ Below wb''.heap.size wb'' w' ∧ w'.cell? ⟨wr.heap.size, 1, none⟩ = some (.int .i64 x)) := fun wx hx => by
              refine ((HGB.out.1.keep hx).inn x).mono ?_
              rintro e w' ⟨v', rfl, h1, _, h3⟩
              have hb := hx.trans (h3.mono hx.size)
              exact ⟨by rw [h1 hal], hb, (op_cells (HGB.out.1.keep hb).seen).2.1⟩
            have HRM : Hid (∀ wx, Below wb''.heap.size wb'' wx → Calls Try.prog 10 #[.pointer (some ⟨pb, 0, none⟩), .int .i64 x] wx fun e w' => e = .returned (.iface 77 (.int .i64 7)) ∧ w' = wx) := fun wx hx => by
              refine ((HGB.out.1.keep hx).remove x (by have := HBD.out; omega) (by have := HBD.out; omega)).mono ?_
              rintro e w' (⟨_, rfl, rfl⟩ | ⟨h1, _⟩)
              · exact ⟨rfl, rfl⟩
              · rw [hal] at h1
                cases h1
            clear hal
            go_wp2_with fail
            go_region_held3 (fun w' => w'.cell? ⟨wr.heap.size, 1, none⟩ = some (.int .i64 x)) (go_keep) (first
              | (go_at_call 11; refine (HOU.out _ (Below.refl _ _).drew).mono ?_; rintro e y1 ⟨rfl, hy, z1⟩; have Y1 : Hid (Below wb''.heap.size wb'' y1) := hy; clear hy)
              | (go_at_call 12; refine (HIN.out _ Y1.out).mono ?_; rintro e y2 ⟨rfl, hy, z2⟩; have Y2 : Hid (Below wb''.heap.size wb'' y2) := hy; clear hy))
            have HG2 : Hid (IsOv (P1 wr.heap.size (opObj (2, x, y, wt, via))) w2.heap.size y2 pb n bs R nd ar ∧ Below w2.heap.size w2 y2) := ⟨HGB.out.1.keep Y2.out, HGB.out.2.trans (Y2.out.mono HGB.out.1.size)⟩
            clear g0 g1 g2 g3 g4 gl
            obtain ⟨g0, g1, g2, g3, g4, gl⟩ := op_cells HG2.out.1.seen
            simp only at g0 g1 g2 g3 g4
            clear z1 z2
            go_wp2_with fail
            refine (HRM.out _ Y2.out).mono ?_
            rintro e y3 ⟨rfl, hw⟩
            subst hw
            go_wp2_with fail
            refine HG2.out.1.narcs.mono ?_
            rintro e y4 ⟨rfl, hw⟩
            subst hw
            go_wp2_with fail
            refine HG2.out.1.len.mono ?_
            rintro e y5 ⟨rfl, hw⟩
            subst hw
            go_wp2
            go_roundw
            case rel => exact ⟨k + 1, bs, R, nd, ar, by omega, by go_num, HG2.out.1.drop, by have := HBD.out; omega, HG2.out.2⟩
            case measure => simp [intOf]; omega
          | true =>
            obtain ⟨u, rfl, hu, lu⟩ := aliveB_iff.1 hal
            obtain ⟨L1, hL1⟩ : ∃ L1, livH bs (R false u).2.1 = L1 := ⟨_, rfl⟩
            obtain ⟨L2, hL2⟩ : ∃ L2, livH bs (R true u).2.1 = L2 := ⟨_, rfl⟩
            have HLL : Hid (L1.length ≤ 65536 ∧ L2.length ≤ 65536) := by
              rw [← hL1, ← hL2]
              exact ⟨Nat.le_trans (livH_len _ _) (HGB.out.1.rowLen false hu), Nat.le_trans (livH_len _ _) (HGB.out.1.rowLen true hu)⟩
            have HOU : Hid (∀ wx, Below wb''.heap.size wb'' wx → Calls Try.prog 11 #[.pointer (some ⟨pb, 0, none⟩), .int .i64 (u : Int)] wx fun e w' => ∃ so sc, e = .returned (.slice so L1.length sc) ∧ Below wb''.heap.size wb'' w' ∧ w'.cell? ⟨wr.heap.size, 1, none⟩ = some (.int .i64 (u : Int))) := fun wx hx => by
              refine ((HGB.out.1.keep hx).out (u : Int)).mono ?_
              rintro e w' ⟨v', rfl, _, h2, h3⟩
              have hb := hx.trans (h3.mono hx.size)
              have h4 := h2 hal
              rw [Int.toNat_natCast, hL1] at h4
              obtain ⟨so, sc, rfl⟩ := rowH_slice h4
              exact ⟨so, sc, rfl, hb, (op_cells (HGB.out.1.keep hb).seen).2.1⟩
            have HIN : Hid (∀ wx, Below wb''.heap.size wb'' wx → Calls Try.prog 12 #[.pointer (some ⟨pb, 0, none⟩), .int .i64 (u : Int)] wx fun e w' => ∃ so sc, e = .returned (.slice so L2.length sc) ∧ Below wb''.heap.size wb'' w' ∧ w'.cell? ⟨wr.heap.size, 1, none⟩ = some (.int .i64 (u : Int))) := fun wx hx => by
              refine ((HGB.out.1.keep hx).inn (u : Int)).mono ?_
              rintro e w' ⟨v', rfl, _, h2, h3⟩
              have hb := hx.trans (h3.mono hx.size)
              have h4 := h2 hal
              rw [Int.toNat_natCast, hL2] at h4
              obtain ⟨so, sc, rfl⟩ := rowH_slice h4
              exact ⟨so, sc, rfl, hb, (op_cells (HGB.out.1.keep hb).seen).2.1⟩
            have HRM : Hid (∀ wx, Below wb''.heap.size wb'' wx → Calls Try.prog 10 #[.pointer (some ⟨pb, 0, none⟩), .int .i64 (u : Int)] wx fun e w' => ∃ R', e = .returned .nilIface ∧ IsOv (P1 wr.heap.size (opObj (2, (u : Int), y, wt, via))) w2.heap.size w' pb n (bs.set u false) R' (nd - 1) (ar - (L1.length : Int) - (L2.length : Int)) ∧ Below w2.heap.size w2 w') := fun wx hx => by
              refine ((HGB.out.1.keep hx).remove (u : Int) (by have := HBD.out; omega) (by have := HBD.out; omega)).mono ?_
              rintro e w' (⟨h1, _⟩ | ⟨_, u', R', hu', _, _, rfl, hO, _, hb⟩)
              · rw [hal] at h1
                cases h1
              · obtain rfl : u = u' := by omega
                rw [hL1, hL2] at hO
                exact ⟨R', rfl, hO, HGB.out.2.trans ((hx.mono HGB.out.1.size).trans hb)⟩
            have HAF : Hid (aliveB n (bs.set u false) (u : Int) = false) := by
              show _ = _
              cases h9 : aliveB n (bs.set u false) (u : Int) with
              | false => rfl
              | true =>
                obtain ⟨v, e, _, h⟩ := aliveB_iff.1 h9
                obtain rfl : u = v := by omega
                rw [liv_set, if_pos rfl] at h
                cases h
            have j1 : IntKind.i64.wrap ((L1.length : Int) + (L2.length : Int)) = (L1.length : Int) + (L2.length : Int) := by have := HLL.out; rw [IntKind.wrap_i64] <;> omega
            have j2 : IntKind.i64.wrap (ar - ((L1.length : Int) + (L2.length : Int))) = ar - (L1.length : Int) - (L2.length : Int) := by have := HLL.out; have := HBD.out; rw [IntKind.wrap_i64] <;> omega
            have j3 : IntKind.i64.wrap (nd - 1) = nd - 1 := by have := HBD.out; rw [IntKind.wrap_i64] <;> omega
            clear hal hL1 hL2 hu lu
            go_wp2_with fail
            go_region_held3 (fun w' => w'.cell? ⟨wr.heap.size, 1, none⟩ = some (.int .i64 (u : Int))) (go_keep) (first
              | (go_at_call 11; refine (HOU.out _ (Below.refl _ _).drew).mono ?_; rintro e y1 ⟨so, sc, rfl, hy, z1⟩; have Y1 : Hid (Below wb''.heap.size wb'' y1) := hy; clear hy)
              | (go_at_call 12; refine (HIN.out _ Y1.out).mono ?_; rintro e y2 ⟨ti, tc, rfl, hy, z2⟩; have Y2 : Hid (Below wb''.heap.size wb'' y2) := hy; clear hy))
            clear g0 g1 g2 g3 g4 gl
            obtain ⟨g0, g1, g2, g3, g4, gl⟩ := op_cells (HGB.out.1.keep Y2.out).seen
            simp only at g0 g1 g2 g3 g4
            clear z1 z2
            go_wp2_with fail
            refine (HRM.out _ Y2.out).mono ?_
            rintro e y3 ⟨R', rfl, hO3, hb3⟩
            have HG3 : Hid (type_of% (And.intro hO3 hb3)) := ⟨hO3, hb3⟩
            clear hO3 hb3 g0 g1 g2 g3 g4 gl
            obtain ⟨g0, g1, g2, g3, g4, gl⟩ := op_cells HG3.out.1.seen
            simp only at g0 g1 g2 g3 g4
            go_wp2_with fail
            refine HG3.out.1.narcs.mono ?_
            rintro e y4 ⟨rfl, hw⟩
            subst hw
            go_wp2_with fail
            refine HG3.out.1.len.mono ?_
            rintro e y5 ⟨rfl, hw⟩
            subst hw
            have hal3 := HG3.out.1.alive (u : Int)
            rw [HAF.out] at hal3
            have HA3 : Hid (type_of% hal3) := hal3
            clear hal3
            go_wp2_with fail
            refine HA3.out.mono ?_
            rintro e y6 ⟨rfl, hw⟩
            subst hw
            go_wp2
            go_roundw
            case rel => exact ⟨k + 1, _, R', _, _, by omega, by go_num, HG3.out.1.drop, by have := HBD.out; have := HLL.out; omega, HG3.out.2⟩
            case measure => simp [intOf]; omega
        · generalize (weightM n bs R x y).getD 0 = v0 at *
          generalize (weightM n bs R x y).isSome = b0 at *
          go_wp2
          go_roundw
          case rel => exact ⟨k + 1, bs, R, nd, ar, by omega, by go_num, HGB.out.1.drop, by have := HBD.out; omega, HGB.out.2⟩
          case measure => simp [intOf]; omega
    · obtain rfl : k = ops.length := by omega
      have HF : Hid (Below w.heap.size w wr) := HOP.out.2.trans (hB.mono HOP.out.2.size)
      clear hOv hB
      go_wp2
      go_ret
      exact ⟨rfl, HF.out⟩
end Go.Proofs.Ytpaamcapopnhoaa
