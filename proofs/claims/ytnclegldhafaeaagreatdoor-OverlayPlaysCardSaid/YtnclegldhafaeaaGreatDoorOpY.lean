/- viaductlaw11.step, case by case. (Printed by genop.py.) viaductlaw11.step: Put and Remove. (Printed by genoq.py.) the law OverlayPlays. the law OverlayPlays where the graph is right. -/
import Derived.Test.YtnclegldhafaeaaGreatDoorOpX
import Derived.Deep.RegionHeld3
import Derived.BigRegion
import Derived.Test.YtnclegldhafaeaaGreatDoorOnX
import Derived.Test.YtnclegldhafaeaaGreatDoorOyG
namespace Go.Proofs.YtnclegldhafaeaaGreatDoor
open Go.RowKit Go.Extern Go.Sort

attribute [local go_sem] Oper.semAt_some

section
variable {PX : Nat → Option Obj} {w : World} {B0 pb n : Nat} {bs : List Bool} {R : Bool → Nat → Rw} {zs : List A4} {fo ao : Option Addr} {fc ac : Nat}


set_option maxRecDepth 100000 in
set_option maxHeartbeats 4000000 in
theorem step_other (h : Both PX B0 w pb n bs R zs (.slice fo n fc) (.slice ao zs.length ac)) (_hz : zs.length ≤ 200000) (hT : ∀ wx, Below B0 w wx → HasType wx) (x y wt via : Int) (kd : Int) (k1 : (kd == 1) = false) (k2 : (kd == 2) = false) (k3 : (kd == 3) = false) (k4 : (kd == 4) = false) (k5 : (kd == 5) = false) (k6 : (kd == 6) = false) (k7 : (kd == 7) = false) :
    Calls Tryz.prog 10 #[.pointer (some ⟨pb, 0, none⟩), .agg #[.slice fo n fc, .slice ao zs.length ac], .agg #[.int .u8 kd, .int .i64 x, .int .i64 y, .int .u64 wt, .int .i64 via]] w (StepPost PX B0 w pb n zs (.slice fo n fc) (.slice ao zs.length ac)) := by
  obtain ⟨W3, hW3⟩ : ∃ W3, ((w.alloc (.cells #[.slice fo n fc, .slice ao zs.length ac] 40)).alloc (.cells (opC (kd, x, y, wt, via)) 45)).alloc (.cells #[.slice none 0 0, .slice none 0 0] 40) = W3 := ⟨_, rfl⟩
  obtain ⟨h3, b3, hwd, hbx, hp6⟩ := step_in h (kd, x, y, wt, via) hW3
  have HW3 : Hid (((w.alloc (.cells #[.slice fo n fc, .slice ao zs.length ac] 40)).alloc (.cells #[.int .u8 kd, .int .i64 x, .int .i64 y, .int .u64 wt, .int .i64 via] 45)).alloc (.cells #[.slice none 0 0, .slice none 0 0] 40) = W3) := hW3
  have HE : Hid (∀ wy, Below W3.heap.size W3 wy → ((wy.setCell ⟨w.heap.size + 1 + 1, 0, none⟩ (.slice fo n fc)).setCell ⟨w.heap.size + 1 + 1, 1, none⟩ (.slice ao zs.length ac)).heap[w.heap.size + 1 + 1]? = some (.cells #[.slice fo n fc, .slice ao zs.length ac] 40 (0, 0)) ∧ StepPost PX B0 w pb n zs (.slice fo n fc) (.slice ao zs.length ac) (.returned (.tuple #[.agg #[.slice fo n fc, .slice ao zs.length ac], .bool true])) ((wy.setCell ⟨w.heap.size + 1 + 1, 0, none⟩ (.slice fo n fc)).setCell ⟨w.heap.size + 1 + 1, 1, none⟩ (.slice ao zs.length ac))) := fun wy hb => step_same h _ hW3 hb
  have HNEW : Hid (type_of% (@step_new PX w B0 pb n bs R zs (.slice fo n fc) (.slice ao zs.length ac) h (kd, x, y, wt, via) W3)) := @step_new PX w B0 pb n bs R zs (.slice fo n fc) (.slice ao zs.length ac) h (kd, x, y, wt, via) W3
  have HNW3 : Hid (((w.alloc (.cells #[.slice fo n fc, .slice ao zs.length ac] 40)).alloc (.cells (opC (kd, x, y, wt, via)) 45)).alloc (.cells #[.slice none 0 0, .slice none 0 0] 40) = W3) := hW3
  have HLX : Hid (∀ wx, Lies (wrapP PX w.heap.size W3) wx → Boxes wx w.heap.size (.slice fo n fc) (.slice ao zs.length ac) (kd, x, y, wt, via)) := hbx
  have H3 : Hid (Both (wrapP PX w.heap.size W3) B0 W3 pb n bs R zs (.slice fo n fc) (.slice ao zs.length ac)) := h3
  have HBX : Hid (∀ wx, Below W3.heap.size W3 wx → Boxes wx w.heap.size (.slice fo n fc) (.slice ao zs.length ac) (kd, x, y, wt, via)) := fun wx hb => hbx wx (h3.keep hb).ov.lies
  have HT : Hid (∀ wx, Below B0 w wx → HasType wx) := hT
  have HB3 : Hid (Below w.heap.size w W3 ∧ B0 ≤ w.heap.size) := ⟨b3, h.ov.size⟩
  obtain ⟨x0, x1, x2, x3, x4, xs⟩ := (HBX.out W3 (Below.refl _ _)).cx
  obtain ⟨c0, c1, cs⟩ := (HBX.out W3 (Below.refl _ _)).co
  obtain ⟨r0, r1, f0, f1, rs⟩ := (HBX.out W3 (Below.refl _ _)).cr
  simp only at x0 x1 x2 x3 x4
  have n1 : w.heap.size ≠ w.heap.size + 1 + 1 := by omega
  have n2 : w.heap.size + 1 + 1 ≠ w.heap.size := by omega
  have n3 : w.heap.size + 1 ≠ w.heap.size + 1 + 1 := by omega
  have n4 : w.heap.size + 1 + 1 ≠ w.heap.size + 1 := by omega
  clear hW3 h3 b3 hwd hbx h hT hp6
  go_enter Tryz.func10, Tryz.ntmps10
  go_upto_region 1 with fail
  rw [HW3.out]
  clear HW3
  go_wp2
  obtain ⟨z1, z2⟩ := HE.out W3 (Below.refl _ _)
  generalize ((World.setCell W3 ⟨w.heap.size + 1 + 1, 0, none⟩ (.slice fo n fc)).setCell ⟨w.heap.size + 1 + 1, 1, none⟩ (.slice ao zs.length ac)) = Wf at *
  obtain ⟨u0, u1, _, _⟩ := cell_two z1
  exact bodyPost_ret (v := .tuple #[.agg #[.slice fo n fc, .slice ao zs.length ac], .bool true]) (by simp [results, Tryz.results10, go_sem, u0, u1]) rfl z2


set_option maxRecDepth 100000 in
set_option maxHeartbeats 4000000 in
theorem step_out (h : Both PX B0 w pb n bs R zs (.slice fo n fc) (.slice ao zs.length ac)) (hz : zs.length ≤ 200000) (hT : ∀ wx, Below B0 w wx → HasType wx) (x y wt via : Int) :
    Calls Tryz.prog 10 #[.pointer (some ⟨pb, 0, none⟩), .agg #[.slice fo n fc, .slice ao zs.length ac], .agg #[.int .u8 3, .int .i64 x, .int .i64 y, .int .u64 wt, .int .i64 via]] w (StepPost PX B0 w pb n zs (.slice fo n fc) (.slice ao zs.length ac)) := by
  obtain ⟨W3, hW3⟩ : ∃ W3, ((w.alloc (.cells #[.slice fo n fc, .slice ao zs.length ac] 40)).alloc (.cells (opC (3, x, y, wt, via)) 45)).alloc (.cells #[.slice none 0 0, .slice none 0 0] 40) = W3 := ⟨_, rfl⟩
  obtain ⟨h3, b3, hwd, hbx, hp6⟩ := step_in h (3, x, y, wt, via) hW3
  have HW3 : Hid (((w.alloc (.cells #[.slice fo n fc, .slice ao zs.length ac] 40)).alloc (.cells #[.int .u8 3, .int .i64 x, .int .i64 y, .int .u64 wt, .int .i64 via] 45)).alloc (.cells #[.slice none 0 0, .slice none 0 0] 40) = W3) := hW3
  have HE : Hid (∀ wy, Below W3.heap.size W3 wy → ((wy.setCell ⟨w.heap.size + 1 + 1, 0, none⟩ (.slice fo n fc)).setCell ⟨w.heap.size + 1 + 1, 1, none⟩ (.slice ao zs.length ac)).heap[w.heap.size + 1 + 1]? = some (.cells #[.slice fo n fc, .slice ao zs.length ac] 40 (0, 0)) ∧ StepPost PX B0 w pb n zs (.slice fo n fc) (.slice ao zs.length ac) (.returned (.tuple #[.agg #[.slice fo n fc, .slice ao zs.length ac], .bool true])) ((wy.setCell ⟨w.heap.size + 1 + 1, 0, none⟩ (.slice fo n fc)).setCell ⟨w.heap.size + 1 + 1, 1, none⟩ (.slice ao zs.length ac))) := fun wy hb => step_same h _ hW3 hb
  have HNEW : Hid (type_of% (@step_new PX w B0 pb n bs R zs (.slice fo n fc) (.slice ao zs.length ac) h (3, x, y, wt, via) W3)) := @step_new PX w B0 pb n bs R zs (.slice fo n fc) (.slice ao zs.length ac) h (3, x, y, wt, via) W3
  have HNW3 : Hid (((w.alloc (.cells #[.slice fo n fc, .slice ao zs.length ac] 40)).alloc (.cells (opC (3, x, y, wt, via)) 45)).alloc (.cells #[.slice none 0 0, .slice none 0 0] 40) = W3) := hW3
  have HLX : Hid (∀ wx, Lies (wrapP PX w.heap.size W3) wx → Boxes wx w.heap.size (.slice fo n fc) (.slice ao zs.length ac) (3, x, y, wt, via)) := hbx
  have H3 : Hid (Both (wrapP PX w.heap.size W3) B0 W3 pb n bs R zs (.slice fo n fc) (.slice ao zs.length ac)) := h3
  have HBX : Hid (∀ wx, Below W3.heap.size W3 wx → Boxes wx w.heap.size (.slice fo n fc) (.slice ao zs.length ac) (3, x, y, wt, via)) := fun wx hb => hbx wx (h3.keep hb).ov.lies
  have HT : Hid (∀ wx, Below B0 w wx → HasType wx) := hT
  have HB3 : Hid (Below w.heap.size w W3 ∧ B0 ≤ w.heap.size) := ⟨b3, h.ov.size⟩
  obtain ⟨x0, x1, x2, x3, x4, xs⟩ := (HBX.out W3 (Below.refl _ _)).cx
  obtain ⟨c0, c1, cs⟩ := (HBX.out W3 (Below.refl _ _)).co
  obtain ⟨r0, r1, f0, f1, rs⟩ := (HBX.out W3 (Below.refl _ _)).cr
  simp only at x0 x1 x2 x3 x4
  have n1 : w.heap.size ≠ w.heap.size + 1 + 1 := by omega
  have n2 : w.heap.size + 1 + 1 ≠ w.heap.size := by omega
  have n3 : w.heap.size + 1 ≠ w.heap.size + 1 + 1 := by omega
  have n4 : w.heap.size + 1 + 1 ≠ w.heap.size + 1 := by omega
  obtain ⟨L, hL⟩ : ∃ L, outM n bs R false x = L := ⟨_, rfl⟩
  have hle : L.length ≤ 65536 := by rw [← hL]; exact H3.out.ov.outLe false x
  have HO : Hid (∀ wx, Below W3.heap.size W3 wx → Calls Tryz.prog 12 #[.pointer (some ⟨pb, 0, none⟩), .int .i64 x] wx fun e w' => ∃ so sc, e = .returned (.slice so L.length sc) ∧ HasHs w' (.slice so L.length sc) L ∧ Below wx.heap.size wx w') := fun wx hb => by
    have q := (H3.out.keep hb).ov.outM x
    rw [hL] at q
    exact q
  have HRO : Hid (∀ wx, Below W3.heap.size W3 wx → Calls Tryz.prog 13 #[.agg #[.slice fo n fc, .slice ao zs.length ac], .int .i64 x] wx fun e w' => ∃ so sc, e = .returned (.slice so L.length sc) ∧ HasHs w' (.slice so L.length sc) L ∧ Below wx.heap.size wx w') := fun wx hb => by
    have q := (H3.out.keep hb).rout (by omega) x
    rw [hL] at q
    exact q
  clear hL
  clear hW3 h3 b3 hwd hbx h hT hp6
  go_enter Tryz.func10, Tryz.ntmps10
  go_upto_region 1 with fail
  rw [HW3.out]
  clear HW3
  go_upto_region 15 with fail
  go_region_held3 (fun w' => w'.cell? ⟨w.heap.size, 0, none⟩ = some (.slice fo n fc) ∧ w'.cell? ⟨w.heap.size, 1, none⟩ = some (.slice ao zs.length ac) ∧ w'.cell? ⟨w.heap.size + 1, 1, none⟩ = some (.int .i64 x)) (go_keep) (first
    | (go_at_call 11; refine (same11_yes _ _ _ _ L _ Y2.out.2.1 Y2.out.2.2 (by omega)).mono ?_; rintro e y3 ⟨rfl, hy⟩; have Y3 : Hid (Below W3.heap.size W3 y3) := btr Y2.out.1 hy; clear x0 x1 x2 x3 x4 xs c0 c1 cs r0 r1 f0 f1 rs; obtain ⟨x0, x1, x2, x3, x4, xs⟩ := (HBX.out y3 Y3.out).cx; obtain ⟨c0, c1, cs⟩ := (HBX.out y3 Y3.out).co; obtain ⟨r0, r1, f0, f1, rs⟩ := (HBX.out y3 Y3.out).cr; simp only at x0 x1 x2 x3 x4; clear hy)
    | (go_at_call 13; refine (HRO.out _ Y1.out.1).mono ?_; rintro e y2 ⟨s2, t2, rfl, hh, hy⟩; have Y2 : Hid (Below W3.heap.size W3 y2 ∧ HasHs y2 (.slice s1 L.length t1) L ∧ HasHs y2 (.slice s2 L.length t2) L) := ⟨btr Y1.out.1 hy, Y1.out.2.keep hy, hh⟩; clear x0 x1 x2 x3 x4 xs c0 c1 cs r0 r1 f0 f1 rs; obtain ⟨x0, x1, x2, x3, x4, xs⟩ := (HBX.out y2 Y2.out.1).cx; obtain ⟨c0, c1, cs⟩ := (HBX.out y2 Y2.out.1).co; obtain ⟨r0, r1, f0, f1, rs⟩ := (HBX.out y2 Y2.out.1).cr; simp only at x0 x1 x2 x3 x4; clear hy hh)
    | (go_at_call 12; refine (HO.out _ (Below.refl _ _).drew).mono ?_; rintro e y1 ⟨s1, t1, rfl, hh, hy⟩; have Y1 : Hid (Below W3.heap.size W3 y1 ∧ HasHs y1 (.slice s1 L.length t1) L) := ⟨btr (Below.refl _ _).drew hy, hh⟩; clear x0 x1 x2 x3 x4 xs c0 c1 cs r0 r1 f0 f1 rs; obtain ⟨x0, x1, x2, x3, x4, xs⟩ := (HBX.out y1 Y1.out.1).cx; obtain ⟨c0, c1, cs⟩ := (HBX.out y1 Y1.out.1).co; obtain ⟨r0, r1, f0, f1, rs⟩ := (HBX.out y1 Y1.out.1).cr; simp only at x0 x1 x2 x3 x4; clear hy hh))
  go_wp2
  obtain ⟨z1, z2⟩ := HE.out y3 Y3.out
  generalize ((World.setCell y3 ⟨w.heap.size + 1 + 1, 0, none⟩ (.slice fo n fc)).setCell ⟨w.heap.size + 1 + 1, 1, none⟩ (.slice ao zs.length ac)) = Wf at *
  obtain ⟨u0, u1, _, _⟩ := cell_two z1
  exact bodyPost_ret (v := .tuple #[.agg #[.slice fo n fc, .slice ao zs.length ac], .bool true]) (by simp [results, Tryz.results10, go_sem, u0, u1]) rfl z2


set_option maxRecDepth 100000 in
set_option maxHeartbeats 4000000 in
theorem step_inn (h : Both PX B0 w pb n bs R zs (.slice fo n fc) (.slice ao zs.length ac)) (hz : zs.length ≤ 200000) (hT : ∀ wx, Below B0 w wx → HasType wx) (x y wt via : Int) :
    Calls Tryz.prog 10 #[.pointer (some ⟨pb, 0, none⟩), .agg #[.slice fo n fc, .slice ao zs.length ac], .agg #[.int .u8 4, .int .i64 x, .int .i64 y, .int .u64 wt, .int .i64 via]] w (StepPost PX B0 w pb n zs (.slice fo n fc) (.slice ao zs.length ac)) := by
  obtain ⟨W3, hW3⟩ : ∃ W3, ((w.alloc (.cells #[.slice fo n fc, .slice ao zs.length ac] 40)).alloc (.cells (opC (4, x, y, wt, via)) 45)).alloc (.cells #[.slice none 0 0, .slice none 0 0] 40) = W3 := ⟨_, rfl⟩
  obtain ⟨h3, b3, hwd, hbx, hp6⟩ := step_in h (4, x, y, wt, via) hW3
  have HW3 : Hid (((w.alloc (.cells #[.slice fo n fc, .slice ao zs.length ac] 40)).alloc (.cells #[.int .u8 4, .int .i64 x, .int .i64 y, .int .u64 wt, .int .i64 via] 45)).alloc (.cells #[.slice none 0 0, .slice none 0 0] 40) = W3) := hW3
  have HE : Hid (∀ wy, Below W3.heap.size W3 wy → ((wy.setCell ⟨w.heap.size + 1 + 1, 0, none⟩ (.slice fo n fc)).setCell ⟨w.heap.size + 1 + 1, 1, none⟩ (.slice ao zs.length ac)).heap[w.heap.size + 1 + 1]? = some (.cells #[.slice fo n fc, .slice ao zs.length ac] 40 (0, 0)) ∧ StepPost PX B0 w pb n zs (.slice fo n fc) (.slice ao zs.length ac) (.returned (.tuple #[.agg #[.slice fo n fc, .slice ao zs.length ac], .bool true])) ((wy.setCell ⟨w.heap.size + 1 + 1, 0, none⟩ (.slice fo n fc)).setCell ⟨w.heap.size + 1 + 1, 1, none⟩ (.slice ao zs.length ac))) := fun wy hb => step_same h _ hW3 hb
  have HNEW : Hid (type_of% (@step_new PX w B0 pb n bs R zs (.slice fo n fc) (.slice ao zs.length ac) h (4, x, y, wt, via) W3)) := @step_new PX w B0 pb n bs R zs (.slice fo n fc) (.slice ao zs.length ac) h (4, x, y, wt, via) W3
  have HNW3 : Hid (((w.alloc (.cells #[.slice fo n fc, .slice ao zs.length ac] 40)).alloc (.cells (opC (4, x, y, wt, via)) 45)).alloc (.cells #[.slice none 0 0, .slice none 0 0] 40) = W3) := hW3
  have HLX : Hid (∀ wx, Lies (wrapP PX w.heap.size W3) wx → Boxes wx w.heap.size (.slice fo n fc) (.slice ao zs.length ac) (4, x, y, wt, via)) := hbx
  have H3 : Hid (Both (wrapP PX w.heap.size W3) B0 W3 pb n bs R zs (.slice fo n fc) (.slice ao zs.length ac)) := h3
  have HBX : Hid (∀ wx, Below W3.heap.size W3 wx → Boxes wx w.heap.size (.slice fo n fc) (.slice ao zs.length ac) (4, x, y, wt, via)) := fun wx hb => hbx wx (h3.keep hb).ov.lies
  have HT : Hid (∀ wx, Below B0 w wx → HasType wx) := hT
  have HB3 : Hid (Below w.heap.size w W3 ∧ B0 ≤ w.heap.size) := ⟨b3, h.ov.size⟩
  obtain ⟨x0, x1, x2, x3, x4, xs⟩ := (HBX.out W3 (Below.refl _ _)).cx
  obtain ⟨c0, c1, cs⟩ := (HBX.out W3 (Below.refl _ _)).co
  obtain ⟨r0, r1, f0, f1, rs⟩ := (HBX.out W3 (Below.refl _ _)).cr
  simp only at x0 x1 x2 x3 x4
  have n1 : w.heap.size ≠ w.heap.size + 1 + 1 := by omega
  have n2 : w.heap.size + 1 + 1 ≠ w.heap.size := by omega
  have n3 : w.heap.size + 1 ≠ w.heap.size + 1 + 1 := by omega
  have n4 : w.heap.size + 1 + 1 ≠ w.heap.size + 1 := by omega
  obtain ⟨L, hL⟩ : ∃ L, outM n bs R true x = L := ⟨_, rfl⟩
  have hle : L.length ≤ 65536 := by rw [← hL]; exact H3.out.ov.outLe true x
  have HO : Hid (∀ wx, Below W3.heap.size W3 wx → Calls Tryz.prog 14 #[.pointer (some ⟨pb, 0, none⟩), .int .i64 x] wx fun e w' => ∃ so sc, e = .returned (.slice so L.length sc) ∧ HasHs w' (.slice so L.length sc) L ∧ Below wx.heap.size wx w') := fun wx hb => by
    have q := (H3.out.keep hb).ov.inM x
    rw [hL] at q
    exact q
  have HRO : Hid (∀ wx, Below W3.heap.size W3 wx → Calls Tryz.prog 15 #[.agg #[.slice fo n fc, .slice ao zs.length ac], .int .i64 x] wx fun e w' => ∃ so sc, e = .returned (.slice so L.length sc) ∧ HasHs w' (.slice so L.length sc) L ∧ Below wx.heap.size wx w') := fun wx hb => by
    have q := (H3.out.keep hb).rin (by omega) x
    rw [hL] at q
    exact q
  clear hL
  clear hW3 h3 b3 hwd hbx h hT hp6
  go_enter Tryz.func10, Tryz.ntmps10
  go_upto_region 1 with fail
  rw [HW3.out]
  clear HW3
  go_upto_region 17 with fail
  go_region_held3 (fun w' => w'.cell? ⟨w.heap.size, 0, none⟩ = some (.slice fo n fc) ∧ w'.cell? ⟨w.heap.size, 1, none⟩ = some (.slice ao zs.length ac) ∧ w'.cell? ⟨w.heap.size + 1, 1, none⟩ = some (.int .i64 x)) (go_keep) (first
    | (go_at_call 11; refine (same11_yes _ _ _ _ L _ Y2.out.2.1 Y2.out.2.2 (by omega)).mono ?_; rintro e y3 ⟨rfl, hy⟩; have Y3 : Hid (Below W3.heap.size W3 y3) := btr Y2.out.1 hy; clear x0 x1 x2 x3 x4 xs c0 c1 cs r0 r1 f0 f1 rs; obtain ⟨x0, x1, x2, x3, x4, xs⟩ := (HBX.out y3 Y3.out).cx; obtain ⟨c0, c1, cs⟩ := (HBX.out y3 Y3.out).co; obtain ⟨r0, r1, f0, f1, rs⟩ := (HBX.out y3 Y3.out).cr; simp only at x0 x1 x2 x3 x4; clear hy)
    | (go_at_call 15; refine (HRO.out _ Y1.out.1).mono ?_; rintro e y2 ⟨s2, t2, rfl, hh, hy⟩; have Y2 : Hid (Below W3.heap.size W3 y2 ∧ HasHs y2 (.slice s1 L.length t1) L ∧ HasHs y2 (.slice s2 L.length t2) L) := ⟨btr Y1.out.1 hy, Y1.out.2.keep hy, hh⟩; clear x0 x1 x2 x3 x4 xs c0 c1 cs r0 r1 f0 f1 rs; obtain ⟨x0, x1, x2, x3, x4, xs⟩ := (HBX.out y2 Y2.out.1).cx; obtain ⟨c0, c1, cs⟩ := (HBX.out y2 Y2.out.1).co; obtain ⟨r0, r1, f0, f1, rs⟩ := (HBX.out y2 Y2.out.1).cr; simp only at x0 x1 x2 x3 x4; clear hy hh)
    | (go_at_call 14; refine (HO.out _ (Below.refl _ _).drew).mono ?_; rintro e y1 ⟨s1, t1, rfl, hh, hy⟩; have Y1 : Hid (Below W3.heap.size W3 y1 ∧ HasHs y1 (.slice s1 L.length t1) L) := ⟨btr (Below.refl _ _).drew hy, hh⟩; clear x0 x1 x2 x3 x4 xs c0 c1 cs r0 r1 f0 f1 rs; obtain ⟨x0, x1, x2, x3, x4, xs⟩ := (HBX.out y1 Y1.out.1).cx; obtain ⟨c0, c1, cs⟩ := (HBX.out y1 Y1.out.1).co; obtain ⟨r0, r1, f0, f1, rs⟩ := (HBX.out y1 Y1.out.1).cr; simp only at x0 x1 x2 x3 x4; clear hy hh))
  go_wp2
  obtain ⟨z1, z2⟩ := HE.out y3 Y3.out
  generalize ((World.setCell y3 ⟨w.heap.size + 1 + 1, 0, none⟩ (.slice fo n fc)).setCell ⟨w.heap.size + 1 + 1, 1, none⟩ (.slice ao zs.length ac)) = Wf at *
  obtain ⟨u0, u1, _, _⟩ := cell_two z1
  exact bodyPost_ret (v := .tuple #[.agg #[.slice fo n fc, .slice ao zs.length ac], .bool true]) (by simp [results, Tryz.results10, go_sem, u0, u1]) rfl z2


set_option maxRecDepth 100000 in
set_option maxHeartbeats 4000000 in
theorem step_weight (h : Both PX B0 w pb n bs R zs (.slice fo n fc) (.slice ao zs.length ac)) (hz : zs.length ≤ 200000) (hT : ∀ wx, Below B0 w wx → HasType wx) (x y wt via : Int) :
    Calls Tryz.prog 10 #[.pointer (some ⟨pb, 0, none⟩), .agg #[.slice fo n fc, .slice ao zs.length ac], .agg #[.int .u8 5, .int .i64 x, .int .i64 y, .int .u64 wt, .int .i64 via]] w (StepPost PX B0 w pb n zs (.slice fo n fc) (.slice ao zs.length ac)) := by
  obtain ⟨W3, hW3⟩ : ∃ W3, ((w.alloc (.cells #[.slice fo n fc, .slice ao zs.length ac] 40)).alloc (.cells (opC (5, x, y, wt, via)) 45)).alloc (.cells #[.slice none 0 0, .slice none 0 0] 40) = W3 := ⟨_, rfl⟩
  obtain ⟨h3, b3, hwd, hbx, hp6⟩ := step_in h (5, x, y, wt, via) hW3
  have HW3 : Hid (((w.alloc (.cells #[.slice fo n fc, .slice ao zs.length ac] 40)).alloc (.cells #[.int .u8 5, .int .i64 x, .int .i64 y, .int .u64 wt, .int .i64 via] 45)).alloc (.cells #[.slice none 0 0, .slice none 0 0] 40) = W3) := hW3
  have HE : Hid (∀ wy, Below W3.heap.size W3 wy → ((wy.setCell ⟨w.heap.size + 1 + 1, 0, none⟩ (.slice fo n fc)).setCell ⟨w.heap.size + 1 + 1, 1, none⟩ (.slice ao zs.length ac)).heap[w.heap.size + 1 + 1]? = some (.cells #[.slice fo n fc, .slice ao zs.length ac] 40 (0, 0)) ∧ StepPost PX B0 w pb n zs (.slice fo n fc) (.slice ao zs.length ac) (.returned (.tuple #[.agg #[.slice fo n fc, .slice ao zs.length ac], .bool true])) ((wy.setCell ⟨w.heap.size + 1 + 1, 0, none⟩ (.slice fo n fc)).setCell ⟨w.heap.size + 1 + 1, 1, none⟩ (.slice ao zs.length ac))) := fun wy hb => step_same h _ hW3 hb
  have HNEW : Hid (type_of% (@step_new PX w B0 pb n bs R zs (.slice fo n fc) (.slice ao zs.length ac) h (5, x, y, wt, via) W3)) := @step_new PX w B0 pb n bs R zs (.slice fo n fc) (.slice ao zs.length ac) h (5, x, y, wt, via) W3
  have HNW3 : Hid (((w.alloc (.cells #[.slice fo n fc, .slice ao zs.length ac] 40)).alloc (.cells (opC (5, x, y, wt, via)) 45)).alloc (.cells #[.slice none 0 0, .slice none 0 0] 40) = W3) := hW3
  have HLX : Hid (∀ wx, Lies (wrapP PX w.heap.size W3) wx → Boxes wx w.heap.size (.slice fo n fc) (.slice ao zs.length ac) (5, x, y, wt, via)) := hbx
  have H3 : Hid (Both (wrapP PX w.heap.size W3) B0 W3 pb n bs R zs (.slice fo n fc) (.slice ao zs.length ac)) := h3
  have HBX : Hid (∀ wx, Below W3.heap.size W3 wx → Boxes wx w.heap.size (.slice fo n fc) (.slice ao zs.length ac) (5, x, y, wt, via)) := fun wx hb => hbx wx (h3.keep hb).ov.lies
  have HT : Hid (∀ wx, Below B0 w wx → HasType wx) := hT
  have HB3 : Hid (Below w.heap.size w W3 ∧ B0 ≤ w.heap.size) := ⟨b3, h.ov.size⟩
  obtain ⟨x0, x1, x2, x3, x4, xs⟩ := (HBX.out W3 (Below.refl _ _)).cx
  obtain ⟨c0, c1, cs⟩ := (HBX.out W3 (Below.refl _ _)).co
  obtain ⟨r0, r1, f0, f1, rs⟩ := (HBX.out W3 (Below.refl _ _)).cr
  simp only at x0 x1 x2 x3 x4
  have n1 : w.heap.size ≠ w.heap.size + 1 + 1 := by omega
  have n2 : w.heap.size + 1 + 1 ≠ w.heap.size := by omega
  have n3 : w.heap.size + 1 ≠ w.heap.size + 1 + 1 := by omega
  have n4 : w.heap.size + 1 + 1 ≠ w.heap.size + 1 := by omega
  have HW : Hid (type_of% (H3.out.ov.weight x y)) := H3.out.ov.weight x y
  have HWR : Hid (∀ wx, Below W3.heap.size W3 wx → Calls Tryz.prog 34 #[.agg #[.slice fo n fc, .slice ao zs.length ac], .int .i64 x, .int .i64 y] wx fun e w' => e = .returned (.tuple #[.int .u64 ((wtA zs x y).getD 0), .bool (wtA zs x y).isSome]) ∧ Below wx.heap.size wx w') := fun wx hb => rWeight11_calls _ ao ac zs x y wx (H3.out.keep hb).hasA4 (by omega) _ _ _ rfl
  have ew : weightM n bs R x y = wtA zs x y := H3.out.tie.weight H3.out.ov.inv x y
  rw [ew] at HW
  clear ew
  generalize (wtA zs x y).getD 0 = g0 at *
  generalize (wtA zs x y).isSome = g1 at *
  clear hW3 h3 b3 hwd hbx h hT hp6
  go_enter Tryz.func10, Tryz.ntmps10
  go_upto_region 1 with fail
  rw [HW3.out]
  clear HW3
  go_wp2_with fail
  refine HW.out.mono ?_
  rintro e y1 ⟨rfl, hy⟩
  have Y1 : Hid (Below W3.heap.size W3 y1) := hy
  clear hy
  clear x0 x1 x2 x3 x4 xs c0 c1 cs r0 r1 f0 f1 rs
  obtain ⟨x0, x1, x2, x3, x4, xs⟩ := (HBX.out y1 Y1.out).cx
  obtain ⟨c0, c1, cs⟩ := (HBX.out y1 Y1.out).co
  obtain ⟨r0, r1, f0, f1, rs⟩ := (HBX.out y1 Y1.out).cr
  simp only at x0 x1 x2 x3 x4
  go_wp2_with fail
  refine (HWR.out y1 Y1.out).mono ?_
  rintro e y2 ⟨rfl, hy⟩
  have Y2 : Hid (Below W3.heap.size W3 y2) := btr Y1.out hy
  clear hy
  clear x0 x1 x2 x3 x4 xs c0 c1 cs r0 r1 f0 f1 rs
  obtain ⟨x0, x1, x2, x3, x4, xs⟩ := (HBX.out y2 Y2.out).cx
  obtain ⟨c0, c1, cs⟩ := (HBX.out y2 Y2.out).co
  obtain ⟨r0, r1, f0, f1, rs⟩ := (HBX.out y2 Y2.out).cr
  simp only at x0 x1 x2 x3 x4
  go_wp2
  obtain ⟨z1, z2⟩ := HE.out y2 Y2.out
  generalize ((World.setCell y2 ⟨w.heap.size + 1 + 1, 0, none⟩ (.slice fo n fc)).setCell ⟨w.heap.size + 1 + 1, 1, none⟩ (.slice ao zs.length ac)) = Wf at *
  obtain ⟨u0, u1, _, _⟩ := cell_two z1
  exact bodyPost_ret (v := .tuple #[.agg #[.slice fo n fc, .slice ao zs.length ac], .bool true]) (by simp [results, Tryz.results10, go_sem, u0, u1]) rfl z2


set_option maxRecDepth 100000 in
set_option maxHeartbeats 4000000 in
theorem step_alive (h : Both PX B0 w pb n bs R zs (.slice fo n fc) (.slice ao zs.length ac)) (_hz : zs.length ≤ 200000) (hT : ∀ wx, Below B0 w wx → HasType wx) (x y wt via : Int) :
    Calls Tryz.prog 10 #[.pointer (some ⟨pb, 0, none⟩), .agg #[.slice fo n fc, .slice ao zs.length ac], .agg #[.int .u8 6, .int .i64 x, .int .i64 y, .int .u64 wt, .int .i64 via]] w (StepPost PX B0 w pb n zs (.slice fo n fc) (.slice ao zs.length ac)) := by
  obtain ⟨W3, hW3⟩ : ∃ W3, ((w.alloc (.cells #[.slice fo n fc, .slice ao zs.length ac] 40)).alloc (.cells (opC (6, x, y, wt, via)) 45)).alloc (.cells #[.slice none 0 0, .slice none 0 0] 40) = W3 := ⟨_, rfl⟩
  obtain ⟨h3, b3, hwd, hbx, hp6⟩ := step_in h (6, x, y, wt, via) hW3
  have HW3 : Hid (((w.alloc (.cells #[.slice fo n fc, .slice ao zs.length ac] 40)).alloc (.cells #[.int .u8 6, .int .i64 x, .int .i64 y, .int .u64 wt, .int .i64 via] 45)).alloc (.cells #[.slice none 0 0, .slice none 0 0] 40) = W3) := hW3
  have HE : Hid (∀ wy, Below W3.heap.size W3 wy → ((wy.setCell ⟨w.heap.size + 1 + 1, 0, none⟩ (.slice fo n fc)).setCell ⟨w.heap.size + 1 + 1, 1, none⟩ (.slice ao zs.length ac)).heap[w.heap.size + 1 + 1]? = some (.cells #[.slice fo n fc, .slice ao zs.length ac] 40 (0, 0)) ∧ StepPost PX B0 w pb n zs (.slice fo n fc) (.slice ao zs.length ac) (.returned (.tuple #[.agg #[.slice fo n fc, .slice ao zs.length ac], .bool true])) ((wy.setCell ⟨w.heap.size + 1 + 1, 0, none⟩ (.slice fo n fc)).setCell ⟨w.heap.size + 1 + 1, 1, none⟩ (.slice ao zs.length ac))) := fun wy hb => step_same h _ hW3 hb
  have HNEW : Hid (type_of% (@step_new PX w B0 pb n bs R zs (.slice fo n fc) (.slice ao zs.length ac) h (6, x, y, wt, via) W3)) := @step_new PX w B0 pb n bs R zs (.slice fo n fc) (.slice ao zs.length ac) h (6, x, y, wt, via) W3
  have HNW3 : Hid (((w.alloc (.cells #[.slice fo n fc, .slice ao zs.length ac] 40)).alloc (.cells (opC (6, x, y, wt, via)) 45)).alloc (.cells #[.slice none 0 0, .slice none 0 0] 40) = W3) := hW3
  have HLX : Hid (∀ wx, Lies (wrapP PX w.heap.size W3) wx → Boxes wx w.heap.size (.slice fo n fc) (.slice ao zs.length ac) (6, x, y, wt, via)) := hbx
  have H3 : Hid (Both (wrapP PX w.heap.size W3) B0 W3 pb n bs R zs (.slice fo n fc) (.slice ao zs.length ac)) := h3
  have HBX : Hid (∀ wx, Below W3.heap.size W3 wx → Boxes wx w.heap.size (.slice fo n fc) (.slice ao zs.length ac) (6, x, y, wt, via)) := fun wx hb => hbx wx (h3.keep hb).ov.lies
  have HT : Hid (∀ wx, Below B0 w wx → HasType wx) := hT
  have HB3 : Hid (Below w.heap.size w W3 ∧ B0 ≤ w.heap.size) := ⟨b3, h.ov.size⟩
  obtain ⟨x0, x1, x2, x3, x4, xs⟩ := (HBX.out W3 (Below.refl _ _)).cx
  obtain ⟨c0, c1, cs⟩ := (HBX.out W3 (Below.refl _ _)).co
  obtain ⟨r0, r1, f0, f1, rs⟩ := (HBX.out W3 (Below.refl _ _)).cr
  simp only at x0 x1 x2 x3 x4
  have n1 : w.heap.size ≠ w.heap.size + 1 + 1 := by omega
  have n2 : w.heap.size + 1 + 1 ≠ w.heap.size := by omega
  have n3 : w.heap.size + 1 ≠ w.heap.size + 1 + 1 := by omega
  have n4 : w.heap.size + 1 + 1 ≠ w.heap.size + 1 := by omega
  obtain ⟨b, hb⟩ : ∃ b, aliveB n bs x = b := ⟨_, rfl⟩
  have HO : Hid (∀ wx, Below W3.heap.size W3 wx → Calls Tryz.prog 20 #[.pointer (some ⟨pb, 0, none⟩), .int .i64 x] wx fun e w' => e = .returned (.bool b) ∧ w' = wx) := fun wx hw => by
    have q := (H3.out.keep hw).ov.alive x
    rw [hb] at q
    exact q
  have HRO : Hid (∀ wx, Below W3.heap.size W3 wx → Calls Tryz.prog 31 #[.agg #[.slice fo n fc, .slice ao zs.length ac], .int .i64 x] wx fun e w' => e = .returned (.bool b) ∧ Below wx.heap.size wx w') := fun wx hw => by
    have q := lives_calls fo fc n bs H3.out.ov.bl.1 ao zs.length ac x wx (H3.out.keep hw).hasFl H3.out.ov.bl.2
    rw [hb] at q
    exact q
  clear hb
  clear hW3 h3 b3 hwd hbx h hT hp6
  go_enter Tryz.func10, Tryz.ntmps10
  go_upto_region 1 with fail
  rw [HW3.out]
  clear HW3
  go_upto_region 23 with fail
  go_region_held3 (fun w' => w'.cell? ⟨w.heap.size, 0, none⟩ = some (.slice fo n fc) ∧ w'.cell? ⟨w.heap.size, 1, none⟩ = some (.slice ao zs.length ac) ∧ w'.cell? ⟨w.heap.size + 1, 1, none⟩ = some (.int .i64 x)) (go_keep) (first
    | (go_at_call 31; refine (HRO.out _ Y1.out).mono ?_; rintro e y2 ⟨rfl, hy⟩; have Y2 : Hid (Below W3.heap.size W3 y2) := btr Y1.out hy; clear x0 x1 x2 x3 x4 xs c0 c1 cs r0 r1 f0 f1 rs; obtain ⟨x0, x1, x2, x3, x4, xs⟩ := (HBX.out y2 Y2.out).cx; obtain ⟨c0, c1, cs⟩ := (HBX.out y2 Y2.out).co; obtain ⟨r0, r1, f0, f1, rs⟩ := (HBX.out y2 Y2.out).cr; simp only at x0 x1 x2 x3 x4; clear hy)
    | (go_at_call 20; refine (HO.out _ (Below.refl _ _).drew).mono ?_; rintro e y1 ⟨rfl, hy⟩; have Y1 : Hid (Below W3.heap.size W3 y1) := (by subst hy; exact (Below.refl _ _).drew); clear x0 x1 x2 x3 x4 xs c0 c1 cs r0 r1 f0 f1 rs; obtain ⟨x0, x1, x2, x3, x4, xs⟩ := (HBX.out y1 Y1.out).cx; obtain ⟨c0, c1, cs⟩ := (HBX.out y1 Y1.out).co; obtain ⟨r0, r1, f0, f1, rs⟩ := (HBX.out y1 Y1.out).cr; simp only at x0 x1 x2 x3 x4; clear hy))
  cases b <;> go_wp2
  all_goals
    obtain ⟨z1, z2⟩ := HE.out y2 Y2.out
    generalize ((World.setCell y2 ⟨w.heap.size + 1 + 1, 0, none⟩ (.slice fo n fc)).setCell ⟨w.heap.size + 1 + 1, 1, none⟩ (.slice ao zs.length ac)) = Wf at *
    obtain ⟨u0, u1, _, _⟩ := cell_two z1
    exact bodyPost_ret (v := .tuple #[.agg #[.slice fo n fc, .slice ao zs.length ac], .bool true]) (by simp [results, Tryz.results10, go_sem, u0, u1]) rfl z2


set_option maxRecDepth 100000 in
set_option maxHeartbeats 4000000 in
theorem step_len (h : Both PX B0 w pb n bs R zs (.slice fo n fc) (.slice ao zs.length ac)) (_hz : zs.length ≤ 200000) (hT : ∀ wx, Below B0 w wx → HasType wx) (x y wt via : Int) :
    Calls Tryz.prog 10 #[.pointer (some ⟨pb, 0, none⟩), .agg #[.slice fo n fc, .slice ao zs.length ac], .agg #[.int .u8 7, .int .i64 x, .int .i64 y, .int .u64 wt, .int .i64 via]] w (StepPost PX B0 w pb n zs (.slice fo n fc) (.slice ao zs.length ac)) := by
  obtain ⟨W3, hW3⟩ : ∃ W3, ((w.alloc (.cells #[.slice fo n fc, .slice ao zs.length ac] 40)).alloc (.cells (opC (7, x, y, wt, via)) 45)).alloc (.cells #[.slice none 0 0, .slice none 0 0] 40) = W3 := ⟨_, rfl⟩
  obtain ⟨h3, b3, hwd, hbx, hp6⟩ := step_in h (7, x, y, wt, via) hW3
  have HW3 : Hid (((w.alloc (.cells #[.slice fo n fc, .slice ao zs.length ac] 40)).alloc (.cells #[.int .u8 7, .int .i64 x, .int .i64 y, .int .u64 wt, .int .i64 via] 45)).alloc (.cells #[.slice none 0 0, .slice none 0 0] 40) = W3) := hW3
  have HE : Hid (∀ wy, Below W3.heap.size W3 wy → ((wy.setCell ⟨w.heap.size + 1 + 1, 0, none⟩ (.slice fo n fc)).setCell ⟨w.heap.size + 1 + 1, 1, none⟩ (.slice ao zs.length ac)).heap[w.heap.size + 1 + 1]? = some (.cells #[.slice fo n fc, .slice ao zs.length ac] 40 (0, 0)) ∧ StepPost PX B0 w pb n zs (.slice fo n fc) (.slice ao zs.length ac) (.returned (.tuple #[.agg #[.slice fo n fc, .slice ao zs.length ac], .bool true])) ((wy.setCell ⟨w.heap.size + 1 + 1, 0, none⟩ (.slice fo n fc)).setCell ⟨w.heap.size + 1 + 1, 1, none⟩ (.slice ao zs.length ac))) := fun wy hb => step_same h _ hW3 hb
  have HNEW : Hid (type_of% (@step_new PX w B0 pb n bs R zs (.slice fo n fc) (.slice ao zs.length ac) h (7, x, y, wt, via) W3)) := @step_new PX w B0 pb n bs R zs (.slice fo n fc) (.slice ao zs.length ac) h (7, x, y, wt, via) W3
  have HNW3 : Hid (((w.alloc (.cells #[.slice fo n fc, .slice ao zs.length ac] 40)).alloc (.cells (opC (7, x, y, wt, via)) 45)).alloc (.cells #[.slice none 0 0, .slice none 0 0] 40) = W3) := hW3
  have HLX : Hid (∀ wx, Lies (wrapP PX w.heap.size W3) wx → Boxes wx w.heap.size (.slice fo n fc) (.slice ao zs.length ac) (7, x, y, wt, via)) := hbx
  have H3 : Hid (Both (wrapP PX w.heap.size W3) B0 W3 pb n bs R zs (.slice fo n fc) (.slice ao zs.length ac)) := h3
  have HBX : Hid (∀ wx, Below W3.heap.size W3 wx → Boxes wx w.heap.size (.slice fo n fc) (.slice ao zs.length ac) (7, x, y, wt, via)) := fun wx hb => hbx wx (h3.keep hb).ov.lies
  have HT : Hid (∀ wx, Below B0 w wx → HasType wx) := hT
  have HB3 : Hid (Below w.heap.size w W3 ∧ B0 ≤ w.heap.size) := ⟨b3, h.ov.size⟩
  obtain ⟨x0, x1, x2, x3, x4, xs⟩ := (HBX.out W3 (Below.refl _ _)).cx
  obtain ⟨c0, c1, cs⟩ := (HBX.out W3 (Below.refl _ _)).co
  obtain ⟨r0, r1, f0, f1, rs⟩ := (HBX.out W3 (Below.refl _ _)).cr
  simp only at x0 x1 x2 x3 x4
  have n1 : w.heap.size ≠ w.heap.size + 1 + 1 := by omega
  have n2 : w.heap.size + 1 + 1 ≠ w.heap.size := by omega
  have n3 : w.heap.size + 1 ≠ w.heap.size + 1 + 1 := by omega
  have n4 : w.heap.size + 1 + 1 ≠ w.heap.size + 1 := by omega
  have HO : Hid (∀ wx, Below W3.heap.size W3 wx → Calls Tryz.prog 16 #[.pointer (some ⟨pb, 0, none⟩)] wx fun e w' => e = .returned (.int .i64 ((aliveN n bs : Nat) : Int)) ∧ w' = wx) := fun wx hw => (H3.out.keep hw).ov.len
  have HA : Hid (∀ wx, Below W3.heap.size W3 wx → Calls Tryz.prog 17 #[.pointer (some ⟨pb, 0, none⟩)] wx fun e w' => e = .returned (.int .i64 ((zs.length : Nat) : Int)) ∧ w' = wx) := fun wx hw => (H3.out.keep hw).ov.narcs
  have HRO : Hid (∀ wx, Below W3.heap.size W3 wx → Calls Tryz.prog 35 #[.agg #[.slice fo n fc, .slice ao zs.length ac]] wx fun e w' => e = .returned (.int .i64 ((aliveN n bs : Nat) : Int)) ∧ Below wx.heap.size wx w') := fun wx hw => rLen11_calls fo fc n bs H3.out.ov.bl.1 ao zs.length ac wx (H3.out.keep hw).hasFl H3.out.ov.bl.2
  generalize aliveN n bs = A at *
  clear hW3 h3 b3 hwd hbx h hT hp6
  go_enter Tryz.func10, Tryz.ntmps10
  go_upto_region 1 with fail
  rw [HW3.out]
  clear HW3
  go_upto_region 25 with fail
  go_region_held3 (fun w' => w'.cell? ⟨w.heap.size, 0, none⟩ = some (.slice fo n fc) ∧ w'.cell? ⟨w.heap.size, 1, none⟩ = some (.slice ao zs.length ac) ∧ w'.cell? ⟨w.heap.size + 1, 1, none⟩ = some (.int .i64 x)) (go_keep) (first
    | (go_at_call 17; refine (HA.out _ Y2.out).mono ?_; rintro e y3 ⟨rfl, hy⟩; have Y3 : Hid (Below W3.heap.size W3 y3) := (by subst hy; exact Y2.out); clear x0 x1 x2 x3 x4 xs c0 c1 cs r0 r1 f0 f1 rs; obtain ⟨x0, x1, x2, x3, x4, xs⟩ := (HBX.out y3 Y3.out).cx; obtain ⟨c0, c1, cs⟩ := (HBX.out y3 Y3.out).co; obtain ⟨r0, r1, f0, f1, rs⟩ := (HBX.out y3 Y3.out).cr; simp only at x0 x1 x2 x3 x4; clear hy)
    | (go_at_call 35; refine (HRO.out _ Y1.out).mono ?_; rintro e y2 ⟨rfl, hy⟩; have Y2 : Hid (Below W3.heap.size W3 y2) := btr Y1.out hy; clear x0 x1 x2 x3 x4 xs c0 c1 cs r0 r1 f0 f1 rs; obtain ⟨x0, x1, x2, x3, x4, xs⟩ := (HBX.out y2 Y2.out).cx; obtain ⟨c0, c1, cs⟩ := (HBX.out y2 Y2.out).co; obtain ⟨r0, r1, f0, f1, rs⟩ := (HBX.out y2 Y2.out).cr; simp only at x0 x1 x2 x3 x4; clear hy)
    | (go_at_call 16; refine (HO.out _ (Below.refl _ _).drew).mono ?_; rintro e y1 ⟨rfl, hy⟩; have Y1 : Hid (Below W3.heap.size W3 y1) := (by subst hy; exact (Below.refl _ _).drew); clear x0 x1 x2 x3 x4 xs c0 c1 cs r0 r1 f0 f1 rs; obtain ⟨x0, x1, x2, x3, x4, xs⟩ := (HBX.out y1 Y1.out).cx; obtain ⟨c0, c1, cs⟩ := (HBX.out y1 Y1.out).co; obtain ⟨r0, r1, f0, f1, rs⟩ := (HBX.out y1 Y1.out).cr; simp only at x0 x1 x2 x3 x4; clear hy))
  go_wp2
  obtain ⟨z1, z2⟩ := HE.out y3 Y3.out
  generalize ((World.setCell y3 ⟨w.heap.size + 1 + 1, 0, none⟩ (.slice fo n fc)).setCell ⟨w.heap.size + 1 + 1, 1, none⟩ (.slice ao zs.length ac)) = Wf at *
  obtain ⟨u0, u1, _, _⟩ := cell_two z1
  exact bodyPost_ret (v := .tuple #[.agg #[.slice fo n fc, .slice ao zs.length ac], .bool true]) (by simp [results, Tryz.results10, go_sem, u0, u1]) rfl z2

end
end Go.Proofs.YtnclegldhafaeaaGreatDoor

namespace Go.Proofs.YtnclegldhafaeaaGreatDoor
open Go.RowKit Go.Extern Go.Sort

attribute [local go_sem] Oper.semAt_some

section
variable {PX : Nat → Option Obj} {w : World} {B0 pb n : Nat} {bs : List Bool} {R : Bool → Nat → Rw} {zs : List A4} {fo ao : Option Addr} {fc ac : Nat}
theorem Both.putNew {av lv : Value} (h : Both PX B0 w pb n bs R zs av lv) (hz : zs.length ≤ 200000) (x y wt via : Int) (hc : putErr n bs x y wt via = 0) (hk : ∀ k, weightM n bs R x y = some k → wt < k) :
    Calls Tryz.prog 19 #[.pointer (some ⟨pb, 0, none⟩), .int .i64 x, .int .i64 y, .int .u64 wt, .int .i64 via] w fun e w' => ∃ R', e = .returned (.tuple #[.bool true, .nilIface]) ∧ IsOv PX B0 w' pb n bs R' ((aliveN n bs : Nat) : Int) (((putZ zs (x, y, wt, via)).length : Nat) : Int) ∧ Tied n bs R' (putZ zs (x, y, wt, via)) ∧ Below B0 w w' := by
  refine (h.ov.put x y wt via (by omega)).mono ?_
  rintro e w' (⟨c, h0, h1, _⟩ | ⟨k, h1, h2, _⟩ | ⟨a, b, v1, v2, rfl, rfl, h3, ⟨han, hbn, la, lb⟩, rfl, hO, hb⟩)
  · exact absurd (h1.symm.trans hc) h0
  · have := hk k h1
    omega
  · have hab : a ≠ b := by
      obtain ⟨a', b', e1, e2, _, _, h4, _, _⟩ := putErr_zero hc
      intro e
      apply h4
      omega
    have ht := h.tie.put h.ov.inv han hbn hab la lb wt via v1 v2
    have e1 := ht.arcs hO.inv
    have e2 := arcSum_put h.ov.inv han hbn la lb wt via v1 v2
    have e3 := h.tie.arcs h.ov.inv
    refine ⟨_, rfl, ?_, ht, hb⟩
    have e4 : ((zs.length : Nat) : Int) + (if (weightM n bs R (a : Int) (b : Int)).isNone then 1 else 0) = (((putZ zs ((a : Int), (b : Int), wt, via)).length : Nat) : Int) := by
      rw [← e1, e2, e3]
      split <;> simp
    rw [← e4]
    exact hO
theorem Both.remYes {av lv : Value} (h : Both PX B0 w pb n bs R zs av lv) (hz : zs.length ≤ 200000) (x : Int) (hx : aliveB n bs x = true) :
    Calls Tryz.prog 18 #[.pointer (some ⟨pb, 0, none⟩), .int .i64 x] w fun e w' => ∃ (u : Nat) (R' : Bool → Nat → Rw), x = (u : Int) ∧ u < n ∧ e = .returned .nilIface ∧ IsOv PX B0 w' pb n (bs.set u false) R' ((aliveN n (bs.set u false) : Nat) : Int) (((remZ zs (u : Int)).length : Nat) : Int) ∧ Tied n (bs.set u false) R' (remZ zs (u : Int)) ∧ Below B0 w w' := by
  have hA : aliveN n bs ≤ n * 1 := sumN_le n _ 1 (fun i _ => by split <;> omega)
  have hn := h.ov.bl.2
  refine (h.ov.remove x (by omega) (by omega)).mono ?_
  rintro e w' (⟨h1, _⟩ | ⟨_, u, R', rfl, hu, lu, rfl, hO, hL, hb⟩)
  · rw [hx] at h1
    cases h1
  · have ht := h.tie.remove hu hL
    have e1 := ht.arcs hO.inv
    have e2 := arcSum_remove h.ov.inv hu lu hL
    have e3 := h.tie.arcs h.ov.inv
    have e4 := aliveN_remove hu lu
    refine ⟨u, R', rfl, hu, rfl, ?_, ht, hb⟩
    have e5 : ((zs.length : Nat) : Int) - ((livH bs (R false u).2.1).length : Int) - ((livH bs (R true u).2.1).length : Int) = (((remZ zs (u : Int)).length : Nat) : Int) := by omega
    have e6 : ((aliveN n bs : Nat) : Int) - 1 = ((aliveN n (bs.set u false) : Nat) : Int) := by omega
    rw [← e5, ← e6]
    exact hO


set_option maxRecDepth 100000 in
set_option maxHeartbeats 4000000 in
theorem step_put_bad (h : Both PX B0 w pb n bs R zs (.slice fo n fc) (.slice ao zs.length ac)) (_hz : zs.length ≤ 200000) (hT : ∀ wx, Below B0 w wx → HasType wx) (x y wt via : Int) (c : Int) (hc : putErr n bs x y wt via = c) (h0 : c ≠ 0) :
    Calls Tryz.prog 10 #[.pointer (some ⟨pb, 0, none⟩), .agg #[.slice fo n fc, .slice ao zs.length ac], .agg #[.int .u8 1, .int .i64 x, .int .i64 y, .int .u64 wt, .int .i64 via]] w (StepPost PX B0 w pb n zs (.slice fo n fc) (.slice ao zs.length ac)) := by
  obtain ⟨W3, hW3⟩ : ∃ W3, ((w.alloc (.cells #[.slice fo n fc, .slice ao zs.length ac] 40)).alloc (.cells (opC (1, x, y, wt, via)) 45)).alloc (.cells #[.slice none 0 0, .slice none 0 0] 40) = W3 := ⟨_, rfl⟩
  obtain ⟨h3, b3, hwd, hbx, hp6⟩ := step_in h (1, x, y, wt, via) hW3
  have HW3 : Hid (((w.alloc (.cells #[.slice fo n fc, .slice ao zs.length ac] 40)).alloc (.cells #[.int .u8 1, .int .i64 x, .int .i64 y, .int .u64 wt, .int .i64 via] 45)).alloc (.cells #[.slice none 0 0, .slice none 0 0] 40) = W3) := hW3
  have HE : Hid (∀ wy, Below W3.heap.size W3 wy → ((wy.setCell ⟨w.heap.size + 1 + 1, 0, none⟩ (.slice fo n fc)).setCell ⟨w.heap.size + 1 + 1, 1, none⟩ (.slice ao zs.length ac)).heap[w.heap.size + 1 + 1]? = some (.cells #[.slice fo n fc, .slice ao zs.length ac] 40 (0, 0)) ∧ StepPost PX B0 w pb n zs (.slice fo n fc) (.slice ao zs.length ac) (.returned (.tuple #[.agg #[.slice fo n fc, .slice ao zs.length ac], .bool true])) ((wy.setCell ⟨w.heap.size + 1 + 1, 0, none⟩ (.slice fo n fc)).setCell ⟨w.heap.size + 1 + 1, 1, none⟩ (.slice ao zs.length ac))) := fun wy hb => step_same h _ hW3 hb
  have HNEW : Hid (type_of% (@step_new PX w B0 pb n bs R zs (.slice fo n fc) (.slice ao zs.length ac) h (1, x, y, wt, via) W3)) := @step_new PX w B0 pb n bs R zs (.slice fo n fc) (.slice ao zs.length ac) h (1, x, y, wt, via) W3
  have HNW3 : Hid (((w.alloc (.cells #[.slice fo n fc, .slice ao zs.length ac] 40)).alloc (.cells (opC (1, x, y, wt, via)) 45)).alloc (.cells #[.slice none 0 0, .slice none 0 0] 40) = W3) := hW3
  have HLX : Hid (∀ wx, Lies (wrapP PX w.heap.size W3) wx → Boxes wx w.heap.size (.slice fo n fc) (.slice ao zs.length ac) (1, x, y, wt, via)) := hbx
  have H3 : Hid (Both (wrapP PX w.heap.size W3) B0 W3 pb n bs R zs (.slice fo n fc) (.slice ao zs.length ac)) := h3
  have HBX : Hid (∀ wx, Below W3.heap.size W3 wx → Boxes wx w.heap.size (.slice fo n fc) (.slice ao zs.length ac) (1, x, y, wt, via)) := fun wx hb => hbx wx (h3.keep hb).ov.lies
  have HT : Hid (∀ wx, Below B0 w wx → HasType wx) := hT
  have HB3 : Hid (Below w.heap.size w W3 ∧ B0 ≤ w.heap.size) := ⟨b3, h.ov.size⟩
  obtain ⟨x0, x1, x2, x3, x4, xs⟩ := (HBX.out W3 (Below.refl _ _)).cx
  obtain ⟨c0, c1, cs⟩ := (HBX.out W3 (Below.refl _ _)).co
  obtain ⟨r0, r1, f0, f1, rs⟩ := (HBX.out W3 (Below.refl _ _)).cr
  simp only at x0 x1 x2 x3 x4
  have n1 : w.heap.size ≠ w.heap.size + 1 + 1 := by omega
  have n2 : w.heap.size + 1 + 1 ≠ w.heap.size := by omega
  have n3 : w.heap.size + 1 ≠ w.heap.size + 1 + 1 := by omega
  have n4 : w.heap.size + 1 + 1 ≠ w.heap.size + 1 := by omega
  have hF := H3.out.hasFl
  have HP : Hid (Calls Tryz.prog 19 #[.pointer (some ⟨pb, 0, none⟩), .int .i64 x, .int .i64 y, .int .u64 wt, .int .i64 via] W3 fun e w' => e = .returned (.tuple #[.bool false, .iface 73 (.int .i64 c)]) ∧ w' = W3) := H3.out.ov.putNo x y wt via c hc h0
  have HD : Hid (∀ wx, HasFl wx (.slice fo n fc) bs → Calls Tryz.prog 29 #[.agg #[.slice fo n fc, .slice ao zs.length ac], .int .i64 x, .int .i64 y, .int .u64 wt, .int .i64 via] wx fun e w' => e = .returned (.agg #[.int .i64 c, .slice none 0 0]) ∧ Below wx.heap.size wx w') := fun wx hf => by
    have q := rDocPut11_calls fo fc n bs H3.out.ov.bl.1 ao zs.length ac x y wt via wx hf H3.out.ov.bl.2
    rw [hc] at q
    exact q
  have HBD : Hid (∀ wx, Calls Tryz.prog 7 #[.agg #[.int .i64 c, .slice none 0 0]] wx fun e w' => e = .returned (.bool true) ∧ Below wx.heap.size wx w') := fun wx => by
    have q := bad_calls c none 0 0 wx
    rw [show ((c : Int) != 0 || decide (0 < 0)) = true by simp [h0]] at q
    exact q
  have HSN : Hid (∀ wx, Below W3.heap.size W3 wx → Calls Tryz.prog 8 #[.iface 73 (.int .i64 c), .agg #[.int .i64 c, .slice none 0 0]] wx fun e w' => e = .returned (.bool true) ∧ Below wx.heap.size wx w') := fun wx hb => seen_bare c h0 wx (HT.out wx ((HB3.out.1.trans (hb.mono HB3.out.1.size)).mono HB3.out.2))
  have HF : Hid (HasFl W3 (.slice fo n fc) bs) := hF
  clear hF hc
  clear hW3 h3 b3 hwd hbx h hT hp6
  go_enter Tryz.func10, Tryz.ntmps10
  go_upto_region 1 with fail
  rw [HW3.out]
  clear HW3
  go_wp2_with fail
  refine HP.out.mono ?_
  rintro e y1 ⟨rfl, hy⟩
  subst hy
  go_wp2_with fail
  refine (HD.out _ HF.out).mono ?_
  rintro e y2 ⟨rfl, hy⟩
  have Y2 : Hid (Below y1.heap.size y1 y2) := hy
  clear hy
  clear x0 x1 x2 x3 x4 xs c0 c1 cs r0 r1 f0 f1 rs
  obtain ⟨x0, x1, x2, x3, x4, xs⟩ := (HBX.out y2 Y2.out).cx
  obtain ⟨c0, c1, cs⟩ := (HBX.out y2 Y2.out).co
  obtain ⟨r0, r1, f0, f1, rs⟩ := (HBX.out y2 Y2.out).cr
  simp only at x0 x1 x2 x3 x4
  obtain ⟨W5, hW5⟩ : ∃ W5, y2.alloc (.cells #[.int .i64 c, .slice none 0 0] 34) = W5 := ⟨_, rfl⟩
  have HW5 : Hid (y2.alloc (.cells #[.int .i64 c, .slice none 0 0] 34) = W5) := hW5
  have b5 : Below y2.heap.size y2 W5 := by rw [← hW5]; exact bel_one _ _
  have k5 : W5.heap[y2.heap.size]? = some (.cells #[.int .i64 c, .slice none 0 0] 34) := by rw [← hW5]; exact heap_new _ _
  have HX5 : Hid (∀ wx, Below W5.heap.size W5 wx → Below y1.heap.size y1 wx ∧ wx.cell? ⟨y2.heap.size, 0, none⟩ = some (.int .i64 c) ∧ wx.cell? ⟨y2.heap.size, 1, none⟩ = some (.slice none 0 0) ∧ y2.heap.size < wx.heap.size) := fun wx hb => by
    have q := (hb.block _ (lt_of_get k5)).trans k5
    exact ⟨btr Y2.out (btr b5 hb), (cell_two q).1, (cell_two q).2.1, lt_of_get q⟩
  have NE : Hid (w.heap.size + 1 + 1 < y2.heap.size) := rs
  clear hW5 b5 k5
  obtain ⟨_, e0, e1, es⟩ := HX5.out W5 (Below.refl _ _)
  go_upto_region 5 with fail
  rw [HW5.out]
  clear x0 x1 x2 x3 x4 xs c0 c1 cs r0 r1 f0 f1 rs
  obtain ⟨x0, x1, x2, x3, x4, xs⟩ := (HBX.out W5 (HX5.out W5 (Below.refl _ _)).1).cx
  obtain ⟨c0, c1, cs⟩ := (HBX.out W5 (HX5.out W5 (Below.refl _ _)).1).co
  obtain ⟨r0, r1, f0, f1, rs⟩ := (HBX.out W5 (HX5.out W5 (Below.refl _ _)).1).cr
  simp only at x0 x1 x2 x3 x4
  go_wp2_with fail
  refine (HBD.out W5).mono ?_
  rintro e y6 ⟨rfl, hy⟩
  have Y6 : Hid (Below W5.heap.size W5 y6) := hy
  clear hy e0 e1 es
  obtain ⟨_, e0, e1, es⟩ := HX5.out y6 Y6.out
  clear x0 x1 x2 x3 x4 xs c0 c1 cs r0 r1 f0 f1 rs
  obtain ⟨x0, x1, x2, x3, x4, xs⟩ := (HBX.out y6 (HX5.out y6 Y6.out).1).cx
  obtain ⟨c0, c1, cs⟩ := (HBX.out y6 (HX5.out y6 Y6.out).1).co
  obtain ⟨r0, r1, f0, f1, rs⟩ := (HBX.out y6 (HX5.out y6 Y6.out).1).cr
  simp only at x0 x1 x2 x3 x4
  have n5 : y2.heap.size ≠ w.heap.size + 1 + 1 := by have := NE.out; omega
  have n6 : w.heap.size + 1 + 1 ≠ y2.heap.size := by have := NE.out; omega
  go_upto_region 6 with fail
  go_region_held3 (fun w' => w'.cell? ⟨w.heap.size, 0, none⟩ = some (.slice fo n fc) ∧ w'.cell? ⟨w.heap.size, 1, none⟩ = some (.slice ao zs.length ac) ∧ w'.cell? ⟨y2.heap.size, 0, none⟩ = some (.int .i64 c) ∧ w'.cell? ⟨y2.heap.size, 1, none⟩ = some (.slice none 0 0)) (go_keep) (first
    | (go_at_call 8; refine (HSN.out _ (HX5.out _ Y6.out.drew).1).mono ?_; rintro e y7 ⟨rfl, hy⟩; have Y7 : Hid (Below W5.heap.size W5 y7) := btr Y6.out.drew hy; clear e0 e1 es; obtain ⟨_, e0, e1, es⟩ := HX5.out y7 Y7.out; clear x0 x1 x2 x3 x4 xs c0 c1 cs r0 r1 f0 f1 rs; obtain ⟨x0, x1, x2, x3, x4, xs⟩ := (HBX.out y7 (HX5.out y7 Y7.out).1).cx; obtain ⟨c0, c1, cs⟩ := (HBX.out y7 (HX5.out y7 Y7.out).1).co; obtain ⟨r0, r1, f0, f1, rs⟩ := (HBX.out y7 (HX5.out y7 Y7.out).1).cr; simp only at x0 x1 x2 x3 x4; clear hy))
  go_wp2
  obtain ⟨z1, z2⟩ := HE.out y7 (HX5.out y7 Y7.out).1
  generalize ((World.setCell y7 ⟨w.heap.size + 1 + 1, 0, none⟩ (.slice fo n fc)).setCell ⟨w.heap.size + 1 + 1, 1, none⟩ (.slice ao zs.length ac)) = Wf at *
  obtain ⟨u0, u1, _, _⟩ := cell_two z1
  exact bodyPost_ret (v := .tuple #[.agg #[.slice fo n fc, .slice ao zs.length ac], .bool true]) (by simp [results, Tryz.results10, go_sem, u0, u1]) rfl z2


set_option maxRecDepth 100000 in
set_option maxHeartbeats 4000000 in
theorem step_put_keep (h : Both PX B0 w pb n bs R zs (.slice fo n fc) (.slice ao zs.length ac)) (hz : zs.length ≤ 200000) (hT : ∀ wx, Below B0 w wx → HasType wx) (x y wt via : Int) (hc : putErr n bs x y wt via = 0) (k : Int) (hw : weightM n bs R x y = some k) (hk : k ≤ wt) :
    Calls Tryz.prog 10 #[.pointer (some ⟨pb, 0, none⟩), .agg #[.slice fo n fc, .slice ao zs.length ac], .agg #[.int .u8 1, .int .i64 x, .int .i64 y, .int .u64 wt, .int .i64 via]] w (StepPost PX B0 w pb n zs (.slice fo n fc) (.slice ao zs.length ac)) := by
  obtain ⟨W3, hW3⟩ : ∃ W3, ((w.alloc (.cells #[.slice fo n fc, .slice ao zs.length ac] 40)).alloc (.cells (opC (1, x, y, wt, via)) 45)).alloc (.cells #[.slice none 0 0, .slice none 0 0] 40) = W3 := ⟨_, rfl⟩
  obtain ⟨h3, b3, hwd, hbx, hp6⟩ := step_in h (1, x, y, wt, via) hW3
  have HW3 : Hid (((w.alloc (.cells #[.slice fo n fc, .slice ao zs.length ac] 40)).alloc (.cells #[.int .u8 1, .int .i64 x, .int .i64 y, .int .u64 wt, .int .i64 via] 45)).alloc (.cells #[.slice none 0 0, .slice none 0 0] 40) = W3) := hW3
  have HE : Hid (∀ wy, Below W3.heap.size W3 wy → ((wy.setCell ⟨w.heap.size + 1 + 1, 0, none⟩ (.slice fo n fc)).setCell ⟨w.heap.size + 1 + 1, 1, none⟩ (.slice ao zs.length ac)).heap[w.heap.size + 1 + 1]? = some (.cells #[.slice fo n fc, .slice ao zs.length ac] 40 (0, 0)) ∧ StepPost PX B0 w pb n zs (.slice fo n fc) (.slice ao zs.length ac) (.returned (.tuple #[.agg #[.slice fo n fc, .slice ao zs.length ac], .bool true])) ((wy.setCell ⟨w.heap.size + 1 + 1, 0, none⟩ (.slice fo n fc)).setCell ⟨w.heap.size + 1 + 1, 1, none⟩ (.slice ao zs.length ac))) := fun wy hb => step_same h _ hW3 hb
  have HNEW : Hid (type_of% (@step_new PX w B0 pb n bs R zs (.slice fo n fc) (.slice ao zs.length ac) h (1, x, y, wt, via) W3)) := @step_new PX w B0 pb n bs R zs (.slice fo n fc) (.slice ao zs.length ac) h (1, x, y, wt, via) W3
  have HNW3 : Hid (((w.alloc (.cells #[.slice fo n fc, .slice ao zs.length ac] 40)).alloc (.cells (opC (1, x, y, wt, via)) 45)).alloc (.cells #[.slice none 0 0, .slice none 0 0] 40) = W3) := hW3
  have HLX : Hid (∀ wx, Lies (wrapP PX w.heap.size W3) wx → Boxes wx w.heap.size (.slice fo n fc) (.slice ao zs.length ac) (1, x, y, wt, via)) := hbx
  have H3 : Hid (Both (wrapP PX w.heap.size W3) B0 W3 pb n bs R zs (.slice fo n fc) (.slice ao zs.length ac)) := h3
  have HBX : Hid (∀ wx, Below W3.heap.size W3 wx → Boxes wx w.heap.size (.slice fo n fc) (.slice ao zs.length ac) (1, x, y, wt, via)) := fun wx hb => hbx wx (h3.keep hb).ov.lies
  have HT : Hid (∀ wx, Below B0 w wx → HasType wx) := hT
  have HB3 : Hid (Below w.heap.size w W3 ∧ B0 ≤ w.heap.size) := ⟨b3, h.ov.size⟩
  obtain ⟨x0, x1, x2, x3, x4, xs⟩ := (HBX.out W3 (Below.refl _ _)).cx
  obtain ⟨c0, c1, cs⟩ := (HBX.out W3 (Below.refl _ _)).co
  obtain ⟨r0, r1, f0, f1, rs⟩ := (HBX.out W3 (Below.refl _ _)).cr
  simp only at x0 x1 x2 x3 x4
  have n1 : w.heap.size ≠ w.heap.size + 1 + 1 := by omega
  have n2 : w.heap.size + 1 + 1 ≠ w.heap.size := by omega
  have n3 : w.heap.size + 1 ≠ w.heap.size + 1 + 1 := by omega
  have n4 : w.heap.size + 1 + 1 ≠ w.heap.size + 1 := by omega
  have hF := H3.out.hasFl
  have HP : Hid (type_of% (H3.out.ov.putKeep x y wt via hc k hw hk)) := H3.out.ov.putKeep x y wt via hc k hw hk
  have HD : Hid (∀ wx, HasFl wx (.slice fo n fc) bs → Calls Tryz.prog 29 #[.agg #[.slice fo n fc, .slice ao zs.length ac], .int .i64 x, .int .i64 y, .int .u64 wt, .int .i64 via] wx fun e w' => e = .returned (.agg #[.int .i64 0, .slice none 0 0]) ∧ Below wx.heap.size wx w') := fun wx hf => by
    have q := rDocPut11_calls fo fc n bs H3.out.ov.bl.1 ao zs.length ac x y wt via wx hf H3.out.ov.bl.2
    rw [hc] at q
    exact q
  have HBD : Hid (∀ wx, Calls Tryz.prog 7 #[.agg #[.int .i64 0, .slice none 0 0]] wx fun e w' => e = .returned (.bool false) ∧ Below wx.heap.size wx w') := fun wx => by
    have q := bad_calls 0 none 0 0 wx
    rw [show ((0 : Int) != 0 || decide (0 < 0)) = false by simp ] at q
    exact q
  have HPA : Hid (∀ wx, Below W3.heap.size W3 wx → Calls Tryz.prog 30 #[.agg #[.slice fo n fc, .slice ao zs.length ac], .agg #[.int .i64 x, .int .i64 y, .int .u64 wt, .int .i64 via]] wx fun e w' => e = .returned (.tuple #[.agg #[.slice fo n fc, .slice ao zs.length ac], .bool false]) ∧ Below wx.heap.size wx w') := fun wx hb => by
    refine (rPutA11_calls fo n fc ao ac zs (x, y, wt, via) wx (H3.out.keep hb).hasA4 (by omega)).mono ?_
    rintro e w' ⟨h1, ⟨_, rfl⟩ | ⟨h2, _⟩⟩
    · exact ⟨rfl, h1⟩
    · have q := H3.out.tie.weight H3.out.ov.inv x y
      rw [hw] at q
      cases hf : findA zs x y with
      | none => rw [hf] at q; cases q
      | some z =>
        rw [hf] at q
        obtain ⟨z1, z2, z3⟩ := findA_some hf
        have q3 := h2 z z1 z2 z3
        have q4 : k = z.2.2.1 := by simpa using q
        simp only at q3
        omega
  have HF : Hid (HasFl W3 (.slice fo n fc) bs) := hF
  clear hF hc hw hk
  clear hW3 h3 b3 hwd hbx h hT hp6
  go_enter Tryz.func10, Tryz.ntmps10
  go_upto_region 1 with fail
  rw [HW3.out]
  clear HW3
  go_wp2_with fail
  refine HP.out.mono ?_
  rintro e y1 ⟨rfl, hy⟩
  have Y1 : Hid (Below W3.heap.size W3 y1) := hy
  clear hy
  clear x0 x1 x2 x3 x4 xs c0 c1 cs r0 r1 f0 f1 rs
  obtain ⟨x0, x1, x2, x3, x4, xs⟩ := (HBX.out y1 Y1.out).cx
  obtain ⟨c0, c1, cs⟩ := (HBX.out y1 Y1.out).co
  obtain ⟨r0, r1, f0, f1, rs⟩ := (HBX.out y1 Y1.out).cr
  simp only at x0 x1 x2 x3 x4
  go_wp2_with fail
  refine (HD.out _ (HF.out.keep Y1.out)).mono ?_
  rintro e y2 ⟨rfl, hy⟩
  have Y2 : Hid (Below W3.heap.size W3 y2) := btr Y1.out hy
  clear hy
  clear x0 x1 x2 x3 x4 xs c0 c1 cs r0 r1 f0 f1 rs
  obtain ⟨x0, x1, x2, x3, x4, xs⟩ := (HBX.out y2 Y2.out).cx
  obtain ⟨c0, c1, cs⟩ := (HBX.out y2 Y2.out).co
  obtain ⟨r0, r1, f0, f1, rs⟩ := (HBX.out y2 Y2.out).cr
  simp only at x0 x1 x2 x3 x4
  obtain ⟨W5, hW5⟩ : ∃ W5, y2.alloc (.cells #[.int .i64 0, .slice none 0 0] 34) = W5 := ⟨_, rfl⟩
  have HW5 : Hid (y2.alloc (.cells #[.int .i64 0, .slice none 0 0] 34) = W5) := hW5
  have b5 : Below y2.heap.size y2 W5 := by rw [← hW5]; exact bel_one _ _
  have k5 : W5.heap[y2.heap.size]? = some (.cells #[.int .i64 0, .slice none 0 0] 34) := by rw [← hW5]; exact heap_new _ _
  have HX5 : Hid (∀ wx, Below W5.heap.size W5 wx → Below W3.heap.size W3 wx ∧ wx.cell? ⟨y2.heap.size, 0, none⟩ = some (.int .i64 0) ∧ wx.cell? ⟨y2.heap.size, 1, none⟩ = some (.slice none 0 0) ∧ y2.heap.size < wx.heap.size) := fun wx hb => by
    have q := (hb.block _ (lt_of_get k5)).trans k5
    exact ⟨btr Y2.out (btr b5 hb), (cell_two q).1, (cell_two q).2.1, lt_of_get q⟩
  clear hW5 b5 k5
  obtain ⟨_, e0, e1, es⟩ := HX5.out W5 (Below.refl _ _)
  go_upto_region 5 with fail
  rw [HW5.out]
  clear x0 x1 x2 x3 x4 xs c0 c1 cs r0 r1 f0 f1 rs
  obtain ⟨x0, x1, x2, x3, x4, xs⟩ := (HBX.out W5 (HX5.out W5 (Below.refl _ _)).1).cx
  obtain ⟨c0, c1, cs⟩ := (HBX.out W5 (HX5.out W5 (Below.refl _ _)).1).co
  obtain ⟨r0, r1, f0, f1, rs⟩ := (HBX.out W5 (HX5.out W5 (Below.refl _ _)).1).cr
  simp only at x0 x1 x2 x3 x4
  go_wp2_with fail
  refine (HBD.out W5).mono ?_
  rintro e y6 ⟨rfl, hy⟩
  have Y6 : Hid (Below W3.heap.size W3 y6) := (HX5.out y6 hy).1
  clear hy e0 e1 es
  clear x0 x1 x2 x3 x4 xs c0 c1 cs r0 r1 f0 f1 rs
  obtain ⟨x0, x1, x2, x3, x4, xs⟩ := (HBX.out y6 Y6.out).cx
  obtain ⟨c0, c1, cs⟩ := (HBX.out y6 Y6.out).co
  obtain ⟨r0, r1, f0, f1, rs⟩ := (HBX.out y6 Y6.out).cr
  simp only at x0 x1 x2 x3 x4
  go_wp2_with fail
  refine (HPA.out y6 Y6.out).mono ?_
  rintro e y7 ⟨rfl, hy⟩
  have Y7 : Hid (Below W3.heap.size W3 y7) := btr Y6.out hy
  clear hy
  clear x0 x1 x2 x3 x4 xs c0 c1 cs r0 r1 f0 f1 rs
  obtain ⟨x0, x1, x2, x3, x4, xs⟩ := (HBX.out y7 Y7.out).cx
  obtain ⟨c0, c1, cs⟩ := (HBX.out y7 Y7.out).co
  obtain ⟨r0, r1, f0, f1, rs⟩ := (HBX.out y7 Y7.out).cr
  simp only at x0 x1 x2 x3 x4
  have NE : Hid (w.heap.size + 1 + 1 < y7.heap.size) := rs
  obtain ⟨W8, hW8⟩ : ∃ W8, y7.alloc (.cells #[.slice fo n fc, .slice ao zs.length ac] 40) = W8 := ⟨_, rfl⟩
  have HW8 : Hid (y7.alloc (.cells #[.slice fo n fc, .slice ao zs.length ac] 40) = W8) := hW8
  have b8 : Below y7.heap.size y7 W8 := by rw [← hW8]; exact bel_one _ _
  have k8 : W8.heap[y7.heap.size]? = some (.cells #[.slice fo n fc, .slice ao zs.length ac] 40) := by rw [← hW8]; exact heap_new _ _
  have Y8 : Hid (Below W3.heap.size W3 W8) := btr Y7.out b8
  obtain ⟨d0, d1, _, _⟩ := cell_two k8
  have ds := lt_of_get k8
  clear hW8 b8 k8
  go_upto_region 8 with fail
  rw [HW8.out]
  clear x0 x1 x2 x3 x4 xs c0 c1 cs r0 r1 f0 f1 rs
  obtain ⟨x0, x1, x2, x3, x4, xs⟩ := (HBX.out W8 Y8.out).cx
  obtain ⟨c0, c1, cs⟩ := (HBX.out W8 Y8.out).co
  obtain ⟨r0, r1, f0, f1, rs⟩ := (HBX.out W8 Y8.out).cr
  simp only at x0 x1 x2 x3 x4
  have n5 : y7.heap.size ≠ w.heap.size + 1 + 1 := by have := NE.out; omega
  have n6 : w.heap.size + 1 + 1 ≠ y7.heap.size := by have := NE.out; omega
  go_region_held3 (fun w' => w'.cell? ⟨y7.heap.size, 0, none⟩ = some (.slice fo n fc) ∧ w'.cell? ⟨y7.heap.size, 1, none⟩ = some (.slice ao zs.length ac)) (go_keep) (fail)
  go_wp2
  rw [show ((World.setCell W8 ⟨w.heap.size + 1 + 1, 0, none⟩ (.slice fo n fc)).setCell ⟨w.heap.size + 1 + 1, 1, none⟩ (.slice ao zs.length ac)).drew = ((World.setCell W8.drew ⟨w.heap.size + 1 + 1, 0, none⟩ (.slice fo n fc)).setCell ⟨w.heap.size + 1 + 1, 1, none⟩ (.slice ao zs.length ac)) from rfl]
  obtain ⟨z1, z2⟩ := HE.out W8.drew Y8.out.drew
  generalize ((World.setCell W8.drew ⟨w.heap.size + 1 + 1, 0, none⟩ (.slice fo n fc)).setCell ⟨w.heap.size + 1 + 1, 1, none⟩ (.slice ao zs.length ac)) = Wf at *
  obtain ⟨u0, u1, _, _⟩ := cell_two z1
  exact bodyPost_ret (v := .tuple #[.agg #[.slice fo n fc, .slice ao zs.length ac], .bool true]) (by simp [results, Tryz.results10, go_sem, u0, u1]) rfl z2


set_option maxRecDepth 100000 in
set_option maxHeartbeats 4000000 in
theorem step_put_new (h : Both PX B0 w pb n bs R zs (.slice fo n fc) (.slice ao zs.length ac)) (hz : zs.length ≤ 200000) (hT : ∀ wx, Below B0 w wx → HasType wx) (x y wt via : Int) (hc : putErr n bs x y wt via = 0) (hk : ∀ k, weightM n bs R x y = some k → wt < k) :
    Calls Tryz.prog 10 #[.pointer (some ⟨pb, 0, none⟩), .agg #[.slice fo n fc, .slice ao zs.length ac], .agg #[.int .u8 1, .int .i64 x, .int .i64 y, .int .u64 wt, .int .i64 via]] w (StepPost PX B0 w pb n zs (.slice fo n fc) (.slice ao zs.length ac)) := by
  obtain ⟨W3, hW3⟩ : ∃ W3, ((w.alloc (.cells #[.slice fo n fc, .slice ao zs.length ac] 40)).alloc (.cells (opC (1, x, y, wt, via)) 45)).alloc (.cells #[.slice none 0 0, .slice none 0 0] 40) = W3 := ⟨_, rfl⟩
  obtain ⟨h3, b3, hwd, hbx, hp6⟩ := step_in h (1, x, y, wt, via) hW3
  have HW3 : Hid (((w.alloc (.cells #[.slice fo n fc, .slice ao zs.length ac] 40)).alloc (.cells #[.int .u8 1, .int .i64 x, .int .i64 y, .int .u64 wt, .int .i64 via] 45)).alloc (.cells #[.slice none 0 0, .slice none 0 0] 40) = W3) := hW3
  have HE : Hid (∀ wy, Below W3.heap.size W3 wy → ((wy.setCell ⟨w.heap.size + 1 + 1, 0, none⟩ (.slice fo n fc)).setCell ⟨w.heap.size + 1 + 1, 1, none⟩ (.slice ao zs.length ac)).heap[w.heap.size + 1 + 1]? = some (.cells #[.slice fo n fc, .slice ao zs.length ac] 40 (0, 0)) ∧ StepPost PX B0 w pb n zs (.slice fo n fc) (.slice ao zs.length ac) (.returned (.tuple #[.agg #[.slice fo n fc, .slice ao zs.length ac], .bool true])) ((wy.setCell ⟨w.heap.size + 1 + 1, 0, none⟩ (.slice fo n fc)).setCell ⟨w.heap.size + 1 + 1, 1, none⟩ (.slice ao zs.length ac))) := fun wy hb => step_same h _ hW3 hb
  have HNEW : Hid (type_of% (@step_new PX w B0 pb n bs R zs (.slice fo n fc) (.slice ao zs.length ac) h (1, x, y, wt, via) W3)) := @step_new PX w B0 pb n bs R zs (.slice fo n fc) (.slice ao zs.length ac) h (1, x, y, wt, via) W3
  have HNW3 : Hid (((w.alloc (.cells #[.slice fo n fc, .slice ao zs.length ac] 40)).alloc (.cells (opC (1, x, y, wt, via)) 45)).alloc (.cells #[.slice none 0 0, .slice none 0 0] 40) = W3) := hW3
  have HLX : Hid (∀ wx, Lies (wrapP PX w.heap.size W3) wx → Boxes wx w.heap.size (.slice fo n fc) (.slice ao zs.length ac) (1, x, y, wt, via)) := hbx
  have H3 : Hid (Both (wrapP PX w.heap.size W3) B0 W3 pb n bs R zs (.slice fo n fc) (.slice ao zs.length ac)) := h3
  have HBX : Hid (∀ wx, Below W3.heap.size W3 wx → Boxes wx w.heap.size (.slice fo n fc) (.slice ao zs.length ac) (1, x, y, wt, via)) := fun wx hb => hbx wx (h3.keep hb).ov.lies
  have HT : Hid (∀ wx, Below B0 w wx → HasType wx) := hT
  have HB3 : Hid (Below w.heap.size w W3 ∧ B0 ≤ w.heap.size) := ⟨b3, h.ov.size⟩
  obtain ⟨x0, x1, x2, x3, x4, xs⟩ := (HBX.out W3 (Below.refl _ _)).cx
  obtain ⟨c0, c1, cs⟩ := (HBX.out W3 (Below.refl _ _)).co
  obtain ⟨r0, r1, f0, f1, rs⟩ := (HBX.out W3 (Below.refl _ _)).cr
  simp only at x0 x1 x2 x3 x4
  have n1 : w.heap.size ≠ w.heap.size + 1 + 1 := by omega
  have n2 : w.heap.size + 1 + 1 ≠ w.heap.size := by omega
  have n3 : w.heap.size + 1 ≠ w.heap.size + 1 + 1 := by omega
  have n4 : w.heap.size + 1 + 1 ≠ w.heap.size + 1 := by omega
  have HP : Hid (type_of% (H3.out.putNew hz x y wt via hc hk)) := H3.out.putNew hz x y wt via hc hk
  have HD : Hid (∀ wx, HasFl wx (.slice fo n fc) bs → Calls Tryz.prog 29 #[.agg #[.slice fo n fc, .slice ao zs.length ac], .int .i64 x, .int .i64 y, .int .u64 wt, .int .i64 via] wx fun e w' => e = .returned (.agg #[.int .i64 0, .slice none 0 0]) ∧ Below wx.heap.size wx w') := fun wx hf => by
    have q := rDocPut11_calls fo fc n bs H3.out.ov.bl.1 ao zs.length ac x y wt via wx hf H3.out.ov.bl.2
    rw [hc] at q
    exact q
  have HBD : Hid (∀ wx, Calls Tryz.prog 7 #[.agg #[.int .i64 0, .slice none 0 0]] wx fun e w' => e = .returned (.bool false) ∧ Below wx.heap.size wx w') := fun wx => by
    have q := bad_calls 0 none 0 0 wx
    rw [show ((0 : Int) != 0 || decide (0 < 0)) = false by simp ] at q
    exact q
  have HPA : Hid (∀ wx, HasA4 wx (.slice ao zs.length ac) zs → Calls Tryz.prog 30 #[.agg #[.slice fo n fc, .slice ao zs.length ac], .agg #[.int .i64 x, .int .i64 y, .int .u64 wt, .int .i64 via]] wx fun e w' => ∃ so sc, e = .returned (.tuple #[.agg #[.slice fo n fc, .slice so (putZ zs (x, y, wt, via)).length sc], .bool true]) ∧ w'.ownsRow wx.heap.size 91 4 (.slice so (putZ zs (x, y, wt, via)).length sc) (putZ zs (x, y, wt, via)).length (flatA4 (putZ zs (x, y, wt, via))) ∧ Below wx.heap.size wx w') := fun wx ha => by
    refine (rPutA11_calls fo n fc ao ac zs (x, y, wt, via) wx ha (by omega)).mono ?_
    rintro e w' ⟨h1, ⟨h2, _⟩ | ⟨_, so, sc, rfl, h3⟩⟩
    · exfalso
      obtain ⟨z, z1, z2, z3, z4⟩ := h2
      simp only at z2 z3 z4
      have q := H3.out.tie.weight H3.out.ov.inv x y
      cases hf : findA zs x y with
      | none => exact findA_none hf z1 ⟨z2, z3⟩
      | some v =>
        rw [hf] at q
        obtain ⟨v1, v2, v3⟩ := findA_some hf
        have q2 := hk v.2.2.1 (by rw [q]; rfl)
        have q3 : v = z := by
          obtain ⟨i, hi⟩ := List.getElem?_of_mem v1
          obtain ⟨j, hj⟩ := List.getElem?_of_mem z1
          have hil := (List.getElem?_eq_some_iff.1 hi).1
          have hjl := (List.getElem?_eq_some_iff.1 hj).1
          have pw := List.pairwise_iff_getElem.1 H3.out.tie.one
          rcases Nat.lt_trichotomy i j with hij | hij | hij
          · have := pw i j hil hjl hij
            rw [(List.getElem?_eq_some_iff.1 hi).2, (List.getElem?_eq_some_iff.1 hj).2] at this
            exact absurd ⟨v2.trans z2.symm, v3.trans z3.symm⟩ this
          · subst hij
            rw [hi] at hj
            exact Option.some.inj hj
          · have := pw j i hjl hil hij
            rw [(List.getElem?_eq_some_iff.1 hi).2, (List.getElem?_eq_some_iff.1 hj).2] at this
            exact absurd ⟨z2.trans v2.symm, z3.trans v3.symm⟩ this
        rw [q3] at q2
        omega
    · exact ⟨so, sc, rfl, h3, h1⟩
  have HLEN : Hid ((putZ zs (x, y, wt, via)).length ≤ zs.length + 1) := putZ_len _
  obtain ⟨Z, hZ⟩ : ∃ Z, putZ zs (x, y, wt, via) = Z := ⟨_, rfl⟩
  rw [hZ] at HP HPA HLEN
  clear hc hk hZ
  clear hW3 h3 b3 hwd hbx h hT hp6
  go_enter Tryz.func10, Tryz.ntmps10
  go_upto_region 1 with fail
  rw [HW3.out]
  clear HW3
  go_wp2_with fail
  refine HP.out.mono ?_
  rintro e y1 ⟨R', rfl, hO, hti, hb⟩
  have hAf := H3.out.after hO
  have HO1 : Hid (IsOv (wrapP PX w.heap.size W3) B0 y1 pb n bs R' ((aliveN n bs : Nat) : Int) ((Z.length : Nat) : Int) ∧ Tied n bs R' Z ∧ Below B0 W3 y1) := ⟨hO, hti, hb⟩
  have HBY : Hid (∀ wx, Below y1.heap.size y1 wx → Boxes wx w.heap.size (.slice fo n fc) (.slice ao zs.length ac) (1, x, y, wt, via)) := fun wx hb => HLX.out wx (hO.keep hb).lies
  have HF : Hid (HasFl y1 (.slice fo n fc) bs) := fl_of_row H3.out.ov.bl.1 hAf.1
  have HA : Hid (HasA4 y1 (.slice ao zs.length ac) zs) := a4_of_row hAf.2
  clear hO hti hb hAf
  clear x0 x1 x2 x3 x4 xs c0 c1 cs r0 r1 f0 f1 rs
  obtain ⟨x0, x1, x2, x3, x4, xs⟩ := (HBY.out y1 (Below.refl _ _)).cx
  obtain ⟨c0, c1, cs⟩ := (HBY.out y1 (Below.refl _ _)).co
  obtain ⟨r0, r1, f0, f1, rs⟩ := (HBY.out y1 (Below.refl _ _)).cr
  simp only at x0 x1 x2 x3 x4
  go_wp2_with fail
  refine (HD.out _ HF.out).mono ?_
  rintro e y2 ⟨rfl, hy⟩
  have Y2 : Hid (Below y1.heap.size y1 y2) := hy
  clear hy
  clear x0 x1 x2 x3 x4 xs c0 c1 cs r0 r1 f0 f1 rs
  obtain ⟨x0, x1, x2, x3, x4, xs⟩ := (HBY.out y2 Y2.out).cx
  obtain ⟨c0, c1, cs⟩ := (HBY.out y2 Y2.out).co
  obtain ⟨r0, r1, f0, f1, rs⟩ := (HBY.out y2 Y2.out).cr
  simp only at x0 x1 x2 x3 x4
  obtain ⟨W5, hW5⟩ : ∃ W5, y2.alloc (.cells #[.int .i64 0, .slice none 0 0] 34) = W5 := ⟨_, rfl⟩
  have HW5 : Hid (y2.alloc (.cells #[.int .i64 0, .slice none 0 0] 34) = W5) := hW5
  have b5 : Below y2.heap.size y2 W5 := by rw [← hW5]; exact bel_one _ _
  have k5 : W5.heap[y2.heap.size]? = some (.cells #[.int .i64 0, .slice none 0 0] 34) := by rw [← hW5]; exact heap_new _ _
  have HX5 : Hid (∀ wx, Below W5.heap.size W5 wx → Below y1.heap.size y1 wx ∧ wx.cell? ⟨y2.heap.size, 0, none⟩ = some (.int .i64 0) ∧ wx.cell? ⟨y2.heap.size, 1, none⟩ = some (.slice none 0 0) ∧ y2.heap.size < wx.heap.size) := fun wx hb => by
    have q := (hb.block _ (lt_of_get k5)).trans k5
    exact ⟨btr Y2.out (btr b5 hb), (cell_two q).1, (cell_two q).2.1, lt_of_get q⟩
  clear hW5 b5 k5
  obtain ⟨_, e0, e1, es⟩ := HX5.out W5 (Below.refl _ _)
  go_upto_region 5 with fail
  rw [HW5.out]
  clear x0 x1 x2 x3 x4 xs c0 c1 cs r0 r1 f0 f1 rs
  obtain ⟨x0, x1, x2, x3, x4, xs⟩ := (HBY.out W5 (HX5.out W5 (Below.refl _ _)).1).cx
  obtain ⟨c0, c1, cs⟩ := (HBY.out W5 (HX5.out W5 (Below.refl _ _)).1).co
  obtain ⟨r0, r1, f0, f1, rs⟩ := (HBY.out W5 (HX5.out W5 (Below.refl _ _)).1).cr
  simp only at x0 x1 x2 x3 x4
  go_wp2_with fail
  refine (HBD.out W5).mono ?_
  rintro e y6 ⟨rfl, hy⟩
  have Y6 : Hid (Below y1.heap.size y1 y6) := (HX5.out y6 hy).1
  clear hy e0 e1 es
  clear x0 x1 x2 x3 x4 xs c0 c1 cs r0 r1 f0 f1 rs
  obtain ⟨x0, x1, x2, x3, x4, xs⟩ := (HBY.out y6 Y6.out).cx
  obtain ⟨c0, c1, cs⟩ := (HBY.out y6 Y6.out).co
  obtain ⟨r0, r1, f0, f1, rs⟩ := (HBY.out y6 Y6.out).cr
  simp only at x0 x1 x2 x3 x4
  go_wp2_with fail
  refine (HPA.out y6 (HA.out.keep Y6.out)).mono ?_
  rintro e y7 ⟨so, sc, rfl, hrow, hy⟩
  have Y7 : Hid (Below y1.heap.size y1 y7 ∧ y7.ownsRow y1.heap.size 91 4 (.slice so Z.length sc) Z.length (flatA4 Z)) := ⟨btr Y6.out hy, rowX_base hrow Y6.out.size⟩
  clear hy hrow
  clear x0 x1 x2 x3 x4 xs c0 c1 cs r0 r1 f0 f1 rs
  obtain ⟨x0, x1, x2, x3, x4, xs⟩ := (HBY.out y7 Y7.out.1).cx
  obtain ⟨c0, c1, cs⟩ := (HBY.out y7 Y7.out.1).co
  obtain ⟨r0, r1, f0, f1, rs⟩ := (HBY.out y7 Y7.out.1).cr
  simp only at x0 x1 x2 x3 x4
  have NE : Hid (w.heap.size + 1 + 1 < y7.heap.size) := rs
  obtain ⟨W8, hW8⟩ : ∃ W8, y7.alloc (.cells #[.slice fo n fc, .slice so Z.length sc] 40) = W8 := ⟨_, rfl⟩
  have HW8 : Hid (y7.alloc (.cells #[.slice fo n fc, .slice so Z.length sc] 40) = W8) := hW8
  have b8 : Below y7.heap.size y7 W8 := by rw [← hW8]; exact bel_one _ _
  have k8 : W8.heap[y7.heap.size]? = some (.cells #[.slice fo n fc, .slice so Z.length sc] 40) := by rw [← hW8]; exact heap_new _ _
  have Y8 : Hid (Below y1.heap.size y1 W8.drew ∧ W8.drew.ownsRow y1.heap.size 91 4 (.slice so Z.length sc) Z.length (flatA4 Z)) := ⟨(btr Y7.out.1 b8).drew, rowX_keep Y7.out.2 (fun g e => (b8.drew.block g (Y7.out.2.lt g e).2))⟩
  have Y8' : Hid (Below y1.heap.size y1 W8) := btr Y7.out.1 b8
  obtain ⟨d0, d1, _, _⟩ := cell_two k8
  have ds := lt_of_get k8
  clear hW8 b8 k8
  go_upto_region 8 with fail
  rw [HW8.out]
  clear x0 x1 x2 x3 x4 xs c0 c1 cs r0 r1 f0 f1 rs
  obtain ⟨x0, x1, x2, x3, x4, xs⟩ := (HBY.out W8 Y8'.out).cx
  obtain ⟨c0, c1, cs⟩ := (HBY.out W8 Y8'.out).co
  obtain ⟨r0, r1, f0, f1, rs⟩ := (HBY.out W8 Y8'.out).cr
  simp only at x0 x1 x2 x3 x4
  have n5 : y7.heap.size ≠ w.heap.size + 1 + 1 := by have := NE.out; omega
  have n6 : w.heap.size + 1 + 1 ≠ y7.heap.size := by have := NE.out; omega
  go_region_held3 (fun w' => w'.cell? ⟨y7.heap.size, 0, none⟩ = some (.slice fo n fc) ∧ w'.cell? ⟨y7.heap.size, 1, none⟩ = some (.slice so Z.length sc)) (go_keep) (fail)
  go_wp2
  rw [show ((World.setCell W8 ⟨w.heap.size + 1 + 1, 0, none⟩ (.slice fo n fc)).setCell ⟨w.heap.size + 1 + 1, 1, none⟩ (.slice so Z.length sc)).drew = ((World.setCell W8.drew ⟨w.heap.size + 1 + 1, 0, none⟩ (.slice fo n fc)).setCell ⟨w.heap.size + 1 + 1, 1, none⟩ (.slice so Z.length sc)) from rfl]
  obtain ⟨z1, z2⟩ := HNEW.out HNW3.out HO1.out.1 HO1.out.2.1 HO1.out.2.2 Y8.out.1 (Or.inl ⟨rfl, rfl⟩) Y8.out.2 HLEN.out
  generalize ((World.setCell W8.drew ⟨w.heap.size + 1 + 1, 0, none⟩ (.slice fo n fc)).setCell ⟨w.heap.size + 1 + 1, 1, none⟩ (.slice so Z.length sc)) = Wf at *
  obtain ⟨u0, u1, _, _⟩ := cell_two z1
  exact bodyPost_ret (v := .tuple #[.agg #[.slice fo n fc, .slice so Z.length sc], .bool true]) (by simp [results, Tryz.results10, go_sem, u0, u1]) rfl z2


set_option maxRecDepth 100000 in
set_option maxHeartbeats 4000000 in
theorem step_rem_bad (h : Both PX B0 w pb n bs R zs (.slice fo n fc) (.slice ao zs.length ac)) (_hz : zs.length ≤ 200000) (hT : ∀ wx, Below B0 w wx → HasType wx) (x y wt via : Int) (hx : aliveB n bs x = false) :
    Calls Tryz.prog 10 #[.pointer (some ⟨pb, 0, none⟩), .agg #[.slice fo n fc, .slice ao zs.length ac], .agg #[.int .u8 2, .int .i64 x, .int .i64 y, .int .u64 wt, .int .i64 via]] w (StepPost PX B0 w pb n zs (.slice fo n fc) (.slice ao zs.length ac)) := by
  obtain ⟨W3, hW3⟩ : ∃ W3, ((w.alloc (.cells #[.slice fo n fc, .slice ao zs.length ac] 40)).alloc (.cells (opC (2, x, y, wt, via)) 45)).alloc (.cells #[.slice none 0 0, .slice none 0 0] 40) = W3 := ⟨_, rfl⟩
  obtain ⟨h3, b3, hwd, hbx, hp6⟩ := step_in h (2, x, y, wt, via) hW3
  have HW3 : Hid (((w.alloc (.cells #[.slice fo n fc, .slice ao zs.length ac] 40)).alloc (.cells #[.int .u8 2, .int .i64 x, .int .i64 y, .int .u64 wt, .int .i64 via] 45)).alloc (.cells #[.slice none 0 0, .slice none 0 0] 40) = W3) := hW3
  have HE : Hid (∀ wy, Below W3.heap.size W3 wy → ((wy.setCell ⟨w.heap.size + 1 + 1, 0, none⟩ (.slice fo n fc)).setCell ⟨w.heap.size + 1 + 1, 1, none⟩ (.slice ao zs.length ac)).heap[w.heap.size + 1 + 1]? = some (.cells #[.slice fo n fc, .slice ao zs.length ac] 40 (0, 0)) ∧ StepPost PX B0 w pb n zs (.slice fo n fc) (.slice ao zs.length ac) (.returned (.tuple #[.agg #[.slice fo n fc, .slice ao zs.length ac], .bool true])) ((wy.setCell ⟨w.heap.size + 1 + 1, 0, none⟩ (.slice fo n fc)).setCell ⟨w.heap.size + 1 + 1, 1, none⟩ (.slice ao zs.length ac))) := fun wy hb => step_same h _ hW3 hb
  have HNEW : Hid (type_of% (@step_new PX w B0 pb n bs R zs (.slice fo n fc) (.slice ao zs.length ac) h (2, x, y, wt, via) W3)) := @step_new PX w B0 pb n bs R zs (.slice fo n fc) (.slice ao zs.length ac) h (2, x, y, wt, via) W3
  have HNW3 : Hid (((w.alloc (.cells #[.slice fo n fc, .slice ao zs.length ac] 40)).alloc (.cells (opC (2, x, y, wt, via)) 45)).alloc (.cells #[.slice none 0 0, .slice none 0 0] 40) = W3) := hW3
  have HLX : Hid (∀ wx, Lies (wrapP PX w.heap.size W3) wx → Boxes wx w.heap.size (.slice fo n fc) (.slice ao zs.length ac) (2, x, y, wt, via)) := hbx
  have H3 : Hid (Both (wrapP PX w.heap.size W3) B0 W3 pb n bs R zs (.slice fo n fc) (.slice ao zs.length ac)) := h3
  have HBX : Hid (∀ wx, Below W3.heap.size W3 wx → Boxes wx w.heap.size (.slice fo n fc) (.slice ao zs.length ac) (2, x, y, wt, via)) := fun wx hb => hbx wx (h3.keep hb).ov.lies
  have HT : Hid (∀ wx, Below B0 w wx → HasType wx) := hT
  have HB3 : Hid (Below w.heap.size w W3 ∧ B0 ≤ w.heap.size) := ⟨b3, h.ov.size⟩
  obtain ⟨x0, x1, x2, x3, x4, xs⟩ := (HBX.out W3 (Below.refl _ _)).cx
  obtain ⟨c0, c1, cs⟩ := (HBX.out W3 (Below.refl _ _)).co
  obtain ⟨r0, r1, f0, f1, rs⟩ := (HBX.out W3 (Below.refl _ _)).cr
  simp only at x0 x1 x2 x3 x4
  have n1 : w.heap.size ≠ w.heap.size + 1 + 1 := by omega
  have n2 : w.heap.size + 1 + 1 ≠ w.heap.size := by omega
  have n3 : w.heap.size + 1 ≠ w.heap.size + 1 + 1 := by omega
  have n4 : w.heap.size + 1 + 1 ≠ w.heap.size + 1 := by omega
  have HP : Hid (Calls Tryz.prog 18 #[.pointer (some ⟨pb, 0, none⟩), .int .i64 x] W3 fun e w' => e = .returned (.iface 73 (.int .i64 7)) ∧ w' = W3) := H3.out.ov.removeNo x hx
  have HLI : Hid (Calls Tryz.prog 31 #[.agg #[.slice fo n fc, .slice ao zs.length ac], .int .i64 x] W3 fun e w' => e = .returned (.bool false) ∧ Below W3.heap.size W3 w') := by
    have q := lives_calls fo fc n bs H3.out.ov.bl.1 ao zs.length ac x W3 H3.out.hasFl H3.out.ov.bl.2
    rw [hx] at q
    exact q
  have HSN : Hid (∀ wx, Below W3.heap.size W3 wx → Calls Tryz.prog 8 #[.iface 73 (.int .i64 7), .agg #[.int .i64 7, .slice none 0 0]] wx fun e w' => e = .returned (.bool true) ∧ Below wx.heap.size wx w') := fun wx hb => seen_bare 7 (by decide) wx (HT.out wx ((HB3.out.1.trans (hb.mono HB3.out.1.size)).mono HB3.out.2))
  clear hx
  clear hW3 h3 b3 hwd hbx h hT hp6
  go_enter Tryz.func10, Tryz.ntmps10
  go_upto_region 1 with fail
  rw [HW3.out]
  clear HW3
  go_wp2_with fail
  refine HP.out.mono ?_
  rintro e y1 ⟨rfl, hy⟩
  subst hy
  go_wp2_with fail
  refine HLI.out.mono ?_
  rintro e y2 ⟨rfl, hy⟩
  have Y2 : Hid (Below y1.heap.size y1 y2) := hy
  clear hy
  clear x0 x1 x2 x3 x4 xs c0 c1 cs r0 r1 f0 f1 rs
  obtain ⟨x0, x1, x2, x3, x4, xs⟩ := (HBX.out y2 Y2.out).cx
  obtain ⟨c0, c1, cs⟩ := (HBX.out y2 Y2.out).co
  obtain ⟨r0, r1, f0, f1, rs⟩ := (HBX.out y2 Y2.out).cr
  simp only at x0 x1 x2 x3 x4
  go_upto_region 12 with fail
  go_region_held3 (fun w' => w'.cell? ⟨w.heap.size, 0, none⟩ = some (.slice fo n fc) ∧ w'.cell? ⟨w.heap.size, 1, none⟩ = some (.slice ao zs.length ac)) (go_keep) (first
    | (go_at_call 8; refine (HSN.out _ Y3.out).mono ?_; rintro e y4 ⟨rfl, hy⟩; have Y4 : Hid (Below y1.heap.size y1 y4) := btr Y3.out hy; clear x0 x1 x2 x3 x4 xs c0 c1 cs r0 r1 f0 f1 rs; obtain ⟨x0, x1, x2, x3, x4, xs⟩ := (HBX.out y4 Y4.out).cx; obtain ⟨c0, c1, cs⟩ := (HBX.out y4 Y4.out).co; obtain ⟨r0, r1, f0, f1, rs⟩ := (HBX.out y4 Y4.out).cr; simp only at x0 x1 x2 x3 x4; clear hy)
    | (go_at_call 23; refine (E_calls 7 _).mono ?_; rintro e y3 ⟨rfl, hy⟩; have Y3 : Hid (Below y1.heap.size y1 y3) := btr Y2.out.drew hy; clear x0 x1 x2 x3 x4 xs c0 c1 cs r0 r1 f0 f1 rs; obtain ⟨x0, x1, x2, x3, x4, xs⟩ := (HBX.out y3 Y3.out).cx; obtain ⟨c0, c1, cs⟩ := (HBX.out y3 Y3.out).co; obtain ⟨r0, r1, f0, f1, rs⟩ := (HBX.out y3 Y3.out).cr; simp only at x0 x1 x2 x3 x4; clear hy))
  go_wp2
  obtain ⟨z1, z2⟩ := HE.out y4 Y4.out
  generalize ((World.setCell y4 ⟨w.heap.size + 1 + 1, 0, none⟩ (.slice fo n fc)).setCell ⟨w.heap.size + 1 + 1, 1, none⟩ (.slice ao zs.length ac)) = Wf at *
  obtain ⟨u0, u1, _, _⟩ := cell_two z1
  exact bodyPost_ret (v := .tuple #[.agg #[.slice fo n fc, .slice ao zs.length ac], .bool true]) (by simp [results, Tryz.results10, go_sem, u0, u1]) rfl z2


set_option maxRecDepth 100000 in
set_option maxHeartbeats 4000000 in
theorem step_rem_ok (h : Both PX B0 w pb n bs R zs (.slice fo n fc) (.slice ao zs.length ac)) (hz : zs.length ≤ 200000) (hT : ∀ wx, Below B0 w wx → HasType wx) (x y wt via : Int) (hx : aliveB n bs x = true) :
    Calls Tryz.prog 10 #[.pointer (some ⟨pb, 0, none⟩), .agg #[.slice fo n fc, .slice ao zs.length ac], .agg #[.int .u8 2, .int .i64 x, .int .i64 y, .int .u64 wt, .int .i64 via]] w (StepPost PX B0 w pb n zs (.slice fo n fc) (.slice ao zs.length ac)) := by
  obtain ⟨W3, hW3⟩ : ∃ W3, ((w.alloc (.cells #[.slice fo n fc, .slice ao zs.length ac] 40)).alloc (.cells (opC (2, x, y, wt, via)) 45)).alloc (.cells #[.slice none 0 0, .slice none 0 0] 40) = W3 := ⟨_, rfl⟩
  obtain ⟨h3, b3, hwd, hbx, hp6⟩ := step_in h (2, x, y, wt, via) hW3
  have HW3 : Hid (((w.alloc (.cells #[.slice fo n fc, .slice ao zs.length ac] 40)).alloc (.cells #[.int .u8 2, .int .i64 x, .int .i64 y, .int .u64 wt, .int .i64 via] 45)).alloc (.cells #[.slice none 0 0, .slice none 0 0] 40) = W3) := hW3
  have HE : Hid (∀ wy, Below W3.heap.size W3 wy → ((wy.setCell ⟨w.heap.size + 1 + 1, 0, none⟩ (.slice fo n fc)).setCell ⟨w.heap.size + 1 + 1, 1, none⟩ (.slice ao zs.length ac)).heap[w.heap.size + 1 + 1]? = some (.cells #[.slice fo n fc, .slice ao zs.length ac] 40 (0, 0)) ∧ StepPost PX B0 w pb n zs (.slice fo n fc) (.slice ao zs.length ac) (.returned (.tuple #[.agg #[.slice fo n fc, .slice ao zs.length ac], .bool true])) ((wy.setCell ⟨w.heap.size + 1 + 1, 0, none⟩ (.slice fo n fc)).setCell ⟨w.heap.size + 1 + 1, 1, none⟩ (.slice ao zs.length ac))) := fun wy hb => step_same h _ hW3 hb
  have HNEW : Hid (type_of% (@step_new PX w B0 pb n bs R zs (.slice fo n fc) (.slice ao zs.length ac) h (2, x, y, wt, via) W3)) := @step_new PX w B0 pb n bs R zs (.slice fo n fc) (.slice ao zs.length ac) h (2, x, y, wt, via) W3
  have HNW3 : Hid (((w.alloc (.cells #[.slice fo n fc, .slice ao zs.length ac] 40)).alloc (.cells (opC (2, x, y, wt, via)) 45)).alloc (.cells #[.slice none 0 0, .slice none 0 0] 40) = W3) := hW3
  have HLX : Hid (∀ wx, Lies (wrapP PX w.heap.size W3) wx → Boxes wx w.heap.size (.slice fo n fc) (.slice ao zs.length ac) (2, x, y, wt, via)) := hbx
  have H3 : Hid (Both (wrapP PX w.heap.size W3) B0 W3 pb n bs R zs (.slice fo n fc) (.slice ao zs.length ac)) := h3
  have HBX : Hid (∀ wx, Below W3.heap.size W3 wx → Boxes wx w.heap.size (.slice fo n fc) (.slice ao zs.length ac) (2, x, y, wt, via)) := fun wx hb => hbx wx (h3.keep hb).ov.lies
  have HT : Hid (∀ wx, Below B0 w wx → HasType wx) := hT
  have HB3 : Hid (Below w.heap.size w W3 ∧ B0 ≤ w.heap.size) := ⟨b3, h.ov.size⟩
  obtain ⟨x0, x1, x2, x3, x4, xs⟩ := (HBX.out W3 (Below.refl _ _)).cx
  obtain ⟨c0, c1, cs⟩ := (HBX.out W3 (Below.refl _ _)).co
  obtain ⟨r0, r1, f0, f1, rs⟩ := (HBX.out W3 (Below.refl _ _)).cr
  simp only at x0 x1 x2 x3 x4
  have n1 : w.heap.size ≠ w.heap.size + 1 + 1 := by omega
  have n2 : w.heap.size + 1 + 1 ≠ w.heap.size := by omega
  have n3 : w.heap.size + 1 ≠ w.heap.size + 1 + 1 := by omega
  have n4 : w.heap.size + 1 + 1 ≠ w.heap.size + 1 := by omega
  have HP : Hid (type_of% (H3.out.remYes hz x hx)) := H3.out.remYes hz x hx
  have HLI : Hid (∀ wx, HasFl wx (.slice fo n fc) bs → Calls Tryz.prog 31 #[.agg #[.slice fo n fc, .slice ao zs.length ac], .int .i64 x] wx fun e w' => e = .returned (.bool true) ∧ Below wx.heap.size wx w') := fun wx hf => by
    have q := lives_calls fo fc n bs H3.out.ov.bl.1 ao zs.length ac x wx hf H3.out.ov.bl.2
    rw [hx] at q
    exact q
  clear hx
  clear hW3 h3 b3 hwd hbx h hT hp6
  go_enter Tryz.func10, Tryz.ntmps10
  go_upto_region 1 with fail
  rw [HW3.out]
  clear HW3
  go_wp2_with fail
  refine HP.out.mono ?_
  rintro e y1 ⟨u, R', hxu, hu, rfl, hO, hti, hb⟩
  subst hxu
  have hAf := H3.out.after hO
  have hF1 := fl_of_row H3.out.ov.bl.1 hAf.1
  have hA1 := a4_of_row hAf.2
  have HF : Hid (HasFl y1 (.slice fo n fc) bs) := hF1
  have HRM : Hid (∀ wx, Below y1.heap.size y1 wx → Calls Tryz.prog 32 #[.agg #[.slice fo n fc, .slice ao zs.length ac], .int .i64 (u : Int)] wx fun e w' => ∃ fb fd so sc, e = .returned (.agg #[.slice (some ⟨fb, 0, none⟩) n fd, .slice so (remZ zs (u : Int)).length sc]) ∧ Below wx.heap.size wx w' ∧ w'.ownsRow wx.heap.size 4 1 (.slice (some ⟨fb, 0, none⟩) n fd) n ((bs.set u false).map Value.bool) ∧ w'.ownsRow wx.heap.size 91 4 (.slice so (remZ zs (u : Int)).length sc) (remZ zs (u : Int)).length (flatA4 (remZ zs (u : Int)))) := fun wx hb => by
    refine (rRemove11_calls fo n fc bs H3.out.ov.bl.1 H3.out.ov.bl.2 ao ac zs u hu wx (hF1.keep hb) (hA1.keep hb) (by omega)).mono ?_
    rintro e w' ⟨h1, fb, fd, so, sc, rfl, h2, h3⟩
    exact ⟨fb, fd, so, sc, rfl, h1, h2, h3⟩
  have HO1 : Hid (IsOv (wrapP PX w.heap.size W3) B0 y1 pb n (bs.set u false) R' ((aliveN n (bs.set u false) : Nat) : Int) (((remZ zs (u : Int)).length : Nat) : Int) ∧ Tied n (bs.set u false) R' (remZ zs (u : Int)) ∧ Below B0 W3 y1 ∧ (remZ zs (u : Int)).length ≤ zs.length + 1) := ⟨hO, hti, hb, Nat.le_succ_of_le (remZ_len _ _)⟩
  have HBY : Hid (∀ wx, Below y1.heap.size y1 wx → Boxes wx w.heap.size (.slice fo n fc) (.slice ao zs.length ac) (2, (u : Int), y, wt, via)) := fun wx hb => HLX.out wx (hO.keep hb).lies
  clear hO hti hb hAf hF1 hA1
  generalize remZ zs (u : Int) = Z at *
  clear x0 x1 x2 x3 x4 xs c0 c1 cs r0 r1 f0 f1 rs
  obtain ⟨x0, x1, x2, x3, x4, xs⟩ := (HBY.out y1 (Below.refl _ _)).cx
  obtain ⟨c0, c1, cs⟩ := (HBY.out y1 (Below.refl _ _)).co
  obtain ⟨r0, r1, f0, f1, rs⟩ := (HBY.out y1 (Below.refl _ _)).cr
  simp only at x0 x1 x2 x3 x4
  go_wp2_with fail
  refine (HLI.out _ HF.out).mono ?_
  rintro e y2 ⟨rfl, hy⟩
  have Y2 : Hid (Below y1.heap.size y1 y2) := hy
  clear hy
  clear x0 x1 x2 x3 x4 xs c0 c1 cs r0 r1 f0 f1 rs
  obtain ⟨x0, x1, x2, x3, x4, xs⟩ := (HBY.out y2 Y2.out).cx
  obtain ⟨c0, c1, cs⟩ := (HBY.out y2 Y2.out).co
  obtain ⟨r0, r1, f0, f1, rs⟩ := (HBY.out y2 Y2.out).cr
  simp only at x0 x1 x2 x3 x4
  go_upto_region 13 with fail
  go_region_held3 (fun w' => w'.cell? ⟨w.heap.size, 0, none⟩ = some (.slice fo n fc) ∧ w'.cell? ⟨w.heap.size, 1, none⟩ = some (.slice ao zs.length ac) ∧ w'.cell? ⟨w.heap.size + 1, 1, none⟩ = some (.int .i64 (u : Int))) (go_keep) (first
    | (go_at_call 32; refine (HRM.out _ Y2.out.drew).mono ?_; rintro e y3 ⟨fb, fd, so, sc, rfl, hy, h1, h2⟩; have Y3 : Hid (Below y1.heap.size y1 y3 ∧ y3.ownsRow y1.heap.size 4 1 (.slice (some ⟨fb, 0, none⟩) n fd) n ((bs.set u false).map Value.bool) ∧ y3.ownsRow y1.heap.size 91 4 (.slice so Z.length sc) Z.length (flatA4 Z)) := ⟨btr Y2.out.drew hy, rowX_base h1 Y2.out.drew.size, rowX_base h2 Y2.out.drew.size⟩; clear x0 x1 x2 x3 x4 xs c0 c1 cs r0 r1 f0 f1 rs; obtain ⟨x0, x1, x2, x3, x4, xs⟩ := (HBY.out y3 Y3.out.1).cx; obtain ⟨c0, c1, cs⟩ := (HBY.out y3 Y3.out.1).co; obtain ⟨r0, r1, f0, f1, rs⟩ := (HBY.out y3 Y3.out.1).cr; simp only at x0 x1 x2 x3 x4; clear hy h1 h2))
  go_wp2
  obtain ⟨z1, z2⟩ := HNEW.out HNW3.out HO1.out.1 HO1.out.2.1 HO1.out.2.2.1 Y3.out.1 (Or.inr Y3.out.2.1) Y3.out.2.2 HO1.out.2.2.2
  generalize ((World.setCell y3 ⟨w.heap.size + 1 + 1, 0, none⟩ (.slice (some ⟨fb, 0, none⟩) n fd)).setCell ⟨w.heap.size + 1 + 1, 1, none⟩ (.slice so Z.length sc)) = Wf at *
  obtain ⟨u0, u1, _, _⟩ := cell_two z1
  exact bodyPost_ret (v := .tuple #[.agg #[.slice (some ⟨fb, 0, none⟩) n fd, .slice so Z.length sc], .bool true]) (by simp [results, Tryz.results10, go_sem, u0, u1]) rfl z2

end
end Go.Proofs.YtnclegldhafaeaaGreatDoor

namespace Go.Proofs.YtnclegldhafaeaaGreatDoor
open Go.RowKit Go.Extern Go.Sort

attribute [local go_sem] Oper.semAt_some

section
variable {PX : Nat → Option Obj} {w : World} {B0 pb n : Nat} {bs : List Bool} {R : Bool → Nat → Rw} {zs : List A4}
/-- a step, whatever the call. -/
theorem step_any {av lv : Value} (h : Both PX B0 w pb n bs R zs av lv) (hz : zs.length ≤ 200000) (hT : ∀ wx, Below B0 w wx → HasType wx) (a : Op5) :
    Calls Tryz.prog 10 #[.pointer (some ⟨pb, 0, none⟩), .agg #[av, lv], .agg #[.int .u8 a.1, .int .i64 a.2.1, .int .i64 a.2.2.1, .int .u64 a.2.2.2.1, .int .i64 a.2.2.2.2]] w (StepPost PX B0 w pb n zs av lv) := by
  obtain ⟨fo, fc, rfl⟩ := row1_slice h.fl
  obtain ⟨ao, ac, rfl⟩ := row4_slice h.ar
  obtain ⟨kd, x, y, wt, via⟩ := a
  simp only
  by_cases k1 : kd = 1
  · subst k1
    by_cases hc : putErr n bs x y wt via = 0
    · cases hw : weightM n bs R x y with
      | none => exact step_put_new h hz hT x y wt via hc (fun k hk => by rw [hw] at hk; cases hk)
      | some k =>
        by_cases hk : k ≤ wt
        · exact step_put_keep h hz hT x y wt via hc k hw hk
        · exact step_put_new h hz hT x y wt via hc (fun k' hk' => by rw [hw] at hk'; cases hk'; omega)
    · exact step_put_bad h hz hT x y wt via _ rfl hc
  · by_cases k2 : kd = 2
    · subst k2
      cases hx : aliveB n bs x with
      | false => exact step_rem_bad h hz hT x y wt via hx
      | true => exact step_rem_ok h hz hT x y wt via hx
    · by_cases k3 : kd = 3
      · subst k3; exact step_out h hz hT x y wt via
      · by_cases k4 : kd = 4
        · subst k4; exact step_inn h hz hT x y wt via
        · by_cases k5 : kd = 5
          · subst k5; exact step_weight h hz hT x y wt via
          · by_cases k6 : kd = 6
            · subst k6; exact step_alive h hz hT x y wt via
            · by_cases k7 : kd = 7
              · subst k7; exact step_len h hz hT x y wt via
              · exact step_other h hz hT x y wt via kd (beq_eq_false_iff_ne.2 k1) (beq_eq_false_iff_ne.2 k2) (beq_eq_false_iff_ne.2 k3) (beq_eq_false_iff_ne.2 k4) (beq_eq_false_iff_ne.2 k5) (beq_eq_false_iff_ne.2 k6) (beq_eq_false_iff_ne.2 k7)
end
/-- both overlays behind New. -/
theorem both_new {w2 W8 : World} {B0 pb n bb : Nat} {R : Bool → Nat → Rw} {xs : List (Int × Int × Int)} {lv : Value} (hg : graphErr (n : Int) xs = (0, [])) (hO : IsOv noP B0 w2 pb n (List.replicate n true) R (n : Int) ((normA xs).length : Int)) (hR : ∀ s u, u < n → (R s u).2 = (sideL s (normA xs) u, 0)) (hb : Below w2.heap.size w2 W8)
    (hbb : w2.heap.size ≤ bb) (hfl : W8.heap[bb]? = some (.cells (bC (List.replicate n true)) 4 (0, 0))) (har : W8.ownsRow w2.heap.size 91 4 lv (normA xs).length (flatA4 ((normA xs).map asA4))) :
    Both (wrapP noP w2.heap.size W8) B0 W8 pb n (List.replicate n true) R ((normA xs).map asA4) (.slice (some ⟨bb, 0, none⟩) n n) lv := by
  obtain ⟨h1, h2⟩ := (good_iff _ _).1 (good_norm hg)
  have hfin : ∀ a ∈ normA xs, (0 ≤ a.1 ∧ a.1 < (n : Int)) ∧ (0 ≤ a.2.1 ∧ a.2.1 < (n : Int)) := fun a ha => by
    have h3 := h2 a ha
    unfold arcBad at h3
    split at h3
    · cases h3
    · refine ⟨⟨?_, ?_⟩, ⟨?_, ?_⟩⟩ <;> omega
  have hown : W8.ownsRow w2.heap.size 4 1 (.slice (some ⟨bb, 0, none⟩) n n) n ((List.replicate n true).map Value.bool) := by
    refine ⟨by simp, Or.inr ⟨bb, n, _, rfl, hbb, hfl, Nat.le_refl _, by unfold maxLen; omega, by simp [bC], ?_⟩⟩
    unfold bC
    rw [List.take_of_length_le (by simp)]
  have hw := (hO.wrap hb).1
  refine ⟨?_, tied_new (normA_norm xs).rise (fun a ha => (norm_sub ha).2) hfin hR, rowX_base hown (Nat.zero_le _), ?_, wrap_held (Nat.le_refl _) hown, wrap_held (Nat.le_refl _) har⟩
  · rw [aliveN_all, List.length_map]
    exact hw
  · rw [List.length_map]
    exact rowX_base har (Nat.zero_le _)

theorem graphErr_len (N : Int) (xs : List (Int × Int × Int)) : (graphErr N xs).2.length ≤ 1 := by
  unfold graphErr
  split
  · simp
  · split <;> simp
/-- the law where the graph is wrong. -/
theorem told_any {E : Int × List (Int × Int)} (h : E ≠ (0, [])) : (E.1 != 0 || decide (0 < E.2.length)) = true := by
  obtain ⟨c, ps⟩ := E
  by_cases hc : c = 0
  · subst hc
    cases ps with
    | nil => exact absurd rfl h
    | cons a r => simp
  · simp [hc]

set_option maxRecDepth 100000 in
set_option maxHeartbeats 8000000 in
theorem plays_bad (N : Int) (ao : Option Addr) (cap : Nat) (xs : List (Int × Int × Int)) (w : World) (hX : HasArcs w (.slice ao xs.length cap) xs) (hxl : xs.length ≤ maxLen) (oo : Option Addr) (oc lm : Nat) (hg : graphErr N xs ≠ (0, [])) (hty : HasType w) :
    Calls Tryz.prog 3 #[.agg #[.int .i64 N, .slice ao xs.length cap], .slice oo lm oc] w fun e w' => e = .returned (.bool true) ∧ Below w.heap.size w w' := by
  obtain ⟨W0, hW0⟩ : ∃ W0, w.alloc (.cells #[.int .i64 N, .slice ao xs.length cap] 24) = W0 := ⟨_, rfl⟩
  have HW0 : Hid (w.alloc (.cells #[.int .i64 N, .slice ao xs.length cap] 24) = W0) := hW0
  have hB0 : Below w.heap.size w W0 := by rw [← hW0]; exact bel_one _ _
  have hbx : W0.heap[w.heap.size]? = some (.cells #[.int .i64 N, .slice ao xs.length cap] 24) := by rw [← hW0]; exact heap_new _ _
  have HG : Hid (∀ wx, Below W0.heap.size W0 wx → (wx.cell? ⟨w.heap.size, 0, none⟩ = some (.int .i64 N) ∧ wx.cell? ⟨w.heap.size, 1, none⟩ = some (.slice ao xs.length cap) ∧ w.heap.size < wx.heap.size) ∧ HasArcs wx (.slice ao xs.length cap) xs ∧ Below w.heap.size w wx ∧ HasType wx) := fun wx hwx => by
    have hgg := (hwx.block _ (lt_of_get hbx)).trans hbx
    have hb := hB0.trans (hwx.mono hB0.size)
    exact ⟨⟨(cell_two hgg).1, (cell_two hgg).2.1, lt_of_get hgg⟩, hX.keep hb, hb, hty.keep hb hty.pos⟩
  have HAW : Hid (type_of% (awake11_calls W0)) := awake11_calls W0
  have HNW : Hid (∀ wx, Below W0.heap.size W0 wx → Calls Tryz.prog 5 #[.agg #[.int .i64 N, .slice ao xs.length cap]] wx fun e w' => ∃ v, e = .returned (.tuple #[.pointer none, v]) ∧ (∃ T x, v = .iface T x) ∧ IsTold w' (graphErr N xs) v ∧ Below wx.heap.size wx w') := fun wx hwx => by
    refine (onew_bad N ao cap xs wx (HG.out wx hwx).2.1 hxl hg).mono ?_
    rintro e w' ⟨v, rfl, h1, h2⟩
    exact ⟨v, rfl, told_iff h1 hg, h1, h2⟩
  have HDC : Hid (∀ wx, Below W0.heap.size W0 wx → Calls Tryz.prog 6 #[.agg #[.int .i64 N, .slice ao xs.length cap]] wx fun e w' => ∃ lo lc, e = .returned (.agg #[.int .i64 (graphErr N xs).1, .slice lo (graphErr N xs).2.length lc]) ∧ HasPlaces w' (.slice lo (graphErr N xs).2.length lc) (graphErr N xs).2 ∧ Below wx.heap.size wx w') := fun wx hwx => docCheck_calls N ao cap xs wx (HG.out wx hwx).2.1 hxl
  have hbad := told_any hg
  have hpl : (graphErr N xs).2.length ≤ maxLen := by
    have h := graphErr_len N xs
    unfold maxLen
    omega
  have HBD : Hid (∀ lo lc wx, Calls Tryz.prog 7 #[.agg #[.int .i64 (graphErr N xs).1, .slice lo (graphErr N xs).2.length lc]] wx fun e w' => e = .returned (.bool true) ∧ Below wx.heap.size wx w') := fun lo lc wx => by
    have q := bad_calls (graphErr N xs).1 lo (graphErr N xs).2.length lc wx
    rw [hbad] at q
    exact q
  have HSN : Hid (∀ v lo lc wx, Below W0.heap.size W0 wx → IsTold wx (graphErr N xs) v → HasPlaces wx (.slice lo (graphErr N xs).2.length lc) (graphErr N xs).2 → Calls Tryz.prog 8 #[v, .agg #[.int .i64 (graphErr N xs).1, .slice lo (graphErr N xs).2.length lc]] wx fun r w' => r = .returned (.bool true) ∧ Below wx.heap.size wx w') := fun v lo lc wx hwx h1 h2 => seen_told _ v lo lc wx h1 h2 hpl (HG.out wx hwx).2.2.2
  generalize graphErr N xs = E at *
  generalize hEl : E.2.length = el at *
  generalize E.1 = ec at *
  clear hW0 hB0 hbx hX hxl hbad hpl hty hg
  go_enter Tryz.func3, Tryz.ntmps3
  go_wp2_with fail
  rw [HW0.out]
  refine HAW.out.mono ?_
  rintro e w1 ⟨rfl, hb1⟩
  have HB1 : Hid (Below W0.heap.size W0 w1) := hb1
  obtain ⟨⟨g0, g1, gs⟩, _⟩ := HG.out w1 hb1
  clear hb1
  go_wp2_with fail
  refine (HNW.out w1 HB1.out).mono ?_
  rintro e w2 ⟨v, rfl, ⟨T, xv, rfl⟩, ht, hb2⟩
  have H2 : Hid (Below W0.heap.size W0 w2 ∧ IsTold w2 E (.iface T xv)) := ⟨btr HB1.out hb2, ht⟩
  clear hb2 ht g0 g1 gs
  obtain ⟨⟨g0, g1, gs⟩, _⟩ := HG.out w2 H2.out.1
  go_wp2_with fail
  refine (HDC.out w2 H2.out.1).mono ?_
  rintro e w3 ⟨lo, lc, rfl, hp, hb3⟩
  have H3 : Hid (Below w2.heap.size w2 w3 ∧ HasPlaces w3 (.slice lo el lc) E.2) := ⟨hb3, hp⟩
  clear hb3 hp g0 g1 gs
  obtain ⟨W4, hW4⟩ : ∃ W4, w3.alloc (.cells #[.int .i64 ec, .slice lo el lc] 34) = W4 := ⟨_, rfl⟩
  have HW4 : Hid (w3.alloc (.cells #[.int .i64 ec, .slice lo el lc] 34) = W4) := hW4
  have b4 : Below w3.heap.size w3 W4 := by rw [← hW4]; exact bel_one _ _
  have k4 : W4.heap[w3.heap.size]? = some (.cells #[.int .i64 ec, .slice lo el lc] 34) := by rw [← hW4]; exact heap_new _ _
  have HX4 : Hid (∀ wx, Below W4.heap.size W4 wx → (wx.cell? ⟨w3.heap.size, 0, none⟩ = some (.int .i64 ec) ∧ wx.cell? ⟨w3.heap.size, 1, none⟩ = some (.slice lo el lc) ∧ w3.heap.size < wx.heap.size) ∧ Below W0.heap.size W0 wx ∧ IsTold wx E (.iface T xv) ∧ HasPlaces wx (.slice lo el lc) E.2) := fun wx hb => by
    have q := (hb.block _ (lt_of_get k4)).trans k4
    have h24 := btr H3.out.1 (btr b4 hb)
    exact ⟨⟨(cell_two q).1, (cell_two q).2.1, lt_of_get q⟩, btr H2.out.1 h24, H2.out.2.keep (Below.keeps h24), H3.out.2.keep (btr b4 hb)⟩
  clear hW4 b4 k4
  obtain ⟨⟨e0, e1, es⟩, _⟩ := HX4.out W4 (Below.refl _ _)
  go_upto_region 5 with fail
  rw [HW4.out]
  go_wp2_with fail
  refine (HBD.out lo lc W4).mono ?_
  rintro e w5 ⟨rfl, hb5⟩
  have H5 : Hid (Below W4.heap.size W4 w5) := hb5
  clear hb5 e0 e1 es
  obtain ⟨⟨e0, e1, es⟩, _⟩ := HX4.out w5 H5.out
  go_wp2_with fail
  refine (HSN.out _ lo lc w5 (HX4.out w5 H5.out).2.1 (HX4.out w5 H5.out).2.2.1 (HX4.out w5 H5.out).2.2.2).mono ?_
  rintro e w6 ⟨rfl, hb6⟩
  have H6 : Hid (Below w.heap.size w w6) := (HG.out w6 (HX4.out w6 (btr H5.out hb6)).2.1).2.2.1
  clear hb6 e0 e1 es
  go_wp2
  go_ret
  exact ⟨rfl, H6.out⟩
end Go.Proofs.YtnclegldhafaeaaGreatDoor

namespace Go.Proofs.YtnclegldhafaeaaGreatDoor
open Go.RowKit Go.Extern Go.Sort

attribute [local go_sem] Oper.semAt_some

/-- what holds between two steps. -/
def Playing (B0 pb n X8 : Nat) (wr : World) (m : Nat) : Prop := ∃ PX bs R zs av lv, Both PX B0 wr pb n bs R zs av lv ∧ PX X8 = some (.cells #[av, lv] 40 (0, 0)) ∧ av.ownBlock ≠ some X8 ∧ lv.ownBlock ≠ some X8 ∧ zs.length ≤ m
theorem Playing.keep {B0 pb n X8 m : Nat} {wr wx : World} (h : Playing B0 pb n X8 wr m) (hb : Below wr.heap.size wr wx) : Playing B0 pb n X8 wx m := by
  obtain ⟨PX, bs, R, zs, av, lv, h1, h2, h3, h4, h5⟩ := h
  exact ⟨PX, bs, R, zs, av, lv, h1.keep hb, h2, h3, h4, h5⟩

set_option maxRecDepth 100000 in
set_option maxHeartbeats 16000000 in
theorem plays_good (n : Nat) (ao : Option Addr) (cap : Nat) (xs : List (Int × Int × Int)) (w : World) (hX : HasArcs w (.slice ao xs.length cap) xs) (hxl : xs.length ≤ maxLen) (oo : Option Addr) (oc : Nat) (ops : List Op5) (hOp : HasOp5 w (.slice oo ops.length oc) ops) (hg : graphErr (n : Int) xs = (0, [])) (hty : HasType w) :
    Calls Tryz.prog 3 #[.agg #[.int .i64 (n : Int), .slice ao xs.length cap], .slice oo ops.length oc] w fun e w' => e = .returned (.bool true) ∧ Below w.heap.size w w' := by
  obtain ⟨W0, hW0⟩ : ∃ W0, w.alloc (.cells #[.int .i64 (n : Int), .slice ao xs.length cap] 24) = W0 := ⟨_, rfl⟩
  have HW0 : Hid (w.alloc (.cells #[.int .i64 (n : Int), .slice ao xs.length cap] 24) = W0) := hW0
  have hB0 : Below w.heap.size w W0 := by rw [← hW0]; exact bel_one _ _
  have hbx : W0.heap[w.heap.size]? = some (.cells #[.int .i64 (n : Int), .slice ao xs.length cap] 24) := by rw [← hW0]; exact heap_new _ _
  have HG : Hid (∀ wx, Below W0.heap.size W0 wx → (wx.cell? ⟨w.heap.size, 0, none⟩ = some (.int .i64 (n : Int)) ∧ wx.cell? ⟨w.heap.size, 1, none⟩ = some (.slice ao xs.length cap) ∧ w.heap.size < wx.heap.size) ∧ HasArcs wx (.slice ao xs.length cap) xs ∧ Below w.heap.size w wx ∧ HasType wx ∧ HasOp5 wx (.slice oo ops.length oc) ops) := fun wx hwx => by
    have hgg := (hwx.block _ (lt_of_get hbx)).trans hbx
    have hb := hB0.trans (hwx.mono hB0.size)
    exact ⟨⟨(cell_two hgg).1, (cell_two hgg).2.1, lt_of_get hgg⟩, hX.keep hb, hb, hty.keep hb hty.pos, hOp.keep hb⟩
  have HAW : Hid (type_of% (awake11_calls W0)) := awake11_calls W0
  have HNW : Hid (∀ wx, Below W0.heap.size W0 wx → Calls Tryz.prog 5 #[.agg #[.int .i64 (n : Int), .slice ao xs.length cap]] wx fun e w' => ∃ pb R, e = .returned (.tuple #[.pointer (some ⟨pb, 0, none⟩), .nilIface]) ∧ IsOv noP wx.heap.size w' pb n (List.replicate n true) R (n : Int) ((normA xs).length : Int) ∧ (∀ s u, u < n → (R s u).2 = (sideL s (normA xs) u, 0)) ∧ Below wx.heap.size wx w') := fun wx hwx => ov_new ao xs.length cap xs wx (HG.out wx hwx).2.1 hg
  have HDC : Hid (∀ wx, Below W0.heap.size W0 wx → Calls Tryz.prog 6 #[.agg #[.int .i64 (n : Int), .slice ao xs.length cap]] wx fun e w' => ∃ lo lc, e = .returned (.agg #[.int .i64 0, .slice lo 0 lc]) ∧ Below wx.heap.size wx w') := fun wx hwx => by
    refine (docCheck_calls (n : Int) ao cap xs wx (HG.out wx hwx).2.1 hxl).mono ?_
    rw [hg]
    rintro e w' ⟨lo, lc, rfl, _, h⟩
    exact ⟨lo, lc, rfl, h⟩
  have HBD : Hid (∀ lo lc wx, Calls Tryz.prog 7 #[.agg #[.int .i64 0, .slice lo 0 lc]] wx fun e w' => e = .returned (.bool false) ∧ Below wx.heap.size wx w') := fun lo lc wx => by
    have q := bad_calls 0 lo 0 lc wx
    rw [show ((0 : Int) != 0 || decide (0 < 0)) = false by simp] at q
    exact q
  have HDN : Hid (∀ wx (hwx : Below W0.heap.size W0 wx), type_of% (rDocNew11_full n ao cap xs wx (HG.out wx hwx).2.1 hg)) := fun wx hwx => rDocNew11_full n ao cap xs wx (HG.out wx hwx).2.1 hg
  have hnl : (normA xs).length ≤ xs.length := normA_len xs
  have HGE : Hid (graphErr (n : Int) xs = (0, [])) := hg
  have hn65 : n ≤ 65536 := by have := ((good_iff _ _).1 hg).1; omega
  clear hW0 hB0 hbx hX hOp hty hg
  unfold maxLen at hxl
  go_enter Tryz.func3, Tryz.ntmps3
  go_wp2_with fail
  rw [HW0.out]
  refine HAW.out.mono ?_
  rintro e w1 ⟨rfl, hb1⟩
  have HB1 : Hid (Below W0.heap.size W0 w1) := hb1
  obtain ⟨⟨g0, g1, gs⟩, _⟩ := HG.out w1 hb1
  clear hb1
  go_wp2_with fail
  refine (HNW.out w1 HB1.out).mono ?_
  rintro e w2 ⟨pb, R, rfl, hO, hR, hb2⟩
  have H2 : Hid (Below w1.heap.size w1 w2 ∧ IsOv noP w1.heap.size w2 pb n (List.replicate n true) R (n : Int) ((normA xs).length : Int) ∧ ∀ s u, u < n → (R s u).2 = (sideL s (normA xs) u, 0)) := ⟨hb2, hO, hR⟩
  have HB2 : Hid (Below W0.heap.size W0 w2) := btr HB1.out hb2
  clear hb2 hO hR g0 g1 gs
  obtain ⟨⟨g0, g1, gs⟩, _⟩ := HG.out w2 HB2.out
  go_wp2_with fail
  refine (HDC.out w2 HB2.out).mono ?_
  rintro e w3 ⟨lo, lc, rfl, hb3⟩
  have H3 : Hid (Below w2.heap.size w2 w3) := hb3
  clear hb3 g0 g1 gs
  obtain ⟨W4, hW4⟩ : ∃ W4, w3.alloc (.cells #[.int .i64 0, .slice lo 0 lc] 34) = W4 := ⟨_, rfl⟩
  have HW4 : Hid (w3.alloc (.cells #[.int .i64 0, .slice lo 0 lc] 34) = W4) := hW4
  have b4 : Below w3.heap.size w3 W4 := by rw [← hW4]; exact bel_one _ _
  have k4 : W4.heap[w3.heap.size]? = some (.cells #[.int .i64 0, .slice lo 0 lc] 34) := by rw [← hW4]; exact heap_new _ _
  have H4 : Hid (Below w2.heap.size w2 W4) := btr H3.out b4
  obtain ⟨e0, e1, _, _⟩ := cell_two k4
  have es := lt_of_get k4
  clear hW4 b4 k4
  go_upto_region 5 with fail
  rw [HW4.out]
  go_wp2_with fail
  refine (HBD.out lo lc W4).mono ?_
  rintro e w5 ⟨rfl, hb5⟩
  have H5 : Hid (Below w2.heap.size w2 w5 ∧ Below W0.heap.size W0 w5) := ⟨btr H4.out hb5, btr HB2.out (btr H4.out hb5)⟩
  clear hb5 e0 e1 es
  obtain ⟨⟨g0, g1, gs⟩, _⟩ := HG.out w5 H5.out.2
  by_cases hbig : 2000 < xs.length
  · have q1 : decide ((2000 : Int) < (xs.length : Int)) = true := decide_eq_true (by omega)
    have q2 : decide (2000 < xs.length) = true := decide_eq_true hbig
    have HZ : Hid (Below w.heap.size w w5) := (HG.out w5 H5.out.2).2.2.1
    go_wp2
    go_ret
    exact ⟨rfl, HZ.out⟩
  · have q1 : decide ((2000 : Int) < (xs.length : Int)) = false := decide_eq_false (by omega)
    have q2 : decide (2000 < xs.length) = false := decide_eq_false hbig
    have q3 : ¬ (2000 : Int) < (xs.length : Int) := by omega
    by_cases hlong : 500 < ops.length
    · have q4 : decide ((500 : Int) < (ops.length : Int)) = true := decide_eq_true (by omega)
      have q5 : decide (500 < ops.length) = true := decide_eq_true hlong
      have HZ : Hid (Below w.heap.size w w5) := (HG.out w5 H5.out.2).2.2.1
      go_wp2
      go_ret
      exact ⟨rfl, HZ.out⟩
    · have q4 : decide ((500 : Int) < (ops.length : Int)) = false := decide_eq_false (by omega)
      have q5 : decide (500 < ops.length) = false := decide_eq_false hlong
      have q6 : ¬ (500 : Int) < (ops.length : Int) := by omega
      have HDW : Hid (type_of% (HDN.out w5 H5.out.2)) := HDN.out w5 H5.out.2
      go_wp2_with fail
      refine HDW.out.mono ?_
      rintro e w6 ⟨bb, so, sc, po, pc, rfl, hrow, hfl, hbb, hb6⟩
      clear q1 q2 q3 q4 q5 q6 g0 g1 gs
      obtain ⟨k6, k7, kB⟩ := two_new w6 (.cells #[.slice (some ⟨bb, 0, none⟩) n n, .slice so (normA xs).length sc] 40) (.cells #[.int .i64 0, .slice po 0 pc] 34)
      obtain ⟨W8, hW8⟩ : ∃ W8, (w6.alloc (.cells #[.slice (some ⟨bb, 0, none⟩) n n, .slice so (normA xs).length sc] 40)).alloc (.cells #[.int .i64 0, .slice po 0 pc] 34) = W8 := ⟨_, rfl⟩
      rw [hW8] at k6 k7 kB
      have HW8 : Hid ((w6.alloc (.cells #[.slice (some ⟨bb, 0, none⟩) n n, .slice so (normA xs).length sc] 40)).alloc (.cells #[.int .i64 0, .slice po 0 pc] 34) = W8) := hW8
      have hb28 := btr H5.out.1 (btr hb6 kB)
      have hs25 := H5.out.1.size
      have hs26 := hb6.size
      have hfl8 := (kB.block _ (lt_of_get hfl)).trans hfl
      have hrow8 := rowX_keep (w' := W8) hrow (fun g e => kB.block g (hrow.lt g e).2)
      have hPl : Playing w1.heap.size pb n w6.heap.size W8 ((normA xs).length + 0) := by
        refine ⟨_, _, R, _, _, _, both_new HGE.out H2.out.2.1 H2.out.2.2 hb28 (by omega) hfl8 (rowX_base hrow8 (by omega)), ?_, ?_, ?_, ?_⟩
        · unfold wrapP
          rw [if_pos (by omega)]
          exact k6
        · intro e
          have e2 : bb = w6.heap.size := by simpa [Value.ownBlock] using e
          have := lt_of_get hfl
          omega
        · intro e
          have := (hrow.lt _ e).2
          omega
        · rw [List.length_map]
          omega
      have HPL : Hid (type_of% hPl) := hPl
      have HB8 : Hid (Below w1.heap.size w1 W8) := btr H2.out.1 hb28
      have NX : Hid (w1.heap.size ≤ w6.heap.size) := by have := H2.out.1.size; show _ ≤ _; omega
      clear hb28 hs25 hs26 hfl8 hrow8 hPl k6 k7 kB hW8 hrow hfl hbb hb6
      have HGB : Hid (∀ wx, Below w1.heap.size w1 wx → (wx.cell? ⟨w.heap.size, 0, none⟩ = some (.int .i64 (n : Int)) ∧ wx.cell? ⟨w.heap.size, 1, none⟩ = some (.slice ao xs.length cap) ∧ w.heap.size < wx.heap.size) ∧ HasArcs wx (.slice ao xs.length cap) xs ∧ Below w.heap.size w wx ∧ HasType wx ∧ HasOp5 wx (.slice oo ops.length oc) ops) := fun wx hb => HG.out wx (btr HB1.out hb)
      go_upto_region 10 with fail
      rw [HW8.out]
      generalize w6.heap.size = X8 at *
      go_wp2_with fail
      go_loopw [54] (fun iv wr => ∃ k : Nat, k ≤ ops.length ∧ iv = .int .i64 (k : Nat) ∧ Playing w1.heap.size pb n X8 wr ((normA xs).length + k) ∧ Below w1.heap.size w1 wr) (fun iv _ => ops.length - (intOf iv).toNat)
      case atStart => exact ⟨0, Nat.zero_le _, rfl, HPL.out, HB8.out⟩
      case round =>
        obtain ⟨k, hk, rfl, hP, hbw⟩ := hrel
        by_cases hlt : k < ops.length
        · obtain ⟨a, ha⟩ : ∃ a, ops[k]? = some a := ⟨ops[k], List.getElem?_eq_getElem hlt⟩
          obtain ⟨lb, lof, rfl, ll, p0, p1, p2, p3, p4⟩ := (HGB.out wr hbw).2.2.2.2.at ha
          obtain ⟨PX, bs, Q, zs, av, lv, hB, hX8, hna, hnl2, hzl⟩ := hP
          have hX8l := lt_of_get (hB.ov.lies _ _ hX8)
          obtain ⟨Wa, hWa⟩ : ∃ Wa, wr.alloc (.cells #[.int .u8 a.1, .int .i64 a.2.1, .int .i64 a.2.2.1, .int .u64 a.2.2.2.1, .int .i64 a.2.2.2.2] 45) = Wa := ⟨_, rfl⟩
          have bWa : Below wr.heap.size wr Wa := by rw [← hWa]; exact bel_one _ _
          have kWa : Wa.heap[wr.heap.size]? = some (.cells #[.int .u8 a.1, .int .i64 a.2.1, .int .i64 a.2.2.1, .int .u64 a.2.2.2.1, .int .i64 a.2.2.2.2] 45) := by rw [← hWa]; exact heap_new _ _
          have hBa := hB.wrap bWa
          have hwd := (hB.ov.wrap bWa).2
          have hb1a : Below w1.heap.size w1 Wa := hbw.trans (bWa.mono hbw.size)
          have HST : Hid (Calls Tryz.prog 10 #[.pointer (some ⟨pb, 0, none⟩), .agg #[av, lv], .agg #[.int .u8 a.1, .int .i64 a.2.1, .int .i64 a.2.2.1, .int .u64 a.2.2.2.1, .int .i64 a.2.2.2.2]] Wa fun e w' => ∃ av' lv', e = .returned (.tuple #[.agg #[av', lv'], .bool true]) ∧ (w'.cell? ⟨X8, 0, none⟩ = some av ∧ w'.cell? ⟨X8, 1, none⟩ = some lv ∧ w'.frozen? ⟨X8, 0, none⟩ = false ∧ w'.frozen? ⟨X8, 1, none⟩ = false ∧ X8 < w'.heap.size) ∧ (∃ fo fl fc, av' = .slice fo fl fc) ∧ (∃ fo fl fc, lv' = .slice fo fl fc) ∧ Playing w1.heap.size pb n X8 ((w'.setCell ⟨X8, 0, none⟩ av').setCell ⟨X8, 1, none⟩ lv') ((normA xs).length + (k + 1)) ∧ Below w1.heap.size w1 ((w'.setCell ⟨X8, 0, none⟩ av').setCell ⟨X8, 1, none⟩ lv')) := by
            refine (step_any hBa (by omega) (fun wx hx => (HGB.out wx (hb1a.trans hx)).2.2.2.1) a).mono ?_
            rintro e w' ⟨PX', bs', Q', zs', av', lv', rfl, hB', hwd', hz', hbw', hn1, hn2⟩
            have h8 := hB'.ov.lies _ _ (hwd' _ _ (hwd _ _ hX8))
            have hs := two_set (v0 := av') (v1 := lv') h8
            have hsz := bWa.size
            have m1 : av'.ownBlock ≠ some X8 := by
              rcases hn1 with rfl | hn1
              · exact hna
              · intro e; have := hn1 _ e; omega
            have m2 : lv'.ownBlock ≠ some X8 := by
              rcases hn2 with rfl | hn2
              · exact hnl2
              · intro e; have := hn2 _ e; omega
            have hw := hB'.write (hwd' _ _ (hwd _ _ hX8)) hs (fun j hj => (hso _ hj).trans (hso _ hj)) m1 m2
            refine ⟨av', lv', rfl, ⟨(cell_two h8).1, (cell_two h8).2.1, (cell_two h8).2.2.1, (cell_two h8).2.2.2, lt_of_get h8⟩, ?_, ?_, ⟨_, bs', Q', zs', av', lv', hw, by unfold updP; rw [if_pos rfl], m1, m2, by omega⟩, ?_⟩
            · obtain ⟨ao', ac', e⟩ := row1_slice hB'.fl
              exact ⟨ao', n, ac', e⟩
            · obtain ⟨ao', ac', e⟩ := row4_slice hB'.ar
              exact ⟨ao', _, ac', e⟩
            · exact (hb1a.trans hbw').trans (two_below NX.out)
          have h8a := (bWa.block _ hX8l).trans (hB.ov.lies _ _ hX8)
          obtain ⟨fo, fc, rfl⟩ := row1_slice hB.fl
          obtain ⟨eo, ec, rfl⟩ := row4_slice hB.ar
          obtain ⟨a0, a1, a2, a3, a4⟩ := a
          simp only at p0 p1 p2 p3 p4 HST kWa hWa
          have HWA : Hid (wr.alloc (.cells #[.int .u8 a0, .int .i64 a1, .int .i64 a2, .int .u64 a3, .int .i64 a4] 45) = Wa) := hWa
          have n0 : Wa.cell? ⟨wr.heap.size, 0, none⟩ = some (.int .u8 a0) := by simp [World.cell?, kWa]
          have n1 : Wa.cell? ⟨wr.heap.size, 1, none⟩ = some (.int .i64 a1) := by simp [World.cell?, kWa]
          have n2 : Wa.cell? ⟨wr.heap.size, 2, none⟩ = some (.int .i64 a2) := by simp [World.cell?, kWa]
          have n3 : Wa.cell? ⟨wr.heap.size, 3, none⟩ = some (.int .u64 a3) := by simp [World.cell?, kWa]
          have n4 : Wa.cell? ⟨wr.heap.size, 4, none⟩ = some (.int .i64 a4) := by simp [World.cell?, kWa]
          have ns : wr.heap.size < Wa.heap.size := lt_of_get kWa
          obtain ⟨c0, c1, _, _⟩ := cell_two h8a
          have cs := lt_of_get h8a
          have t1 : (k : Int) < (ops.length : Int) := by omega
          have t2 : (0 : Int) ≤ (k : Int) := by omega
          clear ha hB hX8 hna hnl2 hzl hWa bWa kWa hBa hwd hb1a hbw h8a hX8l
          go_upto_region 15 with fail
          rw [HWA.out]
          go_wp2_with fail
          refine HST.out.mono ?_
          rintro e y1 ⟨av', lv', rfl, ⟨d0, d1, d2, d3, ds⟩, ⟨o1, o2, o3, rfl⟩, ⟨o4, o5, o6, rfl⟩, hPn, hbn⟩
          have YP : Hid (Playing w1.heap.size pb n X8 ((y1.setCell ⟨X8, 0, none⟩ (.slice o1 o2 o3)).setCell ⟨X8, 1, none⟩ (.slice o4 o5 o6)) ((normA xs).length + (k + 1)) ∧ Below w1.heap.size w1 ((y1.setCell ⟨X8, 0, none⟩ (.slice o1 o2 o3)).setCell ⟨X8, 1, none⟩ (.slice o4 o5 o6))) := ⟨hPn, hbn⟩
          clear hPn hbn c0 c1 cs n0 n1 n2 n3 n4 ns
          go_wp2
          go_roundw
          case rel => exact ⟨k + 1, by omega, by go_num, YP.out.1, YP.out.2⟩
          case measure => simp [intOf]; omega
        · obtain rfl : k = ops.length := by omega
          obtain ⟨PX, bs, Q, zs, av, lv, hB, hX8, hna, hnl2, hzl⟩ := hP
          obtain ⟨fo, fc, rfl⟩ := row1_slice hB.fl
          obtain ⟨eo, ec, rfl⟩ := row4_slice hB.ar
          have h8 := hB.ov.lies _ _ hX8
          have HQ : Hid (∀ wx, Below wr.heap.size wr wx → (wx.cell? ⟨X8, 0, none⟩ = some (.slice fo n fc) ∧ wx.cell? ⟨X8, 1, none⟩ = some (.slice eo zs.length ec)) ∧ X8 < wx.heap.size ∧ Below w.heap.size w wx) := fun wx hb => by
            have q := (hb.block _ (lt_of_get h8)).trans h8
            exact ⟨⟨(cell_two q).1, (cell_two q).2.1⟩, lt_of_get q, (HGB.out wx (hbw.trans (hb.mono hbw.size))).2.2.1⟩
          have HBO : Hid (Both PX w1.heap.size wr pb n bs Q zs (.slice fo n fc) (.slice eo zs.length ec)) := hB
          have hz6 : zs.length ≤ 262144 := by omega
          obtain ⟨⟨g0, g1, gs⟩, _⟩ := HGB.out wr hbw
          obtain ⟨M, hM⟩ : ∃ M : Nat, min (n : Int) 50 = (M : Int) := ⟨min n 50, by omega⟩
          clear hB hX8 hna hnl2 hzl h8 hbw
          generalize wr = wP at *
          have hM50 : M ≤ 50 := by omega
          go_upto_region 21 with fail
          clear hM g0 g1 gs
          go_loopw [71] (fun iv wr => ∃ v : Nat, v ≤ M ∧ iv = .int .i64 (v : Nat) ∧ Below wP.heap.size wP wr) (fun iv _ => M - (intOf iv).toNat)
          case atStart => exact ⟨0, Nat.zero_le _, rfl, Below.refl _ _⟩
          case round =>
            obtain ⟨u, hun, rfl, hbw⟩ := hrel
            have HB9 : Hid (Below wP.heap.size wP wr) := hbw
            clear hbw
            by_cases hlu : u < M
            · have i1 : (u : Int) < (M : Int) := by omega
              have i2 : (0 : Int) ≤ (u : Int) := by omega
              obtain ⟨LO, hLO⟩ : ∃ L, outM n bs Q false (u : Int) = L := ⟨_, rfl⟩
              obtain ⟨LI, hLI⟩ : ∃ L, outM n bs Q true (u : Int) = L := ⟨_, rfl⟩
              have hl1 : LO.length ≤ 65536 := by rw [← hLO]; exact HBO.out.ov.outLe false _
              have hl2 : LI.length ≤ 65536 := by rw [← hLI]; exact HBO.out.ov.outLe true _
              have HOU : Hid (∀ wx, Below wP.heap.size wP wx → Calls Tryz.prog 12 #[.pointer (some ⟨pb, 0, none⟩), .int .i64 (u : Int)] wx fun e w' => ∃ so sc, e = .returned (.slice so LO.length sc) ∧ HasHs w' (.slice so LO.length sc) LO ∧ Below wx.heap.size wx w') := fun wx hb => by
                have q := (HBO.out.keep hb).ov.outM (u : Int)
                rw [hLO] at q
                exact q
              have HIN : Hid (∀ wx, Below wP.heap.size wP wx → Calls Tryz.prog 14 #[.pointer (some ⟨pb, 0, none⟩), .int .i64 (u : Int)] wx fun e w' => ∃ so sc, e = .returned (.slice so LI.length sc) ∧ HasHs w' (.slice so LI.length sc) LI ∧ Below wx.heap.size wx w') := fun wx hb => by
                have q := (HBO.out.keep hb).ov.inM (u : Int)
                rw [hLI] at q
                exact q
              have HRO : Hid (∀ wx, Below wP.heap.size wP wx → Calls Tryz.prog 13 #[.agg #[.slice fo n fc, .slice eo zs.length ec], .int .i64 (u : Int)] wx fun e w' => ∃ so sc, e = .returned (.slice so LO.length sc) ∧ HasHs w' (.slice so LO.length sc) LO ∧ Below wx.heap.size wx w') := fun wx hb => by
                have q := (HBO.out.keep hb).rout hz6 (u : Int)
                rw [hLO] at q
                exact q
              have HRI : Hid (∀ wx, Below wP.heap.size wP wx → Calls Tryz.prog 15 #[.agg #[.slice fo n fc, .slice eo zs.length ec], .int .i64 (u : Int)] wx fun e w' => ∃ so sc, e = .returned (.slice so LI.length sc) ∧ HasHs w' (.slice so LI.length sc) LI ∧ Below wx.heap.size wx w') := fun wx hb => by
                have q := (HBO.out.keep hb).rin hz6 (u : Int)
                rw [hLI] at q
                exact q
              clear hLO hLI
              obtain ⟨⟨q0, q1⟩, ql, _⟩ := HQ.out wr HB9.out
              go_wp2_with fail
              go_region_held3 (fun w' => w'.cell? ⟨X8, 0, none⟩ = some (.slice fo n fc) ∧ w'.cell? ⟨X8, 1, none⟩ = some (.slice eo zs.length ec)) (go_keep) (first
                | (go_at_call 11; refine (same11_yes _ _ _ _ LI _ Y5.out.2.1 Y5.out.2.2 (by omega)).mono ?_; rintro e y6 ⟨rfl, hy⟩; have Y6 : Hid (Below wP.heap.size wP y6) := btr Y5.out.1 hy; obtain ⟨z6, z6', _⟩ := HQ.out y6 Y6.out; clear hy)
                | (go_at_call 15; refine (HRI.out _ Y4.out.1).mono ?_; rintro e y5 ⟨s5, t5, rfl, hh, hy⟩; have Y5 : Hid (Below wP.heap.size wP y5 ∧ HasHs y5 (.slice s4 LI.length t4) LI ∧ HasHs y5 (.slice s5 LI.length t5) LI) := ⟨btr Y4.out.1 hy, Y4.out.2.keep hy, hh⟩; obtain ⟨z5, z5', _⟩ := HQ.out y5 Y5.out.1; clear hy hh)
                | (go_at_call 14; refine (HIN.out _ Y3.out).mono ?_; rintro e y4 ⟨s4, t4, rfl, hh, hy⟩; have Y4 : Hid (Below wP.heap.size wP y4 ∧ HasHs y4 (.slice s4 LI.length t4) LI) := ⟨btr Y3.out hy, hh⟩; obtain ⟨z4, z4', _⟩ := HQ.out y4 Y4.out.1; clear hy hh)
                | (go_at_call 11; refine (same11_yes _ _ _ _ LO _ Y2.out.2.1 Y2.out.2.2 (by omega)).mono ?_; rintro e y3 ⟨rfl, hy⟩; have Y3 : Hid (Below wP.heap.size wP y3) := btr Y2.out.1 hy; obtain ⟨z3, z3', _⟩ := HQ.out y3 Y3.out; clear hy)
                | (go_at_call 13; refine (HRO.out _ Y1.out.1).mono ?_; rintro e y2 ⟨s2, t2, rfl, hh, hy⟩; have Y2 : Hid (Below wP.heap.size wP y2 ∧ HasHs y2 (.slice s1 LO.length t1) LO ∧ HasHs y2 (.slice s2 LO.length t2) LO) := ⟨btr Y1.out.1 hy, Y1.out.2.keep hy, hh⟩; obtain ⟨z2, z2', _⟩ := HQ.out y2 Y2.out.1; clear hy hh)
                | (go_at_call 12; refine (HOU.out _ HB9.out.drew).mono ?_; rintro e y1 ⟨s1, t1, rfl, hh, hy⟩; have Y1 : Hid (Below wP.heap.size wP y1 ∧ HasHs y1 (.slice s1 LO.length t1) LO) := ⟨btr HB9.out.drew hy, hh⟩; obtain ⟨z1, z1', _⟩ := HQ.out y1 Y1.out.1; clear hy hh))
              go_wp2
              go_roundw
              case rel => exact ⟨u + 1, by omega, by go_num, Y6.out⟩
              case measure => simp [intOf]; omega
            · obtain rfl : u = M := by omega
              go_wp2
              go_ret
              exact ⟨rfl, (HQ.out wr HB9.out).2.2⟩
theorem plays_calls (N : Int) (ao : Option Addr) (cap : Nat) (xs : List (Int × Int × Int)) (oo : Option Addr) (oc : Nat) (ops : List Op5) (w : World) (hX : HasArcs w (.slice ao xs.length cap) xs) (hxl : xs.length ≤ maxLen) (hO : HasOp5 w (.slice oo ops.length oc) ops) (hty : HasType w) :
    Calls Tryz.prog 3 #[.agg #[.int .i64 N, .slice ao xs.length cap], .slice oo ops.length oc] w fun e w' => e = .returned (.bool true) ∧ Below w.heap.size w w' := by
  by_cases hg : graphErr N xs = (0, [])
  · have hN := ((good_iff _ _).1 hg).1
    obtain ⟨n, rfl⟩ : ∃ n : Nat, N = (n : Int) := ⟨N.toNat, by omega⟩
    exact plays_good n ao cap xs w hX hxl oo oc ops hO hg hty
  · exact plays_bad N ao cap xs w hX hxl oo oc ops.length hg hty
end Go.Proofs.YtnclegldhafaeaaGreatDoor
