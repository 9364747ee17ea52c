/- The document's Needed and Diff, of any node. The law's compare of the two overlays. ShortsNeeded, where the graph is right and small. Contract, called. The document's Contract, walked. -/
import Derived.Test.YtbkclhaonbjobaaGreatDoorSk2
import Derived.Test.YtbkclhaonbjobaaGreatDoorQoX
import Derived.Test.YtbkclhaonbjobaaGreatDoorQwX
namespace Go.Proofs.YtbkclhaonbjobaaGreatDoor.Wt
open Go Go.RowKit Go.Extern Go.Deep

attribute [local go_sem] Oper.semAt_some

theorem three_new9 (w : World) (o1 o2 o3 : Obj) : (((w.alloc o1).alloc o2).alloc o3).heap[w.heap.size]? = some o1 ∧ (((w.alloc o1).alloc o2).alloc o3).heap[w.heap.size + 1]? = some o2 ∧ (((w.alloc o1).alloc o2).alloc o3).heap[w.heap.size + 1 + 1]? = some o3 ∧ Below w.heap.size w (((w.alloc o1).alloc o2).alloc o3) := by
  obtain ⟨h1, h2, h3⟩ := two_new w o1 o2
  have hs : ((w.alloc o1).alloc o2).heap.size = w.heap.size + 1 + 1 := by simp
  have h4 := heap_new ((w.alloc o1).alloc o2) o3
  have h5 : Below ((w.alloc o1).alloc o2).heap.size ((w.alloc o1).alloc o2) (((w.alloc o1).alloc o2).alloc o3) := bel_one _ _
  rw [hs] at h4
  exact ⟨(h5.block _ (lt_of_get h1)).trans h1, (h5.block _ (lt_of_get h2)).trans h2, h4, btr h3 h5⟩
theorem Below.layAt {w w2 : World} (h : Below w.heap.size w w2) {b : Nat} (hb : w.heap.size ≤ b) (c0 c1 : Value) : Below w.heap.size w ((w2.setCell ⟨b, 0, none⟩ c0).setCell ⟨b, 1, none⟩ c1) :=
  (h.setCell (p := ⟨b, 0, none⟩) hb _).setCell (p := ⟨b, 1, none⟩) hb _
/-- the document's row, and its error. -/
def docN (n : Nat) (bs : List Bool) (R : Bool → Nat → Rw) (v hp sp : Int) : List S3 := if aliveB n bs v = true then needL n bs R v hp sp else []
def docE (n : Nat) (bs : List Bool) (v : Int) : Int := if aliveB n bs v = true then 0 else 7
def docD (n : Nat) (bs : List Bool) (R : Bool → Nat → Rw) (v hp sp : Int) : Int := if aliveB n bs v = true then ((needL n bs R v hp sp).length : Int) - ((outM n bs R true v).length : Int) - ((outM n bs R false v).length : Int) else 0
section
variable {PX : Nat → Option Obj} {w : World} {B0 pb n : Nat} {bs : List Bool} {R : Bool → Nat → Rw} {zs : List A4} {fo ao : Option Addr} {fc ac : Nat}
theorem both_rlives (h : Both PX B0 w pb n bs R zs (.slice fo n fc) (.slice ao zs.length ac)) (x : Int) : Calls Tryz.prog 17 #[.agg #[.slice fo n fc, .slice ao zs.length ac], .int .i64 x] w fun e w' => e = .returned (.bool (aliveB n bs x)) ∧ Below w.heap.size w w' :=
  lives_calls fo fc n bs h.ov.bl.1 ao zs.length ac x w h.hasFl h.ov.bl.2
end
end Go.Proofs.YtbkclhaonbjobaaGreatDoor.Wt

namespace Go.Proofs.YtbkclhaonbjobaaGreatDoor.Wt
open Go Go.RowKit Go.Extern Go.Deep

attribute [local go_sem] Oper.semAt_some

theorem alive_at {n : Nat} {bs : List Bool} {k : Nat} (hk : k < n) : aliveB n bs (k : Int) = liv bs k := by
  cases h : liv bs k with
  | true => exact aliveB_iff.2 ⟨k, rfl, hk, h⟩
  | false =>
    cases h2 : aliveB n bs (k : Int) with
    | false => rfl
    | true =>
      obtain ⟨u, e, _, h3⟩ := aliveB_iff.1 h2
      have : k = u := by omega
      subst this
      rw [h] at h3
      cases h3
section
variable {PX : Nat → Option Obj} {w : World} {B0 pb n : Nat} {bs : List Bool} {R : Bool → Nat → Rw} {zs : List A4} {fo ao : Option Addr} {fc ac : Nat}
set_option maxRecDepth 100000 in
set_option maxHeartbeats 32000000 in
theorem same_law (h : Both PX B0 w pb n bs R zs (.slice fo n fc) (.slice ao zs.length ac)) (hzl : zs.length ≤ 200000) :
    Calls Tryz.prog 15 #[.pointer (some ⟨pb, 0, none⟩), .agg #[.slice fo n fc, .slice ao zs.length ac]] w fun e w' => e = .returned (.bool true) ∧ Below w.heap.size w w' := by
  obtain ⟨W0, hW0⟩ : ∃ W0, w.alloc (.cells #[.slice fo n fc, .slice ao zs.length ac] 33) = W0 := ⟨_, rfl⟩
  have HW0 : Hid (w.alloc (.cells #[.slice fo n fc, .slice ao zs.length ac] 33) = W0) := hW0
  have hB0 : Below w.heap.size w W0 := by rw [← hW0]; exact bel_one _ _
  have hbx : W0.heap[w.heap.size]? = some (.cells #[.slice fo n fc, .slice ao zs.length ac] 33) := by rw [← hW0]; exact heap_new _ _
  have HG : Hid (∀ wx, Below W0.heap.size W0 wx → (wx.cell? ⟨w.heap.size, 0, none⟩ = some (.slice fo n fc) ∧ wx.cell? ⟨w.heap.size, 1, none⟩ = some (.slice ao zs.length ac) ∧ w.heap.size < wx.heap.size) ∧ Both PX B0 wx pb n bs R zs (.slice fo n fc) (.slice ao zs.length ac) ∧ Below w.heap.size w wx) := fun wx hwx => by
    have hgg := (hwx.block _ (lt_of_get hbx)).trans hbx
    have hb := hB0.trans (hwx.mono hB0.size)
    exact ⟨⟨(cell_two hgg).1, (cell_two hgg).2.1, lt_of_get hgg⟩, h.keep hb, hb⟩
  have HLN : Hid (∀ wx, Below W0.heap.size W0 wx → Calls Tryz.prog 40 #[.pointer (some ⟨pb, 0, none⟩)] wx fun e w' => e = .returned (.int .i64 ((aliveN n bs : Nat) : Int)) ∧ w' = wx) := fun wx hx => (HG.out wx hx).2.1.ov.len
  have HAR : Hid (∀ wx, Below W0.heap.size W0 wx → Calls Tryz.prog 42 #[.pointer (some ⟨pb, 0, none⟩)] wx fun e w' => e = .returned (.int .i64 ((zs.length : Nat) : Int)) ∧ w' = wx) := fun wx hx => (HG.out wx hx).2.1.ov.narcs
  have HLE : Hid (∀ wx, Below W0.heap.size W0 wx → Calls Tryz.prog 41 #[.agg #[.slice fo n fc, .slice ao zs.length ac]] wx fun e w' => e = .returned (.int .i64 ((aliveN n bs : Nat) : Int)) ∧ Below wx.heap.size wx w') := fun wx hx => rLen11_calls fo fc n bs (HG.out wx hx).2.1.ov.bl.1 ao zs.length ac wx (HG.out wx hx).2.1.hasFl (HG.out wx hx).2.1.ov.bl.2
  have HAL : Hid (∀ wx, Below W0.heap.size W0 wx → ∀ k : Nat, k < n → Calls Tryz.prog 43 #[.pointer (some ⟨pb, 0, none⟩), .int .i64 (k : Int)] wx fun e w' => e = .returned (.bool (liv bs k)) ∧ w' = wx) := fun wx hx k hk => by
    have q := (HG.out wx hx).2.1.ov.alive (k : Int)
    rw [alive_at hk] at q
    exact q
  have HFL : Hid (∀ wx, Below W0.heap.size W0 wx → ∀ k : Nat, k < n → ∃ g, fo = some ⟨g, 0, none⟩ ∧ g < wx.heap.size ∧ wx.cell? ⟨g, k, none⟩ = some (.bool (liv bs k))) := fun wx hx k hk => (HG.out wx hx).2.1.hasFl.at (by rw [(HG.out wx hx).2.1.ov.bl.1]; exact hk)
  have HOO : Hid (∀ wx, Below W0.heap.size W0 wx → ∀ x, Calls Tryz.prog 22 #[.pointer (some ⟨pb, 0, none⟩), .int .i64 x] wx fun e w' => ∃ so sc, e = .returned (.slice so (outM n bs R false x).length sc) ∧ HasHs w' (.slice so (outM n bs R false x).length sc) (outM n bs R false x) ∧ Below wx.heap.size wx w') := fun wx hx x => (HG.out wx hx).2.1.ov.outM x
  have HRO : Hid (∀ wx, Below W0.heap.size W0 wx → ∀ x, Calls Tryz.prog 39 #[.agg #[.slice fo n fc, .slice ao zs.length ac], .int .i64 x] wx fun e w' => ∃ so sc, e = .returned (.slice so (outM n bs R false x).length sc) ∧ HasHs w' (.slice so (outM n bs R false x).length sc) (outM n bs R false x) ∧ Below wx.heap.size wx w') := fun wx hx x => (HG.out wx hx).2.1.rout (by omega) x
  have HLX : Hid (∀ x, (outM n bs R false x).length ≤ 65536) := fun x => h.ov.outLe false x
  have hn65 : n ≤ 65536 := h.ov.bl.2
  obtain ⟨⟨c0, c1, cs⟩, _⟩ := HG.out W0 (Below.refl _ _)
  generalize aliveN n bs = A at *
  clear hW0 hB0 hbx h
  go_enter Tryz.func15, Tryz.ntmps15
  go_upto_region 1 with fail
  rw [HW0.out]
  go_region_held3 (fun w' => w'.cell? ⟨w.heap.size, 0, none⟩ = some (.slice fo n fc) ∧ w'.cell? ⟨w.heap.size, 1, none⟩ = some (.slice ao zs.length ac)) (go_keep) (first
    | (go_at_call 42; refine (HAR.out _ (by first | exact Y2.out | exact Y2.out.drew)).mono ?_; rintro e y3 ⟨rfl, hy⟩; have Y3 : Hid (Below W0.heap.size W0 y3) := (by subst hy; first | exact Y2.out | exact Y2.out.drew); clear c0 c1 cs; obtain ⟨⟨c0, c1, cs⟩, _⟩ := HG.out y3 Y3.out; clear hy)
    | (go_at_call 41; refine (HLE.out _ (by first | exact Y1.out | exact Y1.out.drew)).mono ?_; rintro e y2 ⟨rfl, hy⟩; have Y2 : Hid (Below W0.heap.size W0 y2) := (by first | exact btr Y1.out hy | exact btr Y1.out.drew hy); clear c0 c1 cs; obtain ⟨⟨c0, c1, cs⟩, _⟩ := HG.out y2 Y2.out; clear hy)
    | (go_at_call 40; refine (HLN.out _ (by first | exact Below.refl _ _ | exact (Below.refl _ _).drew)).mono ?_; rintro e y1 ⟨rfl, hy⟩; have Y1 : Hid (Below W0.heap.size W0 y1) := (by subst hy; first | exact Below.refl _ _ | exact (Below.refl _ _).drew); clear c0 c1 cs; obtain ⟨⟨c0, c1, cs⟩, _⟩ := HG.out y1 Y1.out; clear hy))
  all_goals
    go_wp2_with fail
    go_loopw [25] (fun iv wr => ∃ k : Nat, k ≤ n ∧ iv = .int .i64 k ∧ Below W0.heap.size W0 wr) (fun iv _ => n - (intOf iv).toNat)
    case atStart => exact ⟨0, Nat.zero_le _, rfl, Y3.out⟩
    case round =>
      obtain ⟨k, hk, rfl, hb⟩ := hrel
      have HR : Hid (Below W0.heap.size W0 wr) := hb
      clear hb Y1 Y2 Y3 c0 c1 cs
      obtain ⟨⟨c0, c1, cs⟩, _⟩ := HG.out wr HR.out
      by_cases hlt : k < n
      · have i1 : (k : Int) < (n : Int) := by omega
        have i2 : (0 : Int) ≤ (k : Int) := by omega
        have HKN : Hid (k < n) := hlt
        obtain ⟨L, hL⟩ : ∃ L, outM n bs R false (k : Int) = L := ⟨_, rfl⟩
        have HLL : Hid (L.length ≤ 65536) := by rw [← hL]; exact HLX.out _
        have HO1 : Hid (∀ wx, Below W0.heap.size W0 wx → Calls Tryz.prog 22 #[.pointer (some ⟨pb, 0, none⟩), .int .i64 (k : Int)] wx fun e w' => ∃ so sc, e = .returned (.slice so L.length sc) ∧ HasHs w' (.slice so L.length sc) L ∧ Below wx.heap.size wx w') := fun wx hx => by
          have q := HOO.out wx hx (k : Int)
          rw [hL] at q
          exact q
        have HO2 : Hid (∀ wx, Below W0.heap.size W0 wx → Calls Tryz.prog 39 #[.agg #[.slice fo n fc, .slice ao zs.length ac], .int .i64 (k : Int)] wx fun e w' => ∃ so sc, e = .returned (.slice so L.length sc) ∧ HasHs w' (.slice so L.length sc) L ∧ Below wx.heap.size wx w') := fun wx hx => by
          have q := HRO.out wx hx (k : Int)
          rw [hL] at q
          exact q
        clear hL hlt
        go_wp2_with fail
        go_region_held3 (fun w' => w'.cell? ⟨w.heap.size, 0, none⟩ = some (.slice fo n fc) ∧ w'.cell? ⟨w.heap.size, 1, none⟩ = some (.slice ao zs.length ac)) (go_keep) (first
          | (go_at_call 39; refine (HO2.out _ (by first | exact Y1.out.1 | exact Y1.out.1.drew)).mono ?_; rintro e y2 ⟨s2, t2, rfl, hh, hy⟩; have Y2 : Hid (Below W0.heap.size W0 y2 ∧ HasHs y2 (.slice s1 L.length t1) L ∧ HasHs y2 (.slice s2 L.length t2) L) := ⟨by first | exact btr Y1.out.1 hy | exact btr Y1.out.1.drew hy, by first | exact Y1.out.2.keep hy | exact (Y1.out.2.keep (Below.refl _ _).drew).keep hy, hh⟩; clear c0 c1 cs; obtain ⟨⟨c0, c1, cs⟩, _⟩ := HG.out y2 Y2.out.1; clear hy hh)
          | (go_at_call 22; refine (HO1.out _ (by first | exact HR.out | exact HR.out.drew)).mono ?_; rintro e y1 ⟨s1, t1, rfl, hh, hy⟩; have Y1 : Hid (Below W0.heap.size W0 y1 ∧ HasHs y1 (.slice s1 L.length t1) L) := ⟨by first | exact btr HR.out hy | exact btr HR.out.drew hy, hh⟩; clear c0 c1 cs; obtain ⟨⟨c0, c1, cs⟩, _⟩ := HG.out y1 Y1.out.1; clear hy hh))
        all_goals
          obtain ⟨g, hfo, gl, gc⟩ := HFL.out y2 Y2.out.1 k HKN.out
          subst hfo
          have HGC : Hid (∀ wx, Below W0.heap.size W0 wx → g < wx.heap.size ∧ wx.cell? ⟨g, k, none⟩ = some (.bool (liv bs k))) := fun wx hx => by
            obtain ⟨g', e, h1, h2⟩ := HFL.out wx hx k HKN.out
            injection e with e
            injection e with e
            subst e
            exact ⟨h1, h2⟩
          have hll : L.length ≤ 65536 := HLL.out
          go_wp2_with fail
          go_region_held3 (fun w' => w'.cell? ⟨w.heap.size, 0, none⟩ = some (.slice (some ⟨g, 0, none⟩) n fc) ∧ w'.cell? ⟨w.heap.size, 1, none⟩ = some (.slice ao zs.length ac) ∧ w'.cell? ⟨g, k, none⟩ = some (.bool (liv bs k))) (go_keep) (first
            | (go_at_call 43; refine (HAL.out _ (by first | exact Y2.out.1 | exact Y2.out.1.drew) k HKN.out).mono ?_; rintro e y3 ⟨rfl, hy⟩; have Y3 : Hid (Below W0.heap.size W0 y3 ∧ HasHs y3 (.slice s1 L.length t1) L ∧ HasHs y3 (.slice s2 L.length t2) L) := (by subst hy; first | exact Y2.out | exact ⟨Y2.out.1.drew, Y2.out.2.1.keep (Below.refl _ _).drew, Y2.out.2.2.keep (Below.refl _ _).drew⟩); clear c0 c1 cs gl gc; obtain ⟨⟨c0, c1, cs⟩, _⟩ := HG.out y3 Y3.out.1; obtain ⟨gl, gc⟩ := HGC.out y3 Y3.out.1; clear hy))
          all_goals
            go_wp2_with fail
            go_loopw [52] (fun iv wr => ∃ j : Nat, j ≤ L.length ∧ iv = .int .i64 j ∧ Below y3.heap.size y3 wr) (fun iv _ => L.length - (intOf iv).toNat)
            case atStart => exact ⟨0, Nat.zero_le _, rfl, Below.refl _ _⟩
            case round =>
              obtain ⟨j, hj, rfl, hb⟩ := hrel
              have HJ : Hid (Below y3.heap.size y3 wr ∧ Below W0.heap.size W0 wr) := ⟨hb, btr Y3.out.1 hb⟩
              clear hb c0 c1 cs gl gc
              by_cases hjl : j < L.length
              · obtain ⟨a, ha⟩ : ∃ a, L[j]? = some a := ⟨L[j], List.getElem?_eq_getElem hjl⟩
                obtain ⟨b1, o1, e1, l1, x0, x1, x2⟩ := (Y3.out.2.1.keep HJ.out.1).at ha
                obtain ⟨b2, o2, e2, l2, z0, z1, z2⟩ := (Y3.out.2.2.keep HJ.out.1).at ha
                subst e1
                subst e2
                obtain ⟨a0, a1, a2⟩ := a
                simp only at x0 x1 x2 z0 z1 z2
                have j1 : (j : Int) < (L.length : Int) := by omega
                have j2 : (0 : Int) ≤ (j : Int) := by omega
                clear ha
                go_wp2_with fail
                go_quiet (fail)
                have HB8 : Hid (Below y3.heap.size y3 (wr.drewN nq)) := below_drewN HJ.out.1 nq
                go_wp2
                go_roundw
                case rel => exact ⟨j + 1, by omega, by go_num, HB8.out⟩
                case measure => simp [intOf]; omega
              · obtain rfl : j = L.length := by omega
                go_wp2
                go_roundw
                case rel => exact ⟨k + 1, by have := HKN.out; omega, by go_num, HJ.out.2⟩
                case measure => have := HKN.out; simp [intOf]; omega
      · obtain rfl : k = n := by omega
        have HZ : Hid (Below w.heap.size w wr) := (HG.out wr HR.out).2.2
        go_wp2
        go_ret
        exact ⟨rfl, HZ.out⟩
end
end Go.Proofs.YtbkclhaonbjobaaGreatDoor.Wt

namespace Go.Proofs.YtbkclhaonbjobaaGreatDoor.Wt
open Go Go.RowKit Go.Extern Go.Deep

attribute [local go_sem] Oper.semAt_some

section
variable {PX : Nat → Option Obj} {w : World} {B0 pb n : Nat} {bs : List Bool} {R : Bool → Nat → Rw} {zs : List A4} {av lv : Value}
end
end Go.Proofs.YtbkclhaonbjobaaGreatDoor.Wt

namespace Go.Proofs.YtbkclhaonbjobaaGreatDoor.Wt
open Go Go.RowKit Go.Extern Go.Deep

attribute [local go_sem] Oper.semAt_some

theorem witL_sub {n : Nat} {Z : List (Int × Int × Int)} {hops se : Int} {W : List S3} {s : S3} (h : s ∈ witL n Z hops se W) : s ∈ W := by
  cases W with
  | nil => exact h
  | cons a r => exact (List.mem_filter.1 h).1
theorem need_ok {n : Nat} {bs : List Bool} {R : Bool → Nat → Rw} {zs : List A4} (ht : Tied n bs R zs) (hi : OvInv n bs R) (hb : ZB zs) {v hp sp : Int} {s : S3} (hs : s ∈ needL n bs R v hp sp) : (aliveB n bs s.1 = true ∧ s.1 ≠ v) ∧ (aliveB n bs s.2.1 = true ∧ s.2.1 ≠ v) ∧ s.1 ≠ s.2.1 ∧ 0 ≤ s.2.2 ∧ s.2.2 ≤ 140737488355328 := by
  unfold needL at hs
  obtain ⟨i, hi1, hs⟩ := List.mem_flatMap.1 hs
  unfold needI at hs
  have hd := witL_sub hs
  obtain ⟨hiw, hia, hiv⟩ := half_ok ht hi hb hi1
  obtain ⟨q1, q2, q3, q4⟩ := dear_ok ht hi hb hiw.1 hd
  unfold dearL at hd
  obtain ⟨y, hy, rfl⟩ := List.mem_map.1 hd
  obtain ⟨hy, hyd⟩ := List.mem_filter.1 hy
  obtain ⟨_, hya, hyv⟩ := half_ok ht hi hb hy
  unfold dearB at hyd
  simp only [Bool.and_eq_true, decide_eq_true_eq] at hyd
  exact ⟨⟨hia, hiv⟩, ⟨hya, hyv⟩, fun e => hyd.1.1 e.symm, q3, q4⟩
theorem alive_set {n : Nat} {bs : List Bool} {x : Int} {v : Nat} (h : aliveB n bs x = true) (hx : x ≠ (v : Int)) : aliveB n (bs.set v false) x = true := by
  obtain ⟨u, rfl, hu, hl⟩ := aliveB_iff.1 h
  exact aliveB_iff.2 ⟨u, rfl, hu, by rw [liv_set, if_neg (by omega)]; exact hl⟩
theorem gone_set {n : Nat} {bs : List Bool} {v : Nat} (hl : bs.length = n) (hv : v < n) : goneB n (bs.set v false) (v : Int) = true := by
  unfold goneB isN
  rw [Int.toNat_natCast, List.getElem?_set_self (by omega)]
  simp
  omega
theorem putErr_short {n : Nat} {bs : List Bool} {v : Nat} (hl : bs.length = n) (hv : v < n) {s : S3} (h : (aliveB n bs s.1 = true ∧ s.1 ≠ (v : Int)) ∧ (aliveB n bs s.2.1 = true ∧ s.2.1 ≠ (v : Int)) ∧ s.1 ≠ s.2.1 ∧ 0 ≤ s.2.2 ∧ s.2.2 ≤ 140737488355328) : putErr n (bs.set v false) s.1 s.2.1 s.2.2 (v : Int) = 0 := by
  obtain ⟨⟨h1, h2⟩, ⟨h3, h4⟩, h5, h6, h7⟩ := h
  unfold putErr
  rw [if_pos ⟨alive_set h1 h2, alive_set h3 h4⟩, if_neg h5, if_neg (by omega), if_neg (by omega), if_pos (gone_set hl hv)]
/-- what a contraction makes of the arcs. -/
def contZ (v : Int) (zs : List A4) (L : List S3) : List A4 := putsZ v (remZ zs v) L
theorem needL_len {n : Nat} {bs : List Bool} {R : Bool → Nat → Rw} (hi : OvInv n bs R) (hn : n ≤ 12) (v hp sp : Int) : (needL n bs R v hp sp).length ≤ 144 := by
  have h1 := flat_len (needI n bs R v hp sp) n (outM n bs R true v) (needI_len hi _ _ _)
  have h2 := Nat.mul_le_mul (Nat.le_trans (half_few hi true v) hn) hn
  unfold needL
  omega
section
variable {PX : Nat → Option Obj} {w : World} {B0 pb n : Nat} {bs : List Bool} {R : Bool → Nat → Rw} {zs : List A4}
set_option maxRecDepth 100000 in
set_option maxHeartbeats 8000000 in
theorem cont_calls (h : OvT PX B0 w pb n bs R zs) (hz : ZB zs) (hn : n ≤ 12) (hl : zs.length ≤ 190000) (v o0 o1 o2 o3 o4 : Int) :
    Calls Tryz.prog 16 #[.pointer (some ⟨pb, 0, none⟩), .int .i64 v, .agg #[.int .i64 o0, .int .i64 o1, .int .i64 o2, .int .i64 o3, .int .i64 o4]] w fun e w' =>
      (aliveB n bs v = false ∧ e = .returned (.tuple #[.slice none 0 0, .iface 59 (.int .i64 7)]) ∧ OvT PX B0 w' pb n bs R zs ∧ Below w.heap.size w w') ∨
      (aliveB n bs v = true ∧ ∃ so sc R', e = .returned (.tuple #[.slice so (needL n bs R v (min (max o0 0) 1048576) (min (max o1 0) 1048576)).length sc, .nilIface]) ∧ HasSs w' (.slice so (needL n bs R v (min (max o0 0) 1048576) (min (max o1 0) 1048576)).length sc) (needL n bs R v (min (max o0 0) 1048576) (min (max o1 0) 1048576)) ∧ OvT PX B0 w' pb n (bs.set v.toNat false) R' (contZ v zs (needL n bs R v (min (max o0 0) 1048576) (min (max o1 0) 1048576))) ∧ Below B0 w w') := by
  obtain ⟨W0, hW0⟩ : ∃ W0, w.alloc (optObj o0 o1 o2 o3 o4) = W0 := ⟨_, rfl⟩
  have HW0 : Hid (w.alloc (.cells #[.int .i64 o0, .int .i64 o1, .int .i64 o2, .int .i64 o3, .int .i64 o4] 27) = W0) := hW0
  have hB0 : Below w.heap.size w W0 := by rw [← hW0]; exact bel_one _ _
  have hk0 : W0.heap[w.heap.size]? = some (optObj o0 o1 o2 o3 o4) := by rw [← hW0]; exact heap_new _ _
  have hne := need_calls (h.1.keep hB0) h.2 hz (by omega) v o0 o1 o2 o3 o4
  have hlen := needL_len h.1.inv hn v (min (max o0 0) 1048576) (min (max o1 0) 1048576)
  have hok : ∀ s ∈ needL n bs R v (min (max o0 0) 1048576) (min (max o1 0) 1048576), _ := fun s hs => need_ok h.2 h.1.inv hz hs
  obtain ⟨NL, hNL⟩ : ∃ NL, needL n bs R v (min (max o0 0) 1048576) (min (max o1 0) 1048576) = NL := ⟨_, rfl⟩
  rw [hNL] at hne hlen hok ⊢
  have HNE : Hid (type_of% hne) := hne
  have HOK : Hid ((∀ s ∈ NL, (aliveB n bs s.1 = true ∧ s.1 ≠ v) ∧ (aliveB n bs s.2.1 = true ∧ s.2.1 ≠ v) ∧ s.1 ≠ s.2.1 ∧ 0 ≤ s.2.2 ∧ s.2.2 ≤ 140737488355328) ∧ NL.length ≤ 144) := ⟨hok, hlen⟩
  have HH : Hid (OvT PX B0 w pb n bs R zs ∧ ZB zs ∧ n ≤ 12 ∧ zs.length ≤ 190000 ∧ Below w.heap.size w W0 ∧ B0 ≤ w.heap.size) := ⟨h, hz, hn, hl, hB0, h.1.size⟩
  obtain ⟨c0, c1, cs⟩ := opt_cells hk0
  obtain ⟨c2, c3, c4⟩ := opt_all hk0
  clear hW0 hB0 hk0 hne hlen hok hNL h hz hl
  go_enter Tryz.func16, Tryz.ntmps16
  go_upto_region 1 with fail
  rw [HW0.out]
  go_wp2_with fail
  refine HNE.out.mono ?_
  clear c0 c1 c2 c3 c4 cs
  rintro e w1 ⟨hb1, ⟨hal, rfl⟩ | ⟨hal, so, sc, rfl, ho1⟩⟩
  · have HZ : Hid (aliveB n bs v = false ∧ OvT PX B0 w1 pb n bs R zs ∧ Below w.heap.size w w1) := ⟨hal, ⟨HH.out.1.1.keep (btr HH.out.2.2.2.2.1 hb1), HH.out.1.2⟩, btr HH.out.2.2.2.2.1 hb1⟩
    clear hal hb1 HNE
    go_wp2
    go_ret2
    exact Or.inl ⟨HZ.out.1, rfl, HZ.out.2.1, HZ.out.2.2⟩
  · obtain ⟨u, rfl, hun, hul⟩ := aliveB_iff.1 hal
    have hbw1 := btr HH.out.2.2.2.2.1 hb1
    obtain ⟨hgd, hwd⟩ := HH.out.1.1.wrap hbw1
    obtain ⟨PY, hPY⟩ : ∃ PY, wrapP PX w.heap.size w1 = PY := ⟨_, rfl⟩
    rw [hPY] at hgd hwd
    have HROW : Hid (∀ wx, Lies PY wx → HasSs wx (.slice so NL.length sc) NL) := fun wx hx => by
      refine ss_of_row (row_keep9 ho1 fun g hg => ?_)
      obtain ⟨l1, l2⟩ := ho1.lt g hg
      have hgg : PY g = w1.heap[g]? := by rw [← hPY]; unfold wrapP; rw [if_pos (by have := HH.out.2.2.2.2.1.size; omega)]
      obtain ⟨o, ho⟩ : ∃ o, w1.heap[g]? = some o := ⟨w1.heap[g], Array.getElem?_eq_getElem l2⟩
      rw [ho]
      exact hx g o (by rw [hgg, ho])
    have HWD : Hid (Wider PX PY ∧ u < n ∧ liv bs u = true ∧ aliveB n bs (u : Int) = true ∧ bs.length = n ∧ Below B0 w w1) := ⟨hwd, hun, hul, hal, HH.out.1.1.bl.1, hbw1.mono HH.out.2.2.2.2.2⟩
    have hrm := ovt_remove (PX := PY) ⟨hgd, HH.out.1.2⟩ (by have := HH.out.2.2.2.1; omega) (u : Int) hal
    rw [Int.toNat_natCast] at hrm
    have HRM : Hid (type_of% hrm) := hrm
    clear hal hun hul hb1 ho1 hbw1 hgd hwd hPY hrm HNE
    go_wp2_with fail
    refine HRM.out.mono ?_
    rintro e w2 ⟨R2, rfl, hov2, hb2⟩
    have H2 : Hid (OvT PY B0 w2 pb n (bs.set u false) R2 (remZ zs (u : Int)) ∧ Below B0 w w2) := ⟨hov2, HWD.out.2.2.2.2.2.trans hb2⟩
    clear hov2 hb2 HRM
    go_wp2_with fail
    go_loopw [33] (fun iv wr => ∃ (k : Nat) (R' : Bool → Nat → Rw), k ≤ NL.length ∧ iv = .int .i64 k ∧ OvT PY B0 wr pb n (bs.set u false) R' (putsZ (u : Int) (remZ zs (u : Int)) (NL.take k)) ∧ Below B0 w wr) (fun iv _ => NL.length - (intOf iv).toNat)
    case atStart => exact ⟨0, R2, Nat.zero_le _, rfl, H2.out.1, H2.out.2⟩
    case round =>
      obtain ⟨k, R', hk, rfl, hov, hb⟩ := hrel
      have HR : Hid (OvT PY B0 wr pb n (bs.set u false) R' (putsZ (u : Int) (remZ zs (u : Int)) (NL.take k)) ∧ Below B0 w wr) := ⟨hov, hb⟩
      clear hov hb
      by_cases hlt : k < NL.length
      · obtain ⟨s, hs⟩ : ∃ s, NL[k]? = some s := ⟨NL[k], List.getElem?_eq_getElem hlt⟩
        obtain ⟨b, off, rfl, bl, p0, p1, p2⟩ := (HROW.out wr HR.out.1.1.lies).at hs
        have hsk := HOK.out.1 s (List.mem_of_getElem? hs)
        have hpe := putErr_short HWD.out.2.2.2.2.1 HWD.out.2.1 hsk
        have HSU : Hid (type_of% (putsZ_succ (v := (u : Int)) (zs := remZ zs (u : Int)) hs)) := putsZ_succ (v := (u : Int)) (zs := remZ zs (u : Int)) hs
        have hln : (putsZ (u : Int) (remZ zs (u : Int)) (NL.take k)).length ≤ 200000 := by
          have h1 := putsZ_len (u : Int) (NL.take k) (remZ zs (u : Int))
          have h2 := remZ_len zs (u : Int)
          have h3 : (NL.take k).length ≤ 144 := by rw [List.length_take]; have := HOK.out.2; omega
          have h4 := HH.out.2.2.2.1
          omega
        obtain ⟨s0, s1, s2⟩ := s
        simp only at p0 p1 p2 hpe HSU
        obtain ⟨W3, hW3⟩ : ∃ W3, wr.alloc (.cells #[.int .i64 s0, .int .i64 s1, .int .u64 s2] 92) = W3 := ⟨_, rfl⟩
        have HW3 : Hid (wr.alloc (.cells #[.int .i64 s0, .int .i64 s1, .int .u64 s2] 92) = W3) := hW3
        have hb3 : Below wr.heap.size wr W3 := by rw [← hW3]; exact bel_one _ _
        have k3 : W3.heap[wr.heap.size]? = some (.cells #[.int .i64 s0, .int .i64 s1, .int .u64 s2] 92) := by rw [← hW3]; exact heap_new _ _
        have e0 : W3.cell? ⟨wr.heap.size, 0, none⟩ = some (.int .i64 s0) := by simp [World.cell?, k3]
        have e1 : W3.cell? ⟨wr.heap.size, 1, none⟩ = some (.int .i64 s1) := by simp [World.cell?, k3]
        have e2 : W3.cell? ⟨wr.heap.size, 2, none⟩ = some (.int .u64 s2) := by simp [World.cell?, k3]
        have es := lt_of_get k3
        have HPU : Hid (type_of% (ovt_put ⟨HR.out.1.1.keep hb3, HR.out.1.2⟩ hln s0 s1 s2 (u : Int) hpe)) := ovt_put ⟨HR.out.1.1.keep hb3, HR.out.1.2⟩ hln s0 s1 s2 (u : Int) hpe
        have HB3 : Hid (Below B0 w W3) := HR.out.2.trans (hb3.mono HR.out.1.1.size)
        have i1 : (k : Int) < (NL.length : Int) := by omega
        have i2 : (0 : Int) ≤ (k : Int) := by omega
        have hNL := HOK.out.2
        clear hs hsk hpe hln hW3 hb3 k3
        go_upto_region 10 with fail
        rw [HW3.out]
        clear p0 p1 p2 bl
        go_wp2_with fail
        refine HPU.out.mono ?_
        rintro e w4 ⟨r0, R4, rfl, hov4, hb4⟩
        have H4 : Hid (OvT PY B0 w4 pb n (bs.set u false) R4 (putsZ (u : Int) (remZ zs (u : Int)) (NL.take (k + 1))) ∧ Below B0 w w4) := ⟨by rw [HSU.out]; exact hov4, HB3.out.trans hb4⟩
        clear hov4 hb4 e0 e1 e2 es HPU
        go_wp2
        go_roundw
        case rel => exact ⟨k + 1, R4, by omega, by go_num, H4.out.1, H4.out.2⟩
        case measure => simp [intOf]; omega
      · obtain rfl : k = NL.length := by omega
        rw [List.take_length] at HR
        have HZ : Hid (HasSs wr (.slice so NL.length sc) NL ∧ OvT PX B0 wr pb n (bs.set u false) R' (contZ (u : Int) zs NL) ∧ Below B0 w wr) := ⟨HROW.out wr HR.out.1.1.lies, ⟨IsOv.narrow HR.out.1.1 HWD.out.1, HR.out.1.2⟩, HR.out.2⟩
        go_wp2
        go_ret2
        exact Or.inr ⟨HWD.out.2.2.2.1, so, sc, R', rfl, HZ.out.1, by rw [Int.toNat_natCast]; exact HZ.out.2.1, HZ.out.2.2⟩
end
end Go.Proofs.YtbkclhaonbjobaaGreatDoor.Wt

namespace Go.Proofs.YtbkclhaonbjobaaGreatDoor.Wt
open Go Go.RowKit Go.Extern Go.Deep

attribute [local go_sem] Oper.semAt_some

/-- one arc at most for each pair. -/
def OneZ (zs : List A4) : Prop := zs.Pairwise fun a b => ¬ (a.1 = b.1 ∧ a.2.1 = b.2.1)
theorem one_eq : ∀ {zs : List A4}, OneZ zs → ∀ {a b : A4}, a ∈ zs → b ∈ zs → a.1 = b.1 ∧ a.2.1 = b.2.1 → a = b
  | [], _, _, _, ha, _, _ => by cases ha
  | x :: r, h, a, b, ha, hb, e => by
    obtain ⟨h1, h2⟩ := List.pairwise_cons.1 h
    rcases List.mem_cons.1 ha with ea | ha9
    · rcases List.mem_cons.1 hb with eb | hb9
      · exact ea.trans eb.symm
      · exact absurd (ea ▸ e) (h1 b hb9)
    · rcases List.mem_cons.1 hb with eb | hb9
      · exact absurd (show x.1 = a.1 ∧ x.2.1 = a.2.1 from eb ▸ ⟨e.1.symm, e.2.symm⟩) (h1 a ha9)
      · exact one_eq h2 ha9 hb9 e
theorem one_remZ {zs : List A4} (h : OneZ zs) (x : Int) : OneZ (remZ zs x) := List.Pairwise.sublist List.filter_sublist h
theorem one_putZ {zs : List A4} (h : OneZ zs) (a : A4) : OneZ (putZ zs a) := by
  unfold putZ OneZ
  refine List.pairwise_append.2 ⟨List.Pairwise.sublist List.filter_sublist h, List.pairwise_singleton _ _, fun x hx y hy => ?_⟩
  obtain rfl := List.mem_singleton.1 hy
  have h2 := (List.mem_filter.1 hx).2
  rintro ⟨e1, e2⟩
  simp [e1, e2] at h2
theorem one_putW {zs : List A4} (h : OneZ zs) (a : A4) : OneZ (putW zs a) := by
  unfold putW
  split
  · exact h
  · exact one_putZ h a
theorem one_putsZ (v : Int) : ∀ (L : List S3) (zs : List A4), OneZ zs → OneZ (putsZ v zs L)
  | [], _, h => h
  | s :: r, _, h => one_putsZ v r _ (one_putW h (s.1, s.2.1, s.2.2, v))
theorem cheap_hasQ {zs : List A4} {a : A4} (h : OneZ zs) (hc : CheapZ zs a) : hasQ (wtA zs a.1 a.2.1) a.2.2.1 = true := by
  obtain ⟨z, hz, e1, e2, e3⟩ := hc
  unfold wtA
  cases hf : findA zs a.1 a.2.1 with
  | none =>
    unfold findA at hf
    have := List.find?_eq_none.1 hf z hz
    simp [e1, e2] at this
  | some y =>
    obtain ⟨h1, h2, h3⟩ := findA_some hf
    have : z = y := one_eq h hz h1 ⟨e1.trans h2.symm, e2.trans h3.symm⟩
    subst this
    simp only [Option.map_some, hasQ, decide_eq_true_eq]
    exact e3
theorem dear_hasQ {zs : List A4} {a : A4} (hd : DearZ zs a) : hasQ (wtA zs a.1 a.2.1) a.2.2.1 = false := by
  unfold wtA
  cases hf : findA zs a.1 a.2.1 with
  | none => rfl
  | some y =>
    obtain ⟨h1, h2, h3⟩ := findA_some hf
    have := hd y h1 h2 h3
    simp only [Option.map_some, hasQ, decide_eq_false_iff_not]
    omega
theorem rputW_calls {w : World} {B : Nat} (bo : Option Addr) (bl bc : Nat) (ao : Option Addr) (cap : Nat) (zs : List A4) (a : A4) (hA : w.ownsRow B 86 4 (.slice ao zs.length cap) zs.length (flatA4 zs)) (h1 : OneZ zs) (hz : zs.length ≤ 262144) (hB : B ≤ w.heap.size) :
    Calls Tryz.prog 28 #[.agg #[.slice bo bl bc, .slice ao zs.length cap], .agg #[.int .i64 a.1, .int .i64 a.2.1, .int .u64 a.2.2.1, .int .i64 a.2.2.2]] w fun e w' => ∃ so sc d, e = .returned (.tuple #[.agg #[.slice bo bl bc, .slice so (putW zs a).length sc], .bool d]) ∧ w'.ownsRow B 86 4 (.slice so (putW zs a).length sc) (putW zs a).length (flatA4 (putW zs a)) ∧ Below w.heap.size w w' := by
  refine (rPutA11_calls bo bl bc ao cap zs a w (a4_of_row hA) hz).mono ?_
  rintro e w' ⟨hb, ⟨hc, rfl⟩ | ⟨hd, so, sc, rfl, ho⟩⟩
  · have e : putW zs a = zs := by unfold putW; rw [if_pos (cheap_hasQ h1 hc)]
    rw [e]
    exact ⟨ao, cap, false, rfl, row_below9 hA hb, hb⟩
  · have e : putW zs a = putZ zs a := by unfold putW; rw [if_neg (by rw [dear_hasQ hd]; simp)]
    rw [e]
    exact ⟨so, sc, true, rfl, rowX_base ho hB, hb⟩
/-- the boxes of the document's Contract, and its list. -/
structure CBx (w W0 wr : World) (av lv : Value) (sv : Value) (L : List S3) : Prop where
  box : wr.heap[w.heap.size]? = some (.cells #[av, lv] 33 (0, 0))
  res : wr.heap[w.heap.size + 1 + 1]? = some (.cells #[.slice none 0 0, .slice none 0 0] 33 (0, 0))
  ls : wr.ownsRow W0.heap.size 68 3 sv L.length (flatS L)
  below : Below w.heap.size w wr
  low : w.heap.size + 1 + 1 < W0.heap.size
  size : W0.heap.size ≤ wr.heap.size
section
variable {w W0 wr wx : World} {av lv av' lv' sv : Value} {L : List S3}
theorem CBx.later (h : CBx w W0 wr av lv sv L) (hb : Below wr.heap.size wr wx) : CBx w W0 wx av lv sv L :=
  ⟨(hb.block _ (lt_of_get h.box)).trans h.box, (hb.block _ (lt_of_get h.res)).trans h.res, row_below9 h.ls hb, h.below.trans (hb.mono h.below.size), h.low, Nat.le_trans h.size hb.size⟩
theorem set_far {w : World} {b k : Nat} {c0 c1 : Value} (h : k ≠ b) : ((w.setCell ⟨b, 0, none⟩ c0).setCell ⟨b, 1, none⟩ c1).heap[k]? = w.heap[k]? :=
  (heap_setCell_other _ _ _ _ h).trans (heap_setCell_other _ _ _ _ h)
theorem row_set9 {w : World} {B b n size : Nat} {E : TypeId} {xs : List Value} {v c0 c1 : Value} (h : w.ownsRow B E size v n xs) (hb : b < B) : ((w.setCell ⟨b, 0, none⟩ c0).setCell ⟨b, 1, none⟩ c1).ownsRow B E size v n xs :=
  row_keep9 h fun g e => set_far (by have := (h.lt g e).1; omega)
theorem CBx.put (h : CBx w W0 wr av lv sv L) : CBx w W0 ((wr.setCell ⟨w.heap.size, 0, none⟩ av').setCell ⟨w.heap.size, 1, none⟩ lv') av' lv' sv L :=
  ⟨two_set h.box, (set_far (by omega)).trans h.res, row_set9 h.ls (by have := h.low; omega), (h.below.setCell (p := ⟨w.heap.size, 0, none⟩) (Nat.le_refl _) _).setCell (p := ⟨w.heap.size, 1, none⟩) (Nat.le_refl _) _, h.low, by have := h.size; simpa [World.setCell] using this⟩
end
section
variable {w : World} {n : Nat} {bs : List Bool} {R : Bool → Nat → Rw} {zs : List A4} {fo ao : Option Addr} {fc ac : Nat}
set_option maxRecDepth 100000 in
set_option maxHeartbeats 32000000 in
theorem rcont_calls (h : RefO w n bs R zs (.slice fo n fc) (.slice ao zs.length ac)) (hzl : zs.length ≤ 190000) (hz : ZB zs) (hn : n ≤ 12) (v : Nat) (hv : v < n) (o0 o1 o2 o3 o4 hp sp : Int) (hhp : min (max o0 0) 1048576 = hp) (hsp : min (max o1 0) 1048576 = sp) :
    Calls Tryz.prog 19 #[.agg #[.slice fo n fc, .slice ao zs.length ac], .int .i64 (v : Int), .agg #[.int .i64 o0, .int .i64 o1, .int .i64 o2, .int .i64 o3, .int .i64 o4]] w fun e w' => ∃ (fb : Option Addr) (fd : Nat) (so : Option Addr) (sc : Nat) (lo : Option Addr) (lc : Nat), e = .returned (.tuple #[.agg #[.slice fb n fd, .slice so (contZ (v : Int) zs (needL n bs R (v : Int) hp sp)).length sc], .slice lo (needL n bs R (v : Int) hp sp).length lc]) ∧ HasSs w' (.slice lo (needL n bs R (v : Int) hp sp).length lc) (needL n bs R (v : Int) hp sp) ∧ w'.ownsRow w.heap.size 4 1 (.slice fb n fd) n ((bs.set v false).map Value.bool) ∧ w'.ownsRow w.heap.size 86 4 (.slice so (contZ (v : Int) zs (needL n bs R (v : Int) hp sp)).length sc) (contZ (v : Int) zs (needL n bs R (v : Int) hp sp)).length (flatA4 (contZ (v : Int) zs (needL n bs R (v : Int) hp sp))) ∧ Below w.heap.size w w' := by
  obtain ⟨W0, hW0⟩ : ∃ W0, ((w.alloc (.cells #[.slice fo n fc, .slice ao zs.length ac] 33)).alloc (optObj o0 o1 o2 o3 o4)).alloc (.cells #[.slice none 0 0, .slice none 0 0] 33) = W0 := ⟨_, rfl⟩
  obtain ⟨hbx, hk0, hk1, hB0⟩ := three_new9 w (.cells #[.slice fo n fc, .slice ao zs.length ac] 33) (optObj o0 o1 o2 o3 o4) (.cells #[.slice none 0 0, .slice none 0 0] 33)
  rw [hW0] at hbx hk0 hk1 hB0
  have HW0 : Hid (((w.alloc (.cells #[.slice fo n fc, .slice ao zs.length ac] 33)).alloc (.cells #[.int .i64 o0, .int .i64 o1, .int .i64 o2, .int .i64 o3, .int .i64 o4] 27)).alloc (.cells #[.slice none 0 0, .slice none 0 0] 33) = W0) := hW0
  have hnd := rneed_calls (h.keep hB0) (by omega) hz hn (v : Int) o0 o1 o2 o3 o4
  rw [hhp, hsp] at hnd
  have hlen := needL_len h.inv hn (v : Int) hp sp
  have HRO : Hid (∀ wx, Below w.heap.size w wx → RefO wx n bs R zs (.slice fo n fc) (.slice ao zs.length ac)) := fun wx hx => h.keep hx
  have HON : Hid (OneZ zs ∧ zs.length ≤ 190000 ∧ v < n) := ⟨h.tie.one, hzl, hv⟩
  obtain ⟨L, hL⟩ : ∃ L, needL n bs R (v : Int) hp sp = L := ⟨_, rfl⟩
  rw [hL] at hnd hlen ⊢
  have HND : Hid (type_of% hnd) := hnd
  have HLN : Hid (L.length ≤ 144) := hlen
  have HB0 : Hid (W0.heap[w.heap.size]? = some (.cells #[.slice fo n fc, .slice ao zs.length ac] 33 (0, 0)) ∧ W0.heap[w.heap.size + 1 + 1]? = some (.cells #[.slice none 0 0, .slice none 0 0] 33 (0, 0)) ∧ Below w.heap.size w W0) := ⟨hbx, hk1, hB0⟩
  obtain ⟨p0, p1, ps⟩ := opt_cells hk0
  obtain ⟨p2, p3, p4⟩ := opt_all hk0
  obtain ⟨c0, c1, y0, y1⟩ := cell_two hbx
  have cs := lt_of_get hbx
  clear hW0 hB0 hbx hk0 hk1 h hz hzl hn hv hhp hsp hnd hlen hL
  go_enter Tryz.func19, Tryz.ntmps19
  go_upto_region 1 with fail
  rw [HW0.out]
  go_wp2_with fail
  refine HND.out.mono ?_
  rintro e w1 ⟨lo, lc, rfl, ho1, hb1⟩
  have H1 : Hid (CBx w W0 w1 (.slice fo n fc) (.slice ao zs.length ac) (.slice lo L.length lc) L) := ⟨(hb1.block _ (lt_of_get HB0.out.1)).trans HB0.out.1, (hb1.block _ (lt_of_get HB0.out.2.1)).trans HB0.out.2.1, ho1, btr HB0.out.2.2 hb1, lt_of_get HB0.out.2.1, hb1.size⟩
  clear ho1 hb1 p0 p1 ps p2 p3 p4 c0 c1 y0 y1 cs HND
  obtain ⟨c0, c1, y0, y1⟩ := cell_two H1.out.box
  have cs := lt_of_get H1.out.box
  have href := HRO.out w1 H1.out.below
  have HRM : Hid (type_of% (rRemove11_calls fo n fc bs href.bl.1 href.bl.2 ao ac zs v HON.out.2.2 w1 href.fl href.ar (by have := HON.out.2.1; omega))) := rRemove11_calls fo n fc bs href.bl.1 href.bl.2 ao ac zs v HON.out.2.2 w1 href.fl href.ar (by have := HON.out.2.1; omega)
  clear href
  go_wp2_with fail
  refine HRM.out.mono ?_
  rintro e w2 ⟨hb2, fb, fd, so, sc, rfl, hof, hoa⟩
  have H2 : Hid (CBx w W0 w2 (.slice fo n fc) (.slice ao zs.length ac) (.slice lo L.length lc) L ∧ w2.ownsRow W0.heap.size 4 1 (.slice (some ⟨fb, 0, none⟩) n fd) n ((bs.set v false).map Value.bool) ∧ w2.ownsRow W0.heap.size 86 4 (.slice so (remZ zs (v : Int)).length sc) (remZ zs (v : Int)).length (flatA4 (remZ zs (v : Int)))) := ⟨H1.out.later hb2, rowX_base hof H1.out.size, rowX_base hoa H1.out.size⟩
  clear hof hoa hb2 c0 c1 y0 y1 cs HRM H1
  obtain ⟨c0, c1, y0, y1⟩ := cell_two H2.out.1.box
  have cs := lt_of_get H2.out.1.box
  obtain ⟨W3, hW3⟩ : ∃ W3, (w2.setCell ⟨w.heap.size, 0, none⟩ (.slice (some ⟨fb, 0, none⟩) n fd)).setCell ⟨w.heap.size, 1, none⟩ (.slice so (remZ zs (v : Int)).length sc) = W3 := ⟨_, rfl⟩
  have HW3 : Hid ((w2.setCell ⟨w.heap.size, 0, none⟩ (.slice (some ⟨fb, 0, none⟩) n fd)).setCell ⟨w.heap.size, 1, none⟩ (.slice so (remZ zs (v : Int)).length sc) = W3) := hW3
  have hlow := H2.out.1.low
  have H3 : Hid (CBx w W0 W3 (.slice (some ⟨fb, 0, none⟩) n fd) (.slice so (remZ zs (v : Int)).length sc) (.slice lo L.length lc) L ∧ W3.ownsRow W0.heap.size 4 1 (.slice (some ⟨fb, 0, none⟩) n fd) n ((bs.set v false).map Value.bool) ∧ W3.ownsRow W0.heap.size 86 4 (.slice so (remZ zs (v : Int)).length sc) (remZ zs (v : Int)).length (flatA4 (remZ zs (v : Int)))) := by
    rw [← hW3]
    exact ⟨H2.out.1.put, row_set9 H2.out.2.1 (by omega), row_set9 H2.out.2.2 (by omega)⟩
  clear hW3 hlow H2
  go_upto_region 3 with fail
  rw [HW3.out]
  clear c0 c1 y0 y1 cs
  go_wp2_with fail
  go_loopw [20] (fun iv wr => ∃ (k : Nat) (so : Option Addr) (sc : Nat), k ≤ L.length ∧ iv = .int .i64 k ∧ CBx w W0 wr (.slice (some ⟨fb, 0, none⟩) n fd) (.slice so (putsZ (v : Int) (remZ zs (v : Int)) (L.take k)).length sc) (.slice lo L.length lc) L ∧ wr.ownsRow W0.heap.size 4 1 (.slice (some ⟨fb, 0, none⟩) n fd) n ((bs.set v false).map Value.bool) ∧ wr.ownsRow W0.heap.size 86 4 (.slice so (putsZ (v : Int) (remZ zs (v : Int)) (L.take k)).length sc) (putsZ (v : Int) (remZ zs (v : Int)) (L.take k)).length (flatA4 (putsZ (v : Int) (remZ zs (v : Int)) (L.take k)))) (fun iv _ => L.length - (intOf iv).toNat)
  case atStart => exact ⟨0, so, sc, Nat.zero_le _, rfl, H3.out⟩
  case round =>
    obtain ⟨k, qo, qc, hk, rfl, hR⟩ := hrel
    have HR : Hid (type_of% hR) := hR
    clear hR H3
    by_cases hlt : k < L.length
    · obtain ⟨s, hs⟩ : ∃ s, L[k]? = some s := ⟨L[k], List.getElem?_eq_getElem hlt⟩
      obtain ⟨b, off, rfl, bl, p0, p1, p2⟩ := (ss_of_row HR.out.1.ls).at hs
      have HSU : Hid (type_of% (putsZ_succ (v := (v : Int)) (zs := remZ zs (v : Int)) hs)) := putsZ_succ (v := (v : Int)) (zs := remZ zs (v : Int)) hs
      have HZO : Hid (OneZ (putsZ (v : Int) (remZ zs (v : Int)) (L.take k)) ∧ (putsZ (v : Int) (remZ zs (v : Int)) (L.take k)).length ≤ 262144) := by
        refine ⟨one_putsZ _ _ _ (one_remZ HON.out.1 _), ?_⟩
        have h1 := putsZ_len (v : Int) (L.take k) (remZ zs (v : Int))
        have h2 := remZ_len zs (v : Int)
        have h3 : (L.take k).length ≤ 144 := by rw [List.length_take]; have := HLN.out; omega
        have h4 := HON.out.2.1
        omega
      obtain ⟨s0, s1, s2⟩ := s
      simp only at p0 p1 p2 HSU
      generalize putsZ (v : Int) (remZ zs (v : Int)) (L.take k) = Z at *
      obtain ⟨W4, hW4⟩ : ∃ W4, wr.alloc (.cells #[.int .i64 s0, .int .i64 s1, .int .u64 s2] 68) = W4 := ⟨_, rfl⟩
      have HW4 : Hid (wr.alloc (.cells #[.int .i64 s0, .int .i64 s1, .int .u64 s2] 68) = W4) := hW4
      have hb4 : Below wr.heap.size wr W4 := by rw [← hW4]; exact bel_one _ _
      have k4 : W4.heap[wr.heap.size]? = some (.cells #[.int .i64 s0, .int .i64 s1, .int .u64 s2] 68) := by rw [← hW4]; exact heap_new _ _
      have e0 : W4.cell? ⟨wr.heap.size, 0, none⟩ = some (.int .i64 s0) := by simp [World.cell?, k4]
      have e1 : W4.cell? ⟨wr.heap.size, 1, none⟩ = some (.int .i64 s1) := by simp [World.cell?, k4]
      have e2 : W4.cell? ⟨wr.heap.size, 2, none⟩ = some (.int .u64 s2) := by simp [World.cell?, k4]
      have es := lt_of_get k4
      have H4 : Hid (CBx w W0 W4 (.slice (some ⟨fb, 0, none⟩) n fd) (.slice qo Z.length qc) (.slice (some ⟨b, off, none⟩) L.length lc) L ∧ W4.ownsRow W0.heap.size 4 1 (.slice (some ⟨fb, 0, none⟩) n fd) n ((bs.set v false).map Value.bool) ∧ W4.ownsRow W0.heap.size 86 4 (.slice qo Z.length qc) Z.length (flatA4 Z)) := ⟨HR.out.1.later hb4, row_below9 HR.out.2.1 hb4, row_below9 HR.out.2.2 hb4⟩
      obtain ⟨c0, c1, y0, y1⟩ := cell_two H4.out.1.box
      have cs := lt_of_get H4.out.1.box
      have HPU : Hid (type_of% (rputW_calls (some ⟨fb, 0, none⟩) n fd qo qc Z (s0, s1, s2, (v : Int)) H4.out.2.2 HZO.out.1 HZO.out.2 H4.out.1.size)) := rputW_calls (some ⟨fb, 0, none⟩) n fd qo qc Z (s0, s1, s2, (v : Int)) H4.out.2.2 HZO.out.1 HZO.out.2 H4.out.1.size
      have i1 : (k : Int) < (L.length : Int) := by omega
      have i2 : (0 : Int) ≤ (k : Int) := by omega
      have hL := HLN.out
      clear hs hW4 hb4 k4
      go_upto_region 6 with fail
      rw [HW4.out]
      clear p0 p1 p2 bl
      go_wp2_with fail
      refine HPU.out.mono ?_
      rintro e w5 ⟨ro, rc, d, rfl, ho5, hb5⟩
      have H5 : Hid (CBx w W0 w5 (.slice (some ⟨fb, 0, none⟩) n fd) (.slice qo Z.length qc) (.slice (some ⟨b, off, none⟩) L.length lc) L ∧ w5.ownsRow W0.heap.size 4 1 (.slice (some ⟨fb, 0, none⟩) n fd) n ((bs.set v false).map Value.bool) ∧ w5.ownsRow W0.heap.size 86 4 (.slice ro (putW Z (s0, s1, s2, (v : Int))).length rc) (putW Z (s0, s1, s2, (v : Int))).length (flatA4 (putW Z (s0, s1, s2, (v : Int))))) := ⟨H4.out.1.later hb5, row_below9 H4.out.2.1 hb5, ho5⟩
      clear ho5 hb5 c0 c1 y0 y1 cs e0 e1 e2 es HPU
      generalize putW Z (s0, s1, s2, (v : Int)) = Z2 at *
      obtain ⟨c0, c1, y0, y1⟩ := cell_two H5.out.1.box
      have cs := lt_of_get H5.out.1.box
      have hlow := H5.out.1.low
      have H6 : Hid (CBx w W0 ((w5.setCell ⟨w.heap.size, 0, none⟩ (.slice (some ⟨fb, 0, none⟩) n fd)).setCell ⟨w.heap.size, 1, none⟩ (.slice ro Z2.length rc)) (.slice (some ⟨fb, 0, none⟩) n fd) (.slice ro Z2.length rc) (.slice (some ⟨b, off, none⟩) L.length lc) L ∧ ((w5.setCell ⟨w.heap.size, 0, none⟩ (.slice (some ⟨fb, 0, none⟩) n fd)).setCell ⟨w.heap.size, 1, none⟩ (.slice ro Z2.length rc)).ownsRow W0.heap.size 4 1 (.slice (some ⟨fb, 0, none⟩) n fd) n ((bs.set v false).map Value.bool) ∧ ((w5.setCell ⟨w.heap.size, 0, none⟩ (.slice (some ⟨fb, 0, none⟩) n fd)).setCell ⟨w.heap.size, 1, none⟩ (.slice ro Z2.length rc)).ownsRow W0.heap.size 86 4 (.slice ro Z2.length rc) Z2.length (flatA4 Z2)) := ⟨H5.out.1.put, row_set9 H5.out.2.1 (by omega), row_set9 H5.out.2.2 (by omega)⟩
      clear hlow
      go_wp2
      go_roundw
      case rel => exact ⟨k + 1, ro, rc, by omega, by go_num, by rw [HSU.out]; exact H6.out⟩
      case measure => simp [intOf]; omega
    · obtain rfl : k = L.length := by omega
      rw [List.take_length] at HR
      obtain ⟨Z, hZ⟩ : ∃ Z, contZ (v : Int) zs L = Z := ⟨_, rfl⟩
      have HCZ : Hid (contZ (v : Int) zs L = Z) := hZ
      rw [show putsZ (v : Int) (remZ zs (v : Int)) L = contZ (v : Int) zs L from rfl, hZ] at HR
      clear hZ
      obtain ⟨c0, c1, _, _⟩ := cell_two HR.out.1.box
      have cs := lt_of_get HR.out.1.box
      obtain ⟨b0, b1, y0, y1⟩ := cell_two HR.out.1.res
      have yl := lt_of_get HR.out.1.res
      have hlow := HR.out.1.low
      have HZ : Hid (((wr.setCell ⟨w.heap.size + 1 + 1, 0, none⟩ (.slice (some ⟨fb, 0, none⟩) n fd)).setCell ⟨w.heap.size + 1 + 1, 1, none⟩ (.slice qo Z.length qc)).ownsRow W0.heap.size 4 1 (.slice (some ⟨fb, 0, none⟩) n fd) n ((bs.set v false).map Value.bool) ∧ ((wr.setCell ⟨w.heap.size + 1 + 1, 0, none⟩ (.slice (some ⟨fb, 0, none⟩) n fd)).setCell ⟨w.heap.size + 1 + 1, 1, none⟩ (.slice qo Z.length qc)).ownsRow W0.heap.size 86 4 (.slice qo Z.length qc) Z.length (flatA4 Z) ∧ ((wr.setCell ⟨w.heap.size + 1 + 1, 0, none⟩ (.slice (some ⟨fb, 0, none⟩) n fd)).setCell ⟨w.heap.size + 1 + 1, 1, none⟩ (.slice qo Z.length qc)).ownsRow W0.heap.size 68 3 (.slice lo L.length lc) L.length (flatS L) ∧ Below w.heap.size w ((wr.setCell ⟨w.heap.size + 1 + 1, 0, none⟩ (.slice (some ⟨fb, 0, none⟩) n fd)).setCell ⟨w.heap.size + 1 + 1, 1, none⟩ (.slice qo Z.length qc)) ∧ w.heap.size ≤ W0.heap.size) := ⟨row_set9 HR.out.2.1 (by omega), row_set9 HR.out.2.2 (by omega), row_set9 HR.out.1.ls (by omega), Below.layAt HR.out.1.below (by omega) _ _, by omega⟩
      have HTS : Hid (type_of% (cell_two (two_set (v0 := .slice (some ⟨fb, 0, none⟩) n fd) (v1 := .slice qo Z.length qc) HR.out.1.res))) := cell_two (two_set (v0 := .slice (some ⟨fb, 0, none⟩) n fd) (v1 := .slice qo Z.length qc) HR.out.1.res)
      clear hlow
      go_wp2
      obtain ⟨u0, u1, _, _⟩ := HTS.out
      generalize ((wr.setCell ⟨w.heap.size + 1 + 1, 0, none⟩ (.slice (some ⟨fb, 0, none⟩) n fd)).setCell ⟨w.heap.size + 1 + 1, 1, none⟩ (.slice qo Z.length qc)) = Wf at *
      exact bodyPost_ret (v := .tuple #[.agg #[.slice (some ⟨fb, 0, none⟩) n fd, .slice qo Z.length qc], .slice lo L.length lc]) (by simp [results, Tryz.results19, go_sem, u0, u1]) rfl (by rw [HCZ.out]; exact ⟨_, fd, qo, qc, lo, lc, rfl, ss_of_row HZ.out.2.2.1, rowX_base HZ.out.1 HZ.out.2.2.2.2, rowX_base HZ.out.2.1 HZ.out.2.2.2.2, HZ.out.2.2.2.1⟩)
end
end Go.Proofs.YtbkclhaonbjobaaGreatDoor.Wt
