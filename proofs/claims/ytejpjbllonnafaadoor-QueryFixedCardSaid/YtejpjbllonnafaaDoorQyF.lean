/- the law QueryFixed. (genqf.py) -/
import Derived.Test.YtejpjbllonnafaaDoorQyX
import Derived.Test.YtejpjbllonnafaaDoorSeen
import Derived.Test.YtejpjbllonnafaaDoorDocCheck
import Derived.Test.YtejpjbllonnafaaDoorHdA
namespace Go.Proofs.YtejpjbllonnafaaDoor.Qy
open Go.RowKit Go.Extern Go.Shelf Hi Cb

attribute [local go_sem] Oper.semAt_some

/-- an answer that is an error. -/
theorem mr_err {h : Hr} {s t : Int} {r : Nat} {d : Int} {u : Value} {w : World} {E : Int × List (Int × Int)} (hE : qErr h s t = E) (hne : E ≠ (0, [])) (g : MR h s t r d u ∧ IsTold w (qErr h s t) u) : r = 0 ∧ d = 0 ∧ (∃ T x, u = .iface T x) ∧ IsTold w E u := by
  rcases g with ⟨⟨g1, g2, _⟩ | ⟨_, g2, g3, g4⟩, g5⟩
  · rw [qErr_ok g1 g2] at hE
    exact absurd hE.symm hne
  · exact ⟨g2, g3, g4, by rw [← hE]; exact g5⟩
theorem dist_err (v : HV) (h : Hr) (s t : Int) (E : Int × List (Int × Int)) (w : World) (hH : HasH w v h) (hb1 : h.up.length ≤ 1152921504606846976) (hb2 : h.dn.length ≤ 1152921504606846976) (hb3 : h.node.length ≤ 1152921504606846976) (hE : qErr h s t = E) (hne : E ≠ (0, [])) :
    Calls Tryd.prog 6 #[hvl v h, .int .i64 s, .int .i64 t] w fun e w' => ∃ T x, e = .returned (.tuple #[.int .u64 0, .iface T x]) ∧ IsTold w' E (.iface T x) ∧ Below w.heap.size w w' :=
  (dist_calls v h s t w hH hb1 hb2 hb3).mono (by
    rintro e w' ⟨r, d, u, hm, rfl, hb⟩
    obtain ⟨rfl, rfl, ⟨T, x, rfl⟩, ht⟩ := mr_err hE hne hm
    exact ⟨T, x, rfl, ht, hb⟩)
theorem meet_err (v : HV) (h : Hr) (s t : Int) (E : Int × List (Int × Int)) (w : World) (hH : HasH w v h) (hb1 : h.up.length ≤ 1152921504606846976) (hb2 : h.dn.length ≤ 1152921504606846976) (hb3 : h.node.length ≤ 1152921504606846976) (hE : qErr h s t = E) (hne : E ≠ (0, [])) :
    Calls Tryd.prog 7 #[hvl v h, .int .i64 s, .int .i64 t] w fun e w' => ∃ T x, e = .returned (.tuple #[.int .i64 0, .iface T x]) ∧ IsTold w' E (.iface T x) ∧ Below w.heap.size w w' :=
  (meetR_calls v h s t w hH hb1 hb2 hb3).mono (by
    rintro e w' ⟨r, d, u, hm, rfl, hb⟩
    obtain ⟨rfl, rfl, ⟨T, x, rfl⟩, ht⟩ := mr_err hE hne hm
    exact ⟨T, x, rfl, ht, hb⟩)
theorem dist_yes (v : HV) (h : Hr) (s t r0 : Nat) (d0 : Int) (w : World) (hH : HasH w v h) (hb1 : h.up.length ≤ 1152921504606846976) (hb2 : h.dn.length ≤ 1152921504606846976) (hb3 : h.node.length ≤ 1152921504606846976) (hc : chk h = (0, [])) (hs : s < h.node.length) (ht : t < h.node.length) (hm : meetL h s t = some (r0, d0)) :
    Calls Tryd.prog 6 #[hvl v h, .int .i64 (s : Int), .int .i64 (t : Int)] w fun e w' => e = .returned (.tuple #[.int .u64 d0, .nilIface]) ∧ Below w.heap.size w w' :=
  (dist_calls v h s t w hH hb1 hb2 hb3).mono (by
    rintro e w' ⟨r, d, u, hm', rfl, hb⟩
    obtain ⟨rfl, rfl, rfl⟩ := mr_yes hc hs ht hm hm'.1
    exact ⟨rfl, hb⟩)
theorem meet_yes (v : HV) (h : Hr) (s t r0 : Nat) (d0 : Int) (w : World) (hH : HasH w v h) (hb1 : h.up.length ≤ 1152921504606846976) (hb2 : h.dn.length ≤ 1152921504606846976) (hb3 : h.node.length ≤ 1152921504606846976) (hc : chk h = (0, [])) (hs : s < h.node.length) (ht : t < h.node.length) (hm : meetL h s t = some (r0, d0)) :
    Calls Tryd.prog 7 #[hvl v h, .int .i64 (s : Int), .int .i64 (t : Int)] w fun e w' => e = .returned (.tuple #[.int .i64 (r0 : Int), .nilIface]) ∧ Below w.heap.size w w' :=
  (meetR_calls v h s t w hH hb1 hb2 hb3).mono (by
    rintro e w' ⟨r, d, u, hm', rfl, hb⟩
    obtain ⟨rfl, rfl, rfl⟩ := mr_yes hc hs ht hm hm'.1
    exact ⟨rfl, hb⟩)
def noneH : Hr := ⟨[], [], [], [], []⟩
def noneV : HV := ⟨none, none, none, none, none, 0, 0, 0, 0, 0⟩
theorem none_has (w : World) : HasH w noneV noneH := by
  refine ⟨⟨none, 0, rfl, Nat.le_refl _, fun j a hj => by simp [noneH] at hj⟩, ⟨none, 0, rfl, Nat.le_refl _, fun j a hj => by simp [noneH] at hj⟩, ?_, ⟨none, 0, rfl, Nat.le_refl _, fun j a hj => by simp [noneH] at hj⟩, ?_⟩
  · exact ⟨none, 0, rfl, Nat.le_refl _, fun j a hj => by simp [noneH] at hj⟩
  · exact ⟨none, 0, rfl, Nat.le_refl _, fun j a hj => by simp [noneH] at hj⟩
theorem meet_three2 : meetL three 1 1 = some (0, 0) := by kernel_rfl
theorem err_three : qErr three 2 0 = (16, []) ∧ qErr three 3 9 = (7, [(3, 0)]) ∧ qErr three 0 (-1) = (7, [(3, 1)]) ∧ qErr three (-1) 0 = (7, [(3, 0)]) ∧ qErr noneH (-1) 0 = (14, []) := by
  refine ⟨?_, ?_, ?_, ?_, ?_⟩ <;> kernel_rfl

set_option maxRecDepth 100000 in
set_option maxHeartbeats 16000000 in
theorem fixed21_calls (w : World) (hty : HasType w) : Calls Tryd.prog 3 #[] w fun e w' => e = .returned (.bool true) ∧ Below w.heap.size w w' := by
  have HTY : Hid (∀ wx, Below w.heap.size w wx → HasType wx) := fun wx h => hty.keep h hty.pos
  have HSE : Hid (∀ wx (E : Int × List (Int × Int)) (u : Value) (lo : Option Addr) (lc : Nat), Below w.heap.size w wx → IsTold wx E u → HasPlaces wx (.slice lo E.2.length lc) E.2 → E.2.length ≤ 1 → Calls Tryd.prog 8 #[u, .agg #[.int .i64 E.1, .slice lo E.2.length lc]] wx fun r w' => r = .returned (.bool true) ∧ Below wx.heap.size wx w') := fun wx E u lo lc hb ht hp hl => seen_told E u lo lc wx ht hp (Nat.le_trans hl (by decide)) (HTY.out wx hb)
  obtain ⟨h, hh⟩ : ∃ h, three = h := ⟨_, rfl⟩
  have HT : Hid (∀ wx : World, Calls Tryd.prog 5 #[] wx fun e w' => ∃ v, e = .returned (hvl v h) ∧ HasH w' v h ∧ Below wx.heap.size wx w') := fun wx => by rw [← hh]; exact three_calls wx
  have K1 : Hid (∀ wx v, HasH wx v h → Calls Tryd.prog 6 #[hvl v h, .int .i64 (0), .int .i64 (1)] wx fun e w' => e = .returned (.tuple #[.int .u64 4, .nilIface]) ∧ Below wx.heap.size wx w') := fun wx v hv => dist_yes v h 0 1 1 4 wx hv (by rw [← hh]; decide) (by rw [← hh]; decide) (by rw [← hh]; decide) (by rw [← hh]; exact chk_three) (by rw [← hh]; decide) (by rw [← hh]; decide) (by rw [← hh]; exact meet_three.2)
  have K2 : Hid (∀ wx v, HasH wx v h → Calls Tryd.prog 6 #[hvl v h, .int .i64 (1), .int .i64 (1)] wx fun e w' => e = .returned (.tuple #[.int .u64 0, .nilIface]) ∧ Below wx.heap.size wx w') := fun wx v hv => dist_yes v h 1 1 0 0 wx hv (by rw [← hh]; decide) (by rw [← hh]; decide) (by rw [← hh]; decide) (by rw [← hh]; exact chk_three) (by rw [← hh]; decide) (by rw [← hh]; decide) (by rw [← hh]; exact meet_three2)
  have K3 : Hid (∀ wx v, HasH wx v h → Calls Tryd.prog 7 #[hvl v h, .int .i64 (0), .int .i64 (2)] wx fun e w' => e = .returned (.tuple #[.int .i64 2, .nilIface]) ∧ Below wx.heap.size wx w') := fun wx v hv => meet_yes v h 0 2 2 5 wx hv (by rw [← hh]; decide) (by rw [← hh]; decide) (by rw [← hh]; decide) (by rw [← hh]; exact chk_three) (by rw [← hh]; decide) (by rw [← hh]; decide) (by rw [← hh]; exact meet_three.1)
  have K4 : Hid (∀ wx v, HasH wx v h → Calls Tryd.prog 7 #[hvl v h, .int .i64 (1), .int .i64 (1)] wx fun e w' => e = .returned (.tuple #[.int .i64 0, .nilIface]) ∧ Below wx.heap.size wx w') := fun wx v hv => meet_yes v h 1 1 0 0 wx hv (by rw [← hh]; decide) (by rw [← hh]; decide) (by rw [← hh]; decide) (by rw [← hh]; exact chk_three) (by rw [← hh]; decide) (by rw [← hh]; decide) (by rw [← hh]; exact meet_three2)
  have K5 : Hid (∀ wx v, HasH wx v h → Calls Tryd.prog 6 #[hvl v h, .int .i64 (2), .int .i64 (0)] wx fun e w' => ∃ T x, e = .returned (.tuple #[.int .u64 0, .iface T x]) ∧ IsTold w' (16, []) (.iface T x) ∧ Below wx.heap.size wx w') := fun wx v hv => dist_err v h (2) (0) (16, []) wx hv (by rw [← hh]; decide) (by rw [← hh]; decide) (by rw [← hh]; decide) (by rw [← hh]; exact err_three.1) (by simp)
  have K6 : Hid (∀ wx v, HasH wx v h → Calls Tryd.prog 6 #[hvl v h, .int .i64 (3), .int .i64 (9)] wx fun e w' => ∃ T x, e = .returned (.tuple #[.int .u64 0, .iface T x]) ∧ IsTold w' (7, [(3, 0)]) (.iface T x) ∧ Below wx.heap.size wx w') := fun wx v hv => dist_err v h (3) (9) (7, [(3, 0)]) wx hv (by rw [← hh]; decide) (by rw [← hh]; decide) (by rw [← hh]; decide) (by rw [← hh]; exact err_three.2.1) (by simp)
  have K7 : Hid (∀ wx v, HasH wx v h → Calls Tryd.prog 6 #[hvl v h, .int .i64 (0), .int .i64 (-1)] wx fun e w' => ∃ T x, e = .returned (.tuple #[.int .u64 0, .iface T x]) ∧ IsTold w' (7, [(3, 1)]) (.iface T x) ∧ Below wx.heap.size wx w') := fun wx v hv => dist_err v h (0) (-1) (7, [(3, 1)]) wx hv (by rw [← hh]; decide) (by rw [← hh]; decide) (by rw [← hh]; decide) (by rw [← hh]; exact err_three.2.2.1) (by simp)
  have K8 : Hid (∀ wx v, HasH wx v h → Calls Tryd.prog 7 #[hvl v h, .int .i64 (2), .int .i64 (0)] wx fun e w' => ∃ T x, e = .returned (.tuple #[.int .i64 0, .iface T x]) ∧ IsTold w' (16, []) (.iface T x) ∧ Below wx.heap.size wx w') := fun wx v hv => meet_err v h (2) (0) (16, []) wx hv (by rw [← hh]; decide) (by rw [← hh]; decide) (by rw [← hh]; decide) (by rw [← hh]; exact err_three.1) (by simp)
  have K9 : Hid (∀ wx v, HasH wx v h → Calls Tryd.prog 7 #[hvl v h, .int .i64 (-1), .int .i64 (0)] wx fun e w' => ∃ T x, e = .returned (.tuple #[.int .i64 0, .iface T x]) ∧ IsTold w' (7, [(3, 0)]) (.iface T x) ∧ Below wx.heap.size wx w') := fun wx v hv => meet_err v h (-1) (0) (7, [(3, 0)]) wx hv (by rw [← hh]; decide) (by rw [← hh]; decide) (by rw [← hh]; decide) (by rw [← hh]; exact err_three.2.2.2.1) (by simp)
  have KA : Hid (∀ wx, Calls Tryd.prog 6 #[.agg #[.slice none 0 0, .slice none 0 0, .slice none 0 0, .slice none 0 0, .slice none 0 0], .int .i64 (-1), .int .i64 0] wx fun e w' => ∃ T x, e = .returned (.tuple #[.int .u64 0, .iface T x]) ∧ IsTold w' (14, []) (.iface T x) ∧ Below wx.heap.size wx w') := fun wx => dist_err noneV noneH (-1) 0 (14, []) wx (none_has wx) (by decide) (by decide) (by decide) err_three.2.2.2.2 (by simp)
  clear hty hh
  unfold hvl at HT K1 K2 K3 K4 K5 K6 K7 K8 K9
  go_enter Tryd.func3, Tryd.ntmps3
  go_wp2_with fail
  refine (awake21_calls w).mono ?_
  rintro e w1 ⟨rfl, hb⟩
  have H1 : Hid (Below w.heap.size w w1) := hb
  clear hb
  go_wp2_with fail
  refine (HT.out w1).mono ?_
  rintro e w2 ⟨v, rfl, hH, hb⟩
  obtain ⟨q, hq⟩ : ∃ q, w2.heap.size = q := ⟨_, rfl⟩
  obtain ⟨WB, hWB⟩ : ∃ W, w2.alloc (.cells (cellsH v h) 26) = W := ⟨_, rfl⟩
  have HWB : Hid (w2.alloc (.cells (cellsH v h) 26) = WB) := hWB
  have HQ : Hid (∀ wx, Below WB.heap.size WB wx → (wx.cell? ⟨q, 0, none⟩ = some (.slice v.no h.node.length v.nc) ∧ wx.cell? ⟨q, 1, none⟩ = some (.slice v.uo h.upF.length v.uc) ∧ wx.cell? ⟨q, 2, none⟩ = some (.slice v.ul h.up.length v.ulc) ∧ wx.cell? ⟨q, 3, none⟩ = some (.slice v.wo h.dnF.length v.wc) ∧ wx.cell? ⟨q, 4, none⟩ = some (.slice v.dl h.dn.length v.dlc)) ∧ HasH wx v h ∧ Below w.heap.size w wx) := fun wx hx => by
    have g : WB.heap[q]? = some (.cells (cellsH v h) 26) := by rw [← hWB, ← hq]; exact heap_newW _ _
    have g2 : Below w2.heap.size w2 WB := by rw [← hWB]; exact (Below.refl _ _).alloc (Nat.le_refl _) _
    have g3 := btrH' g2 hx
    exact ⟨five_cells ((hx.block _ (some_lt g)).trans g), hH.keep g3, btrH' (btrH' H1.out hb) g3⟩
  clear hH hb hWB H1
  unfold cellsH at HWB
  go_upto_region 4 with fail
  rw [HWB.out]
  clear HWB hq
  have B0 : Hid (Below WB.heap.size WB WB) := Below.refl _ _
  obtain ⟨c0, c1, c2, c3, c4⟩ := (HQ.out WB B0.out).1
  go_wp2_with fail
  refine (K1.out WB v (HQ.out WB B0.out).2.1).mono ?_
  rintro e y1 ⟨rfl, hb⟩
  have B1 : Hid (Below WB.heap.size WB y1) := btrH' B0.out hb
  clear hb c0 c1 c2 c3 c4
  obtain ⟨c0, c1, c2, c3, c4⟩ := (HQ.out y1 B1.out).1
  go_wp2_with fail
  refine (K2.out y1 v (HQ.out y1 B1.out).2.1).mono ?_
  rintro e y2 ⟨rfl, hb⟩
  have B2 : Hid (Below WB.heap.size WB y2) := btrH' B1.out hb
  clear hb c0 c1 c2 c3 c4
  obtain ⟨c0, c1, c2, c3, c4⟩ := (HQ.out y2 B2.out).1
  go_wp2_with fail
  refine (K3.out y2 v (HQ.out y2 B2.out).2.1).mono ?_
  rintro e y3 ⟨rfl, hb⟩
  have B3 : Hid (Below WB.heap.size WB y3) := btrH' B2.out hb
  clear hb c0 c1 c2 c3 c4
  obtain ⟨c0, c1, c2, c3, c4⟩ := (HQ.out y3 B3.out).1
  go_wp2_with fail
  refine (K4.out y3 v (HQ.out y3 B3.out).2.1).mono ?_
  rintro e y4 ⟨rfl, hb⟩
  have B4 : Hid (Below WB.heap.size WB y4) := btrH' B3.out hb
  clear hb c0 c1 c2 c3 c4
  obtain ⟨c0, c1, c2, c3, c4⟩ := (HQ.out y4 B4.out).1
  go_wp2_with fail
  refine (K5.out y4 v (HQ.out y4 B4.out).2.1).mono ?_
  rintro e y5 ⟨T5, x5, rfl, ht, hb⟩
  have E5 : Hid (∀ wx, Below y5.heap.size y5 wx → IsTold wx (16, []) (.iface T5 x5)) := fun wx hx => ht.keep (Below.keeps hx)
  have B5 : Hid (Below WB.heap.size WB y5) := btrH' B4.out hb
  clear ht hb c0 c1 c2 c3 c4
  obtain ⟨c0, c1, c2, c3, c4⟩ := (HQ.out y5 B5.out).1
  go_wp2_with fail
  refine (K6.out y5 v (HQ.out y5 B5.out).2.1).mono ?_
  rintro e y6 ⟨T6, x6, rfl, ht, hb⟩
  have E6 : Hid (∀ wx, Below y6.heap.size y6 wx → IsTold wx (7, [(3, 0)]) (.iface T6 x6)) := fun wx hx => ht.keep (Below.keeps hx)
  have D6 : Hid (Below y5.heap.size y5 y6) := hb
  have B6 : Hid (Below WB.heap.size WB y6) := btrH' B5.out hb
  clear ht hb c0 c1 c2 c3 c4
  obtain ⟨c0, c1, c2, c3, c4⟩ := (HQ.out y6 B6.out).1
  go_wp2_with fail
  refine (K7.out y6 v (HQ.out y6 B6.out).2.1).mono ?_
  rintro e y7 ⟨T7, x7, rfl, ht, hb⟩
  have E7 : Hid (∀ wx, Below y7.heap.size y7 wx → IsTold wx (7, [(3, 1)]) (.iface T7 x7)) := fun wx hx => ht.keep (Below.keeps hx)
  have D7 : Hid (Below y6.heap.size y6 y7) := hb
  have B7 : Hid (Below WB.heap.size WB y7) := btrH' B6.out hb
  clear ht hb c0 c1 c2 c3 c4
  obtain ⟨c0, c1, c2, c3, c4⟩ := (HQ.out y7 B7.out).1
  go_wp2_with fail
  refine (K8.out y7 v (HQ.out y7 B7.out).2.1).mono ?_
  rintro e y8 ⟨T8, x8, rfl, ht, hb⟩
  have E8 : Hid (∀ wx, Below y8.heap.size y8 wx → IsTold wx (16, []) (.iface T8 x8)) := fun wx hx => ht.keep (Below.keeps hx)
  have D8 : Hid (Below y7.heap.size y7 y8) := hb
  have B8 : Hid (Below WB.heap.size WB y8) := btrH' B7.out hb
  clear ht hb c0 c1 c2 c3 c4
  obtain ⟨c0, c1, c2, c3, c4⟩ := (HQ.out y8 B8.out).1
  go_wp2_with fail
  refine (K9.out y8 v (HQ.out y8 B8.out).2.1).mono ?_
  rintro e y9 ⟨T9, x9, rfl, ht, hb⟩
  have E9 : Hid (∀ wx, Below y9.heap.size y9 wx → IsTold wx (7, [(3, 0)]) (.iface T9 x9)) := fun wx hx => ht.keep (Below.keeps hx)
  have D9 : Hid (Below y8.heap.size y8 y9) := hb
  have B9 : Hid (Below WB.heap.size WB y9) := btrH' B8.out hb
  clear ht hb c0 c1 c2 c3 c4
  go_wp2_with fail
  refine (KA.out y9).mono ?_
  rintro e y10 ⟨T10, x10, rfl, ht, hb⟩
  have E10 : Hid (∀ wx, Below y10.heap.size y10 wx → IsTold wx (14, []) (.iface T10 x10)) := fun wx hx => ht.keep (Below.keeps hx)
  have D10 : Hid (Below y9.heap.size y9 y10) := hb
  have B10 : Hid (Below WB.heap.size WB y10) := btrH' B9.out hb
  clear ht hb
  have F5 : Hid (∀ wx, Below y10.heap.size y10 wx → IsTold wx (16, []) (.iface T5 x5)) := fun wx hx => E5.out wx (btrH' (btrH' (btrH' (btrH' (btrH' D6.out D7.out) D8.out) D9.out) D10.out) hx)
  have F6 : Hid (∀ wx, Below y10.heap.size y10 wx → IsTold wx (7, [(3, 0)]) (.iface T6 x6)) := fun wx hx => E6.out wx (btrH' (btrH' (btrH' (btrH' D7.out D8.out) D9.out) D10.out) hx)
  have F7 : Hid (∀ wx, Below y10.heap.size y10 wx → IsTold wx (7, [(3, 1)]) (.iface T7 x7)) := fun wx hx => E7.out wx (btrH' (btrH' (btrH' D8.out D9.out) D10.out) hx)
  have F8 : Hid (∀ wx, Below y10.heap.size y10 wx → IsTold wx (16, []) (.iface T8 x8)) := fun wx hx => E8.out wx (btrH' (btrH' D9.out D10.out) hx)
  have F9 : Hid (∀ wx, Below y10.heap.size y10 wx → IsTold wx (7, [(3, 0)]) (.iface T9 x9)) := fun wx hx => E9.out wx (btrH' D10.out hx)
  have F10 := E10
  clear E5 E6 E7 E8 E9 E10 D6 D7 D8 D9 D10
  have HUP : Hid (∀ wx, Below y10.heap.size y10 wx → Below w.heap.size w wx) := fun wx hx => (HQ.out wx (btrH' B10.out hx)).2.2
  have G0 : Hid (Below y10.heap.size y10 y10) := Below.refl _ _
  go_wp2_with fail
  refine (E_calls 16 y10).mono ?_
  rintro e z1 ⟨rfl, hb⟩
  have G1 : Hid (Below y10.heap.size y10 z1) := btrH' G0.out hb
  clear hb
  go_wp2_with fail
  refine (HSE.out z1 (16, []) (.iface T5 x5) none 0 (HUP.out _ G1.out) (F5.out _ G1.out) (pl_nil _) (by decide)).mono ?_
  rintro e z2 ⟨rfl, hb⟩
  have G2 : Hid (Below y10.heap.size y10 z2) := btrH' G1.out hb
  clear hb
  go_wp2_with fail
  refine (E_calls 7 z2).mono ?_
  rintro e z3 ⟨rfl, hb⟩
  have G3 : Hid (Below y10.heap.size y10 z3) := btrH' G2.out hb
  clear hb
  go_wp2_with fail
  refine (refAt_calls 3 0 7 z3).mono ?_
  rintro e z4 ⟨g6, rfl, hg, hb⟩
  have G4 : Hid (Below y10.heap.size y10 z4) := btrH' G3.out hb
  have P6 : Hid (HasPlaces z4 (.slice (some ⟨g6, 0, none⟩) 1 1) [(3, 0)]) := pl_one hg
  clear hg
  clear hb
  go_wp2_with fail
  refine (HSE.out z4 (7, [(3, 0)]) (.iface T6 x6) (some ⟨g6, 0, none⟩) 1 (HUP.out _ G4.out) (F6.out _ G4.out) P6.out (by decide)).mono ?_
  rintro e z5 ⟨rfl, hb⟩
  have G5 : Hid (Below y10.heap.size y10 z5) := btrH' G4.out hb
  clear hb
  go_wp2_with fail
  refine (E_calls 7 z5).mono ?_
  rintro e z6 ⟨rfl, hb⟩
  have G6 : Hid (Below y10.heap.size y10 z6) := btrH' G5.out hb
  clear hb
  go_wp2_with fail
  refine (refAt_calls 3 1 7 z6).mono ?_
  rintro e z7 ⟨g7, rfl, hg, hb⟩
  have G7 : Hid (Below y10.heap.size y10 z7) := btrH' G6.out hb
  have P7 : Hid (HasPlaces z7 (.slice (some ⟨g7, 0, none⟩) 1 1) [(3, 1)]) := pl_one hg
  clear hg
  clear hb
  go_wp2_with fail
  refine (HSE.out z7 (7, [(3, 1)]) (.iface T7 x7) (some ⟨g7, 0, none⟩) 1 (HUP.out _ G7.out) (F7.out _ G7.out) P7.out (by decide)).mono ?_
  rintro e z8 ⟨rfl, hb⟩
  have G8 : Hid (Below y10.heap.size y10 z8) := btrH' G7.out hb
  clear hb
  go_wp2_with fail
  refine (E_calls 16 z8).mono ?_
  rintro e z9 ⟨rfl, hb⟩
  have G9 : Hid (Below y10.heap.size y10 z9) := btrH' G8.out hb
  clear hb
  go_wp2_with fail
  refine (HSE.out z9 (16, []) (.iface T8 x8) none 0 (HUP.out _ G9.out) (F8.out _ G9.out) (pl_nil _) (by decide)).mono ?_
  rintro e z10 ⟨rfl, hb⟩
  have G10 : Hid (Below y10.heap.size y10 z10) := btrH' G9.out hb
  clear hb
  go_wp2_with fail
  refine (E_calls 7 z10).mono ?_
  rintro e z11 ⟨rfl, hb⟩
  have G11 : Hid (Below y10.heap.size y10 z11) := btrH' G10.out hb
  clear hb
  go_wp2_with fail
  refine (refAt_calls 3 0 7 z11).mono ?_
  rintro e z12 ⟨g9, rfl, hg, hb⟩
  have G12 : Hid (Below y10.heap.size y10 z12) := btrH' G11.out hb
  have P9 : Hid (HasPlaces z12 (.slice (some ⟨g9, 0, none⟩) 1 1) [(3, 0)]) := pl_one hg
  clear hg
  clear hb
  go_wp2_with fail
  refine (HSE.out z12 (7, [(3, 0)]) (.iface T9 x9) (some ⟨g9, 0, none⟩) 1 (HUP.out _ G12.out) (F9.out _ G12.out) P9.out (by decide)).mono ?_
  rintro e z13 ⟨rfl, hb⟩
  have G13 : Hid (Below y10.heap.size y10 z13) := btrH' G12.out hb
  clear hb
  go_wp2_with fail
  refine (E_calls 14 z13).mono ?_
  rintro e z14 ⟨rfl, hb⟩
  have G14 : Hid (Below y10.heap.size y10 z14) := btrH' G13.out hb
  clear hb
  go_wp2_with fail
  refine (HSE.out z14 (14, []) (.iface T10 x10) none 0 (HUP.out _ G14.out) (F10.out _ G14.out) (pl_nil _) (by decide)).mono ?_
  rintro e z15 ⟨rfl, hb⟩
  have G15 : Hid (Below y10.heap.size y10 z15) := btrH' G14.out hb
  clear hb
  go_wp2
  go_ret
  exact ⟨rfl, HUP.out _ G15.out⟩
end Go.Proofs.YtejpjbllonnafaaDoor.Qy
