/- the law ClimbFixed. (gencf.py) -/
import Derived.Test.YtocgbgjpafdhmaaDoorCbX
import Derived.Test.YtocgbgjpafdhmaaDoorSeen
import Derived.Test.YtocgbgjpafdhmaaDoorDocCheck
import Derived.Test.YtocgbgjpafdhmaaDoorHdA
namespace Go.Proofs.YtocgbgjpafdhmaaDoor.Cb
open Go.RowKit Go.Extern Go.Shelf Hi

attribute [local go_sem] Oper.semAt_some

def noneH : Hr := ⟨[], [], [], [], []⟩
def noneV : HV := ⟨none, none, none, none, none, 0, 0, 0, 0, 0⟩
theorem none_has (w : World) : HasH w noneV noneH := by
  refine ⟨⟨none, 0, rfl, Nat.le_refl _, fun j a hj => by simp [noneH] at hj⟩, ⟨none, 0, rfl, Nat.le_refl _, fun j a hj => by simp [noneH] at hj⟩, ?_, ⟨none, 0, rfl, Nat.le_refl _, fun j a hj => by simp [noneH] at hj⟩, ?_⟩
  · exact ⟨none, 0, rfl, Nat.le_refl _, fun j a hj => by simp [noneH] at hj⟩
  · exact ⟨none, 0, rfl, Nat.le_refl _, fun j a hj => by simp [noneH] at hj⟩
theorem cerrs : cErr three = (7, []) ∧ cErr noneH = (14, []) := by
  refine ⟨?_, ?_⟩ <;> kernel_rfl
theorem none_no : chk noneH ≠ (0, []) := by
  have e : chk noneH = (14, []) := by kernel_rfl
  rw [e]
  simp
theorem ups : upL three 1 = [(1, 0, false), (2, 5, false)] ∧ upL three 0 = [(0, 0, false), (2, 1, false)] ∧ upL three 2 = [(2, 0, false)] ∧ dnL three 2 = [(2, 0, false)] := by
  refine ⟨?_, ?_, ?_, ?_⟩ <;> kernel_rfl

set_option maxRecDepth 100000 in
set_option maxHeartbeats 16000000 in
theorem fixed20_calls (w : World) (hty : HasType w) : Calls Tryd.prog 4 #[] w fun e w' => e = .returned (.bool true) ∧ Below w.heap.size w w' := by
  have HTY : Hid (∀ wx, Below w.heap.size w wx → HasType wx) := fun wx h => hty.keep h hty.pos
  have HSE : Hid (∀ wx (E : Int × List (Int × Int)) (u : Value) (lo : Option Addr) (lc : Nat), Below w.heap.size w wx → IsTold wx E u → HasPlaces wx (.slice lo E.2.length lc) E.2 → E.2.length ≤ 1 → Calls Tryd.prog 10 #[u, .agg #[.int .i64 E.1, .slice lo E.2.length lc]] wx fun r w' => r = .returned (.bool true) ∧ Below wx.heap.size wx w') := fun wx E u lo lc hb ht hp hl => seen_told E u lo lc wx ht hp (Nat.le_trans hl (by decide)) (HTY.out wx hb)
  obtain ⟨h, hh⟩ : ∃ h, three = h := ⟨_, rfl⟩
  have HT : Hid (∀ wx : World, Calls Tryd.prog 11 #[] wx fun e w' => ∃ v, e = .returned (hvl v h) ∧ HasH w' v h ∧ Below wx.heap.size wx w') := fun wx => by rw [← hh]; exact three_calls wx
  have K1 : Hid (∀ wx v, HasH wx v h → Calls Tryd.prog 7 #[hvl v h, .int .i64 (1)] wx fun e w' => ∃ mo mc, e = .returned (.tuple #[.slice mo 2 mc, .nilIface]) ∧ w'.ownsRow wx.heap.size 41 3 (.slice mo 2 mc) 2 (snv [(1, 0, false), (2, 5, false)]) ∧ Below wx.heap.size wx w') := fun wx v hv => (up_ok v h 1 wx hv (by rw [← hh]; exact chk_three) (by rw [← hh]; decide)).mono (by
    rintro e w' ⟨mo, mc, X, hX, rfl, ho, hb⟩
    rw [← hh, ups.1] at hX
    subst hX
    exact ⟨mo, mc, rfl, ho, hb⟩)
  have K2 : Hid (∀ wx v, HasH wx v h → Calls Tryd.prog 7 #[hvl v h, .int .i64 (0)] wx fun e w' => ∃ mo mc, e = .returned (.tuple #[.slice mo 2 mc, .nilIface]) ∧ w'.ownsRow wx.heap.size 41 3 (.slice mo 2 mc) 2 (snv [(0, 0, false), (2, 1, false)]) ∧ Below wx.heap.size wx w') := fun wx v hv => (up_ok v h 0 wx hv (by rw [← hh]; exact chk_three) (by rw [← hh]; decide)).mono (by
    rintro e w' ⟨mo, mc, X, hX, rfl, ho, hb⟩
    rw [← hh, ups.2.1] at hX
    subst hX
    exact ⟨mo, mc, rfl, ho, hb⟩)
  have K3 : Hid (∀ wx v, HasH wx v h → Calls Tryd.prog 7 #[hvl v h, .int .i64 (2)] wx fun e w' => ∃ mo mc, e = .returned (.tuple #[.slice mo 1 mc, .nilIface]) ∧ w'.ownsRow wx.heap.size 41 3 (.slice mo 1 mc) 1 (snv [(2, 0, false)]) ∧ Below wx.heap.size wx w') := fun wx v hv => (up_ok v h 2 wx hv (by rw [← hh]; exact chk_three) (by rw [← hh]; decide)).mono (by
    rintro e w' ⟨mo, mc, X, hX, rfl, ho, hb⟩
    rw [← hh, ups.2.2.1] at hX
    subst hX
    exact ⟨mo, mc, rfl, ho, hb⟩)
  have K4 : Hid (∀ wx v, HasH wx v h → Calls Tryd.prog 12 #[hvl v h, .int .i64 (2)] wx fun e w' => ∃ mo mc, e = .returned (.tuple #[.slice mo 1 mc, .nilIface]) ∧ w'.ownsRow wx.heap.size 41 3 (.slice mo 1 mc) 1 (snv [(2, 0, false)]) ∧ Below wx.heap.size wx w') := fun wx v hv => (down_ok v h 2 wx hv (by rw [← hh]; exact chk_three) (by rw [← hh]; decide)).mono (by
    rintro e w' ⟨mo, mc, X, hX, rfl, ho, hb⟩
    rw [← hh, ups.2.2.2] at hX
    subst hX
    exact ⟨mo, mc, rfl, ho, hb⟩)
  have K5 : Hid (∀ wx v, HasH wx v h → Calls Tryd.prog 7 #[hvl v h, .int .i64 (3)] wx fun e w' => ∃ T x, e = .returned (.tuple #[.slice none 0 0, .iface T x]) ∧ IsTold w' (7, []) (.iface T x) ∧ Below wx.heap.size wx w') := fun wx v hv => by
    have q := up_bad v h (3) wx hv (by rw [← hh]; decide) (by rw [← hh]; decide) (by rw [← hh]; decide) (Or.inr (by rw [← hh]; decide))
    rw [← hh, cerrs.1] at q
    rw [← hh]
    exact q
  have K6 : Hid (∀ wx v, HasH wx v h → Calls Tryd.prog 7 #[hvl v h, .int .i64 (-1)] wx fun e w' => ∃ T x, e = .returned (.tuple #[.slice none 0 0, .iface T x]) ∧ IsTold w' (7, []) (.iface T x) ∧ Below wx.heap.size wx w') := fun wx v hv => by
    have q := up_bad v h (-1) wx hv (by rw [← hh]; decide) (by rw [← hh]; decide) (by rw [← hh]; decide) (Or.inr (by rw [← hh]; decide))
    rw [← hh, cerrs.1] at q
    rw [← hh]
    exact q
  have K7 : Hid (∀ wx v, HasH wx v h → Calls Tryd.prog 12 #[hvl v h, .int .i64 (3)] wx fun e w' => ∃ T x, e = .returned (.tuple #[.slice none 0 0, .iface T x]) ∧ IsTold w' (7, []) (.iface T x) ∧ Below wx.heap.size wx w') := fun wx v hv => by
    have q := down_bad v h (3) wx hv (by rw [← hh]; decide) (by rw [← hh]; decide) (by rw [← hh]; decide) (Or.inr (by rw [← hh]; decide))
    rw [← hh, cerrs.1] at q
    rw [← hh]
    exact q
  have K8 : Hid (∀ wx, Calls Tryd.prog 12 #[.agg #[.slice none 0 0, .slice none 0 0, .slice none 0 0, .slice none 0 0, .slice none 0 0], .int .i64 0] wx fun e w' => ∃ T x, e = .returned (.tuple #[.slice none 0 0, .iface T x]) ∧ IsTold w' (14, []) (.iface T x) ∧ Below wx.heap.size wx w') := fun wx => by
    have q := down_bad noneV noneH 0 wx (none_has wx) (by decide) (by decide) (by decide) (Or.inl none_no)
    rw [cerrs.2] at q
    exact q
  have K9 : Hid (∀ wx, Calls Tryd.prog 7 #[.agg #[.slice none 0 0, .slice none 0 0, .slice none 0 0, .slice none 0 0, .slice none 0 0], .int .i64 0] wx fun e w' => ∃ T x, e = .returned (.tuple #[.slice none 0 0, .iface T x]) ∧ IsTold w' (14, []) (.iface T x) ∧ Below wx.heap.size wx w') := fun wx => by
    have q := up_bad noneV noneH 0 wx (none_has wx) (by decide) (by decide) (by decide) (Or.inl none_no)
    rw [cerrs.2] at q
    exact q
  have HO0 : Hid (∀ wx mo mc B, wx.ownsRow B 41 3 (.slice mo 2 mc) 2 (snv [(1, 0, false), (2, 5, false)]) → Calls Tryd.prog 14 #[.slice mo 2 mc] wx fun e w' => ∃ lo lc, e = .returned (.slice lo 2 lc) ∧ w'.ownsRow wx.heap.size 51 3 (.slice lo 2 lc) 2 (snv [(1, 0, false), (2, 5, false)]) ∧ Below wx.heap.size wx w') := fun wx mo mc B ho => of_calls B mo mc [(1, 0, false), (2, 5, false)] wx ho (by decide)
  have HS0 : Hid (∀ wx lo lc B mo mc B', wx.ownsRow B 51 3 (.slice lo 2 lc) 2 (snv [(1, 0, false), (2, 5, false)]) → wx.ownsRow B' 51 3 (.slice mo 2 mc) 2 (snv [(1, 0, false), (2, 5, false)]) → Calls Tryd.prog 13 #[.slice lo 2 lc, .slice mo 2 mc] wx fun e w' => e = .returned (.bool true) ∧ Below wx.heap.size wx w') := fun wx lo lc B mo mc B' h1 h2 => sSame_yes B B' lo mo lc mc [(1, 0, false), (2, 5, false)] wx h1 h2 (by decide)
  have HO1 : Hid (∀ wx mo mc B, wx.ownsRow B 41 3 (.slice mo 2 mc) 2 (snv [(0, 0, false), (2, 1, false)]) → Calls Tryd.prog 14 #[.slice mo 2 mc] wx fun e w' => ∃ lo lc, e = .returned (.slice lo 2 lc) ∧ w'.ownsRow wx.heap.size 51 3 (.slice lo 2 lc) 2 (snv [(0, 0, false), (2, 1, false)]) ∧ Below wx.heap.size wx w') := fun wx mo mc B ho => of_calls B mo mc [(0, 0, false), (2, 1, false)] wx ho (by decide)
  have HS1 : Hid (∀ wx lo lc B mo mc B', wx.ownsRow B 51 3 (.slice lo 2 lc) 2 (snv [(0, 0, false), (2, 1, false)]) → wx.ownsRow B' 51 3 (.slice mo 2 mc) 2 (snv [(0, 0, false), (2, 1, false)]) → Calls Tryd.prog 13 #[.slice lo 2 lc, .slice mo 2 mc] wx fun e w' => e = .returned (.bool true) ∧ Below wx.heap.size wx w') := fun wx lo lc B mo mc B' h1 h2 => sSame_yes B B' lo mo lc mc [(0, 0, false), (2, 1, false)] wx h1 h2 (by decide)
  have HO2 : Hid (∀ wx mo mc B, wx.ownsRow B 41 3 (.slice mo 1 mc) 1 (snv [(2, 0, false)]) → Calls Tryd.prog 14 #[.slice mo 1 mc] wx fun e w' => ∃ lo lc, e = .returned (.slice lo 1 lc) ∧ w'.ownsRow wx.heap.size 51 3 (.slice lo 1 lc) 1 (snv [(2, 0, false)]) ∧ Below wx.heap.size wx w') := fun wx mo mc B ho => of_calls B mo mc [(2, 0, false)] wx ho (by decide)
  have HS2 : Hid (∀ wx lo lc B mo mc B', wx.ownsRow B 51 3 (.slice lo 1 lc) 1 (snv [(2, 0, false)]) → wx.ownsRow B' 51 3 (.slice mo 1 mc) 1 (snv [(2, 0, false)]) → Calls Tryd.prog 13 #[.slice lo 1 lc, .slice mo 1 mc] wx fun e w' => e = .returned (.bool true) ∧ Below wx.heap.size wx w') := fun wx lo lc B mo mc B' h1 h2 => sSame_yes B B' lo mo lc mc [(2, 0, false)] wx h1 h2 (by decide)
  clear hty hh
  unfold hvl at HT K1 K2 K3 K4 K5 K6 K7
  go_enter Tryd.func4, Tryd.ntmps4
  go_wp2_with fail
  refine (awake20_calls w).mono ?_
  rintro e w1 ⟨rfl, hb⟩
  have H1 : Hid (Below w.heap.size w w1) := hb
  clear hb
  go_wp2_with fail
  refine (HT.out w1).mono ?_
  rintro e w2 ⟨v, rfl, hH, hb⟩
  obtain ⟨q, hq⟩ : ∃ q, w2.heap.size = q := ⟨_, rfl⟩
  obtain ⟨WB, hWB⟩ : ∃ W, w2.alloc (.cells (cellsH v h) 25) = W := ⟨_, rfl⟩
  have HWB : Hid (w2.alloc (.cells (cellsH v h) 25) = WB) := hWB
  have HQ : Hid (∀ wx, Below WB.heap.size WB wx → (wx.cell? ⟨q, 0, none⟩ = some (.slice v.no h.node.length v.nc) ∧ wx.cell? ⟨q, 1, none⟩ = some (.slice v.uo h.upF.length v.uc) ∧ wx.cell? ⟨q, 2, none⟩ = some (.slice v.ul h.up.length v.ulc) ∧ wx.cell? ⟨q, 3, none⟩ = some (.slice v.wo h.dnF.length v.wc) ∧ wx.cell? ⟨q, 4, none⟩ = some (.slice v.dl h.dn.length v.dlc)) ∧ HasH wx v h ∧ Below w.heap.size w wx) := fun wx hx => by
    have g : WB.heap[q]? = some (.cells (cellsH v h) 25) := by rw [← hWB, ← hq]; exact heap_newW _ _
    have g2 : Below w2.heap.size w2 WB := by rw [← hWB]; exact (Below.refl _ _).alloc (Nat.le_refl _) _
    have g3 := btrH' g2 hx
    exact ⟨five_cells ((hx.block _ (some_lt g)).trans g), hH.keep g3, btrH' (btrH' H1.out hb) g3⟩
  clear hH hb hWB H1
  unfold cellsH at HWB
  go_upto_region 4 with fail
  rw [HWB.out]
  clear HWB hq
  have B0 : Hid (Below WB.heap.size WB WB) := Below.refl _ _
  obtain ⟨c0, c1, c2, c3, c4⟩ := (HQ.out WB B0.out).1
  go_wp2_with fail
  refine (K1.out WB v (HQ.out WB B0.out).2.1).mono ?_
  rintro e y1 ⟨m1, n1, rfl, ho, hb⟩
  have D1 : Hid (Below WB.heap.size WB y1) := hb
  have B1 : Hid (Below WB.heap.size WB y1) := btrH' B0.out hb
  have O1 : Hid (y1.ownsRow WB.heap.size 41 3 (.slice m1 2 n1) 2 (snv [(1, 0, false), (2, 5, false)])) := ho
  clear ho c0 c1 c2 c3 c4
  clear hb
  obtain ⟨c0, c1, c2, c3, c4⟩ := (HQ.out y1 B1.out).1
  go_wp2_with fail
  refine (K2.out y1 v (HQ.out y1 B1.out).2.1).mono ?_
  rintro e y2 ⟨m2, n2, rfl, ho, hb⟩
  have D2 : Hid (Below y1.heap.size y1 y2) := hb
  have B2 : Hid (Below WB.heap.size WB y2) := btrH' B1.out hb
  have O2 : Hid (y2.ownsRow y1.heap.size 41 3 (.slice m2 2 n2) 2 (snv [(0, 0, false), (2, 1, false)])) := ho
  clear ho c0 c1 c2 c3 c4
  clear hb
  obtain ⟨c0, c1, c2, c3, c4⟩ := (HQ.out y2 B2.out).1
  go_wp2_with fail
  refine (K3.out y2 v (HQ.out y2 B2.out).2.1).mono ?_
  rintro e y3 ⟨m3, n3, rfl, ho, hb⟩
  have D3 : Hid (Below y2.heap.size y2 y3) := hb
  have B3 : Hid (Below WB.heap.size WB y3) := btrH' B2.out hb
  have O3 : Hid (y3.ownsRow y2.heap.size 41 3 (.slice m3 1 n3) 1 (snv [(2, 0, false)])) := ho
  clear ho c0 c1 c2 c3 c4
  clear hb
  obtain ⟨c0, c1, c2, c3, c4⟩ := (HQ.out y3 B3.out).1
  go_wp2_with fail
  refine (K4.out y3 v (HQ.out y3 B3.out).2.1).mono ?_
  rintro e y4 ⟨m4, n4, rfl, ho, hb⟩
  have D4 : Hid (Below y3.heap.size y3 y4) := hb
  have B4 : Hid (Below WB.heap.size WB y4) := btrH' B3.out hb
  have O4 : Hid (y4.ownsRow y3.heap.size 41 3 (.slice m4 1 n4) 1 (snv [(2, 0, false)])) := ho
  clear ho c0 c1 c2 c3 c4
  clear hb
  go_wp2_with fail
  refine (HO0.out y4 m1 n1 WB.heap.size (own_below O1.out (btrH' (btrH' D2.out D3.out) D4.out))).mono ?_
  rintro e y5 ⟨p1, q1, rfl, ho, hb⟩
  have D5 : Hid (Below y4.heap.size y4 y5) := hb
  have B5 : Hid (Below WB.heap.size WB y5) := btrH' B4.out hb
  have R1 : Hid (y5.ownsRow y4.heap.size 51 3 (.slice p1 2 q1) 2 (snv [(1, 0, false), (2, 5, false)])) := ho
  clear ho
  clear hb
  go_wp2_with fail
  have hb6 : Below y5.heap.size y5 (y5.alloc (.cells (snv [(1, 0, false), (2, 5, false)]).toArray 51)) := (Below.refl _ _).alloc (Nat.le_refl _) _
  have hl6 := World.ownsRow_lit (base := 0) (e := 51) (size := 3) y5 (snv [(1, 0, false), (2, 5, false)]).toArray 2 (Nat.zero_le _) (by decide) rfl
  refine (HS0.out (y5.alloc (.cells (snv [(1, 0, false), (2, 5, false)]).toArray 51)) p1 q1 y4.heap.size (some ⟨y5.heap.size, 0, none⟩) 2 0 (own_below R1.out hb6) hl6).mono ?_
  rintro e y6 ⟨rfl, hb7⟩
  have D6 : Hid (Below y5.heap.size y5 y6) := btrH' hb6 hb7
  have B6 : Hid (Below WB.heap.size WB y6) := btrH' B5.out D6.out
  clear hb6 hl6 hb7
  go_wp2_with fail
  refine (HO1.out y6 m2 n2 y1.heap.size (own_below O2.out (btrH' (btrH' (btrH' D3.out D4.out) D5.out) D6.out))).mono ?_
  rintro e y7 ⟨p2, q2, rfl, ho, hb⟩
  have D7 : Hid (Below y6.heap.size y6 y7) := hb
  have B7 : Hid (Below WB.heap.size WB y7) := btrH' B6.out hb
  have R2 : Hid (y7.ownsRow y6.heap.size 51 3 (.slice p2 2 q2) 2 (snv [(0, 0, false), (2, 1, false)])) := ho
  clear ho
  clear hb
  go_wp2_with fail
  have hb6 : Below y7.heap.size y7 (y7.alloc (.cells (snv [(0, 0, false), (2, 1, false)]).toArray 51)) := (Below.refl _ _).alloc (Nat.le_refl _) _
  have hl6 := World.ownsRow_lit (base := 0) (e := 51) (size := 3) y7 (snv [(0, 0, false), (2, 1, false)]).toArray 2 (Nat.zero_le _) (by decide) rfl
  refine (HS1.out (y7.alloc (.cells (snv [(0, 0, false), (2, 1, false)]).toArray 51)) p2 q2 y6.heap.size (some ⟨y7.heap.size, 0, none⟩) 2 0 (own_below R2.out hb6) hl6).mono ?_
  rintro e y8 ⟨rfl, hb7⟩
  have D8 : Hid (Below y7.heap.size y7 y8) := btrH' hb6 hb7
  have B8 : Hid (Below WB.heap.size WB y8) := btrH' B7.out D8.out
  clear hb6 hl6 hb7
  go_wp2_with fail
  refine (HO2.out y8 m3 n3 y2.heap.size (own_below O3.out (btrH' (btrH' (btrH' (btrH' D4.out D5.out) D6.out) D7.out) D8.out))).mono ?_
  rintro e y9 ⟨p3, q3, rfl, ho, hb⟩
  have D9 : Hid (Below y8.heap.size y8 y9) := hb
  have B9 : Hid (Below WB.heap.size WB y9) := btrH' B8.out hb
  have R3 : Hid (y9.ownsRow y8.heap.size 51 3 (.slice p3 1 q3) 1 (snv [(2, 0, false)])) := ho
  clear ho
  clear hb
  go_wp2_with fail
  have hb6 : Below y9.heap.size y9 (y9.alloc (.cells (snv [(2, 0, false)]).toArray 51)) := (Below.refl _ _).alloc (Nat.le_refl _) _
  have hl6 := World.ownsRow_lit (base := 0) (e := 51) (size := 3) y9 (snv [(2, 0, false)]).toArray 1 (Nat.zero_le _) (by decide) rfl
  refine (HS2.out (y9.alloc (.cells (snv [(2, 0, false)]).toArray 51)) p3 q3 y8.heap.size (some ⟨y9.heap.size, 0, none⟩) 1 0 (own_below R3.out hb6) hl6).mono ?_
  rintro e y10 ⟨rfl, hb7⟩
  have D10 : Hid (Below y9.heap.size y9 y10) := btrH' hb6 hb7
  have B10 : Hid (Below WB.heap.size WB y10) := btrH' B9.out D10.out
  clear hb6 hl6 hb7
  go_wp2_with fail
  refine (HO2.out y10 m4 n4 y3.heap.size (own_below O4.out (btrH' (btrH' (btrH' (btrH' (btrH' D5.out D6.out) D7.out) D8.out) D9.out) D10.out))).mono ?_
  rintro e y11 ⟨p4, q4, rfl, ho, hb⟩
  have D11 : Hid (Below y10.heap.size y10 y11) := hb
  have B11 : Hid (Below WB.heap.size WB y11) := btrH' B10.out hb
  have R4 : Hid (y11.ownsRow y10.heap.size 51 3 (.slice p4 1 q4) 1 (snv [(2, 0, false)])) := ho
  clear ho
  clear hb
  go_wp2_with fail
  have hb6 : Below y11.heap.size y11 (y11.alloc (.cells (snv [(2, 0, false)]).toArray 51)) := (Below.refl _ _).alloc (Nat.le_refl _) _
  have hl6 := World.ownsRow_lit (base := 0) (e := 51) (size := 3) y11 (snv [(2, 0, false)]).toArray 1 (Nat.zero_le _) (by decide) rfl
  refine (HS2.out (y11.alloc (.cells (snv [(2, 0, false)]).toArray 51)) p4 q4 y10.heap.size (some ⟨y11.heap.size, 0, none⟩) 1 0 (own_below R4.out hb6) hl6).mono ?_
  rintro e y12 ⟨rfl, hb7⟩
  have D12 : Hid (Below y11.heap.size y11 y12) := btrH' hb6 hb7
  have B12 : Hid (Below WB.heap.size WB y12) := btrH' B11.out D12.out
  clear hb6 hl6 hb7
  obtain ⟨c0, c1, c2, c3, c4⟩ := (HQ.out y12 B12.out).1
  go_wp2_with fail
  refine (K5.out y12 v (HQ.out y12 B12.out).2.1).mono ?_
  rintro e y13 ⟨T1, x1, rfl, ht, hb⟩
  have D13 : Hid (Below y12.heap.size y12 y13) := hb
  have B13 : Hid (Below WB.heap.size WB y13) := btrH' B12.out hb
  have E1 : Hid (IsTold y13 (7, []) (.iface T1 x1)) := ht
  clear ht c0 c1 c2 c3 c4
  clear hb
  obtain ⟨c0, c1, c2, c3, c4⟩ := (HQ.out y13 B13.out).1
  go_wp2_with fail
  refine (K6.out y13 v (HQ.out y13 B13.out).2.1).mono ?_
  rintro e y14 ⟨T2, x2, rfl, ht, hb⟩
  have D14 : Hid (Below y13.heap.size y13 y14) := hb
  have B14 : Hid (Below WB.heap.size WB y14) := btrH' B13.out hb
  have E2 : Hid (IsTold y14 (7, []) (.iface T2 x2)) := ht
  clear ht c0 c1 c2 c3 c4
  clear hb
  obtain ⟨c0, c1, c2, c3, c4⟩ := (HQ.out y14 B14.out).1
  go_wp2_with fail
  refine (K7.out y14 v (HQ.out y14 B14.out).2.1).mono ?_
  rintro e y15 ⟨T3, x3, rfl, ht, hb⟩
  have D15 : Hid (Below y14.heap.size y14 y15) := hb
  have B15 : Hid (Below WB.heap.size WB y15) := btrH' B14.out hb
  have E3 : Hid (IsTold y15 (7, []) (.iface T3 x3)) := ht
  clear ht c0 c1 c2 c3 c4
  clear hb
  go_wp2_with fail
  refine (K8.out y15).mono ?_
  rintro e y16 ⟨T4, x4, rfl, ht, hb⟩
  have D16 : Hid (Below y15.heap.size y15 y16) := hb
  have B16 : Hid (Below WB.heap.size WB y16) := btrH' B15.out hb
  have E4 : Hid (IsTold y16 (14, []) (.iface T4 x4)) := ht
  clear ht
  clear hb
  go_wp2_with fail
  refine (K9.out y16).mono ?_
  rintro e y17 ⟨T5, x5, rfl, ht, hb⟩
  have D17 : Hid (Below y16.heap.size y16 y17) := hb
  have B17 : Hid (Below WB.heap.size WB y17) := btrH' B16.out hb
  have E5 : Hid (IsTold y17 (14, []) (.iface T5 x5)) := ht
  clear ht
  clear hb
  go_wp2_with fail
  refine (E_calls 7 y17).mono ?_
  rintro e y18 ⟨rfl, hb⟩
  have D18 : Hid (Below y17.heap.size y17 y18) := hb
  have B18 : Hid (Below WB.heap.size WB y18) := btrH' B17.out hb
  clear hb
  go_wp2_with fail
  refine (HSE.out y18 (7, []) (.iface T1 x1) none 0 (HQ.out _ B18.out).2.2 (E1.out.keep (Below.keeps (btrH' (btrH' (btrH' (btrH' D14.out D15.out) D16.out) D17.out) D18.out))) (pl_nil _) (by decide)).mono ?_
  rintro e y19 ⟨rfl, hb⟩
  have D19 : Hid (Below y18.heap.size y18 y19) := hb
  have B19 : Hid (Below WB.heap.size WB y19) := btrH' B18.out hb
  clear hb
  go_wp2_with fail
  refine (E_calls 7 y19).mono ?_
  rintro e y20 ⟨rfl, hb⟩
  have D20 : Hid (Below y19.heap.size y19 y20) := hb
  have B20 : Hid (Below WB.heap.size WB y20) := btrH' B19.out hb
  clear hb
  go_wp2_with fail
  refine (HSE.out y20 (7, []) (.iface T2 x2) none 0 (HQ.out _ B20.out).2.2 (E2.out.keep (Below.keeps (btrH' (btrH' (btrH' (btrH' (btrH' D15.out D16.out) D17.out) D18.out) D19.out) D20.out))) (pl_nil _) (by decide)).mono ?_
  rintro e y21 ⟨rfl, hb⟩
  have D21 : Hid (Below y20.heap.size y20 y21) := hb
  have B21 : Hid (Below WB.heap.size WB y21) := btrH' B20.out hb
  clear hb
  go_wp2_with fail
  refine (E_calls 7 y21).mono ?_
  rintro e y22 ⟨rfl, hb⟩
  have D22 : Hid (Below y21.heap.size y21 y22) := hb
  have B22 : Hid (Below WB.heap.size WB y22) := btrH' B21.out hb
  clear hb
  go_wp2_with fail
  refine (HSE.out y22 (7, []) (.iface T3 x3) none 0 (HQ.out _ B22.out).2.2 (E3.out.keep (Below.keeps (btrH' (btrH' (btrH' (btrH' (btrH' (btrH' D16.out D17.out) D18.out) D19.out) D20.out) D21.out) D22.out))) (pl_nil _) (by decide)).mono ?_
  rintro e y23 ⟨rfl, hb⟩
  have D23 : Hid (Below y22.heap.size y22 y23) := hb
  have B23 : Hid (Below WB.heap.size WB y23) := btrH' B22.out hb
  clear hb
  go_wp2_with fail
  refine (E_calls 14 y23).mono ?_
  rintro e y24 ⟨rfl, hb⟩
  have D24 : Hid (Below y23.heap.size y23 y24) := hb
  have B24 : Hid (Below WB.heap.size WB y24) := btrH' B23.out hb
  clear hb
  go_wp2_with fail
  refine (HSE.out y24 (14, []) (.iface T4 x4) none 0 (HQ.out _ B24.out).2.2 (E4.out.keep (Below.keeps (btrH' (btrH' (btrH' (btrH' (btrH' (btrH' (btrH' D17.out D18.out) D19.out) D20.out) D21.out) D22.out) D23.out) D24.out))) (pl_nil _) (by decide)).mono ?_
  rintro e y25 ⟨rfl, hb⟩
  have D25 : Hid (Below y24.heap.size y24 y25) := hb
  have B25 : Hid (Below WB.heap.size WB y25) := btrH' B24.out hb
  clear hb
  go_wp2_with fail
  refine (E_calls 14 y25).mono ?_
  rintro e y26 ⟨rfl, hb⟩
  have D26 : Hid (Below y25.heap.size y25 y26) := hb
  have B26 : Hid (Below WB.heap.size WB y26) := btrH' B25.out hb
  clear hb
  go_wp2_with fail
  refine (HSE.out y26 (14, []) (.iface T5 x5) none 0 (HQ.out _ B26.out).2.2 (E5.out.keep (Below.keeps (btrH' (btrH' (btrH' (btrH' (btrH' (btrH' (btrH' (btrH' D18.out D19.out) D20.out) D21.out) D22.out) D23.out) D24.out) D25.out) D26.out))) (pl_nil _) (by decide)).mono ?_
  rintro e y27 ⟨rfl, hb⟩
  have D27 : Hid (Below y26.heap.size y26 y27) := hb
  have B27 : Hid (Below WB.heap.size WB y27) := btrH' B26.out hb
  clear hb
  go_wp2
  go_ret
  exact ⟨rfl, (HQ.out _ B27.out).2.2⟩
end Go.Proofs.YtocgbgjpafdhmaaDoor.Cb
