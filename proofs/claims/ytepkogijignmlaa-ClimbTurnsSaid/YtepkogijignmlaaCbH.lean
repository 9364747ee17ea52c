/- the law's stalls and awake. (gench.py) -/
import Derived.Test.YtepkogijignmlaaCbG
import Derived.Test.YtepkogijignmlaaHrQ
namespace Go.Proofs.Ytepkogijignmlaa.Cb
open Go.RowKit Go.Extern Go.Sort Go.Shelf Hi

attribute [local go_sem] Oper.semAt_some

def stallsH : Hr := ⟨[0, 1, 2], [0, 2, 2, 2], [⟨1, 9, 4294967295, 4294967295⟩, ⟨2, 1, 4294967295, 4294967295⟩], [0, 0, 1, 1], [⟨2, 3, 4294967295, 4294967295⟩]⟩
theorem chk_stalls : chk stallsH = (0, []) := by kernel_rfl
theorem up_stalls : upL stallsH 0 = [(0, 0, false), (1, 9, true), (2, 1, false)] := by kernel_rfl
theorem dn_three : dnL three 0 = [(0, 0, false), (1, 4, false)] := by kernel_rfl
set_option maxRecDepth 100000 in
set_option maxHeartbeats 2000000 in
theorem stalls_calls (w : World) : Calls Try.prog 16 #[] w fun e w' => ∃ v, e = .returned (hvl v stallsH) ∧ HasH w' v stallsH ∧ Below w.heap.size w w' := by
  go_enter Try.func16, Try.ntmps16
  go_wp2
  have hl := lays_get [.cells #[.slice (some ⟨w.heap.size + 1, 0, none⟩) 3 3, .slice (some ⟨w.heap.size + 1 + 1, 0, none⟩) 4 4, .slice (some ⟨w.heap.size + 1 + 1 + 1, 0, none⟩) 2 2, .slice (some ⟨w.heap.size + 1 + 1 + 1 + 1, 0, none⟩) 4 4, .slice (some ⟨w.heap.size + 1 + 1 + 1 + 1 + 1, 0, none⟩) 1 1] 25, .cells (wvs stallsH.node).toArray 54, .cells (wvs stallsH.upF).toArray 54, .cells (lvs stallsH.up).toArray 58, .cells (wvs stallsH.dnF).toArray 54, .cells (lvs stallsH.dn).toArray 58] w
  have hb := lays_below [.cells #[.slice (some ⟨w.heap.size + 1, 0, none⟩) 3 3, .slice (some ⟨w.heap.size + 1 + 1, 0, none⟩) 4 4, .slice (some ⟨w.heap.size + 1 + 1 + 1, 0, none⟩) 2 2, .slice (some ⟨w.heap.size + 1 + 1 + 1 + 1, 0, none⟩) 4 4, .slice (some ⟨w.heap.size + 1 + 1 + 1 + 1 + 1, 0, none⟩) 1 1] 25, .cells (wvs stallsH.node).toArray 54, .cells (wvs stallsH.upF).toArray 54, .cells (lvs stallsH.up).toArray 58, .cells (wvs stallsH.dnF).toArray 54, .cells (lvs stallsH.dn).toArray 58] w
  generalize hW : lays w [.cells #[.slice (some ⟨w.heap.size + 1, 0, none⟩) 3 3, .slice (some ⟨w.heap.size + 1 + 1, 0, none⟩) 4 4, .slice (some ⟨w.heap.size + 1 + 1 + 1, 0, none⟩) 2 2, .slice (some ⟨w.heap.size + 1 + 1 + 1 + 1, 0, none⟩) 4 4, .slice (some ⟨w.heap.size + 1 + 1 + 1 + 1 + 1, 0, none⟩) 1 1] 25, .cells (wvs stallsH.node).toArray 54, .cells (wvs stallsH.upF).toArray 54, .cells (lvs stallsH.up).toArray 58, .cells (wvs stallsH.dnF).toArray 54, .cells (lvs stallsH.dn).toArray 58] = W at hl hb
  have e0 := hl 0 _ rfl
  obtain ⟨c0, c1, c2, c3, c4⟩ := five_cells e0
  show bodyPost _ _ _ _ _ (lays w [.cells #[.slice (some ⟨w.heap.size + 1, 0, none⟩) 3 3, .slice (some ⟨w.heap.size + 1 + 1, 0, none⟩) 4 4, .slice (some ⟨w.heap.size + 1 + 1 + 1, 0, none⟩) 2 2, .slice (some ⟨w.heap.size + 1 + 1 + 1 + 1, 0, none⟩) 4 4, .slice (some ⟨w.heap.size + 1 + 1 + 1 + 1 + 1, 0, none⟩) 1 1] 25, .cells (wvs stallsH.node).toArray 54, .cells (wvs stallsH.upF).toArray 54, .cells (lvs stallsH.up).toArray 58, .cells (wvs stallsH.dnF).toArray 54, .cells (lvs stallsH.dn).toArray 58])
  rw [hW]
  refine bodyPost_ret (v := .agg #[.slice (some ⟨w.heap.size + 1, 0, none⟩) 3 3, .slice (some ⟨w.heap.size + 1 + 1, 0, none⟩) 4 4, .slice (some ⟨w.heap.size + 1 + 1 + 1, 0, none⟩) 2 2, .slice (some ⟨w.heap.size + 1 + 1 + 1 + 1, 0, none⟩) 4 4, .slice (some ⟨w.heap.size + 1 + 1 + 1 + 1 + 1, 0, none⟩) 1 1]) (by simp at c0 c1 c2 c3 c4; simp [results, Try.results16, go_sem, c0, c1, c2, c3, c4]) rfl ?_
  refine ⟨⟨some ⟨w.heap.size + 1, 0, none⟩, some ⟨w.heap.size + 1 + 1, 0, none⟩, some ⟨w.heap.size + 1 + 1 + 1, 0, none⟩, some ⟨w.heap.size + 1 + 1 + 1 + 1, 0, none⟩, some ⟨w.heap.size + 1 + 1 + 1 + 1 + 1, 0, none⟩, 3, 4, 2, 4, 1⟩, rfl, ⟨?_, ?_, ?_, ?_, ?_⟩, hb⟩
  · exact ws_new (hl 1 _ rfl) (by decide) (Nat.le_refl _)
  · exact ws_new (hl 2 _ rfl) (by decide) (Nat.le_refl _)
  · exact ls_new (hl 3 _ rfl) (by unfold Lk.ok; decide) (Nat.le_refl _)
  · exact ws_new (hl 4 _ rfl) (by decide) (Nat.le_refl _)
  · exact ls_new (hl 5 _ rfl) (by unfold Lk.ok; decide) (Nat.le_refl _)
set_option maxRecDepth 100000 in
set_option maxHeartbeats 4000000 in
theorem awake20_calls (w : World) : Calls Try.prog 5 #[] w fun e w' => e = .returned (.bool true) ∧ Below w.heap.size w w' := by
  have HS : Hid (∀ wx : World, Calls Try.prog 16 #[] wx fun e w' => ∃ v, e = .returned (hvl v stallsH) ∧ HasH w' v stallsH ∧ Below wx.heap.size wx w') := fun wx => stalls_calls wx
  have HT : Hid (∀ wx : World, Calls Try.prog 17 #[] wx fun e w' => ∃ v, e = .returned (hvl v three) ∧ HasH w' v three ∧ Below wx.heap.size wx w') := fun wx => three_calls wx
  have HU : Hid (∀ wx v, HasH wx v stallsH → Calls Try.prog 8 #[hvl v stallsH, .int .i64 0] wx fun e w' => ∃ mo mc, e = .returned (.tuple #[.slice mo 3 mc, .nilIface]) ∧ w'.ownsRow wx.heap.size 44 3 (.slice mo 3 mc) 3 (snv [(0, 0, false), (1, 9, true), (2, 1, false)]) ∧ Below wx.heap.size wx w') := fun wx v hv => (up_ok v stallsH 0 wx hv chk_stalls (by decide)).mono (by
    rintro e w' ⟨mo, mc, X, hX, rfl, ho, hb⟩
    rw [up_stalls] at hX
    subst hX
    exact ⟨mo, mc, rfl, ho, hb⟩)
  have HD : Hid (∀ wx v, HasH wx v three → Calls Try.prog 9 #[hvl v three, .int .i64 0] wx fun e w' => ∃ mo mc, e = .returned (.tuple #[.slice mo 2 mc, .nilIface]) ∧ w'.ownsRow wx.heap.size 44 3 (.slice mo 2 mc) 2 (snv [(0, 0, false), (1, 4, false)]) ∧ Below wx.heap.size wx w') := fun wx v hv => (down_ok v three 0 wx hv chk_three (by decide)).mono (by
    rintro e w' ⟨mo, mc, X, hX, rfl, ho, hb⟩
    rw [dn_three] at hX
    subst hX
    exact ⟨mo, mc, rfl, ho, hb⟩)
  have HO3 : Hid (∀ wx mo mc B, wx.ownsRow B 44 3 (.slice mo 3 mc) 3 (snv [(0, 0, false), (1, 9, true), (2, 1, false)]) → Calls Try.prog 11 #[.slice mo 3 mc] wx fun e w' => ∃ lo lc, e = .returned (.slice lo 3 lc) ∧ w'.ownsRow wx.heap.size 51 3 (.slice lo 3 lc) 3 (snv [(0, 0, false), (1, 9, true), (2, 1, false)]) ∧ Below wx.heap.size wx w') := fun wx mo mc B ho => of_calls B mo mc [(0, 0, false), (1, 9, true), (2, 1, false)] wx ho (by decide)
  have HO2 : Hid (∀ wx mo mc B, wx.ownsRow B 44 3 (.slice mo 2 mc) 2 (snv [(0, 0, false), (1, 4, false)]) → Calls Try.prog 11 #[.slice mo 2 mc] wx fun e w' => ∃ lo lc, e = .returned (.slice lo 2 lc) ∧ w'.ownsRow wx.heap.size 51 3 (.slice lo 2 lc) 2 (snv [(0, 0, false), (1, 4, false)]) ∧ Below wx.heap.size wx w') := fun wx mo mc B ho => of_calls B mo mc [(0, 0, false), (1, 4, false)] wx ho (by decide)
  have HS3 : Hid (∀ wx lo lc B mo mc B', wx.ownsRow B 51 3 (.slice lo 3 lc) 3 (snv [(0, 0, false), (1, 9, true), (2, 1, false)]) → wx.ownsRow B' 51 3 (.slice mo 3 mc) 3 (snv [(0, 0, false), (1, 9, true), (2, 1, false)]) → Calls Try.prog 10 #[.slice lo 3 lc, .slice mo 3 mc] wx fun e w' => e = .returned (.bool true) ∧ Below wx.heap.size wx w') := fun wx lo lc B mo mc B' h1 h2 => sSame_yes B B' lo mo lc mc [(0, 0, false), (1, 9, true), (2, 1, false)] wx h1 h2 (by decide)
  have HS2 : Hid (∀ wx lo lc B mo mc B', wx.ownsRow B 51 3 (.slice lo 2 lc) 2 (snv [(0, 0, false), (1, 4, false)]) → wx.ownsRow B' 51 3 (.slice mo 2 mc) 2 (snv [(0, 0, false), (1, 4, false)]) → Calls Try.prog 10 #[.slice lo 2 lc, .slice mo 2 mc] wx fun e w' => e = .returned (.bool true) ∧ Below wx.heap.size wx w') := fun wx lo lc B mo mc B' h1 h2 => sSame_yes B B' lo mo lc mc [(0, 0, false), (1, 4, false)] wx h1 h2 (by decide)
  go_enter Try.func5, Try.ntmps5
  go_wp2_with fail
  refine (HS.out w).mono ?_
  rintro e w1 ⟨v1, rfl, hH1, hb1⟩
  have H1 : Hid (HasH w1 v1 stallsH ∧ Below w.heap.size w w1) := ⟨hH1, hb1⟩
  clear hH1 hb1
  go_wp2_with fail
  refine (HU.out w1 v1 H1.out.1).mono ?_
  rintro e w2 ⟨m2, c2, rfl, ho2, hb2⟩
  have H2 : Hid (w2.ownsRow w1.heap.size 44 3 (.slice m2 3 c2) 3 (snv [(0, 0, false), (1, 9, true), (2, 1, false)]) ∧ Below w.heap.size w w2) := ⟨ho2, H1.out.2.trans (hb2.mono H1.out.2.size)⟩
  clear ho2 hb2
  go_wp2_with fail
  refine (HT.out w2).mono ?_
  rintro e w3 ⟨v3, rfl, hH3, hb3⟩
  have H3 : Hid (HasH w3 v3 three ∧ Below w2.heap.size w2 w3) := ⟨hH3, hb3⟩
  clear hH3 hb3
  go_wp2_with fail
  refine (HD.out w3 v3 H3.out.1).mono ?_
  rintro e w4 ⟨m4, c4, rfl, ho4, hb4⟩
  have H4 : Hid (w4.ownsRow w3.heap.size 44 3 (.slice m4 2 c4) 2 (snv [(0, 0, false), (1, 4, false)]) ∧ Below w2.heap.size w2 w4) := ⟨ho4, H3.out.2.trans (hb4.mono H3.out.2.size)⟩
  clear ho4 hb4
  go_wp2_with fail
  refine (HO3.out w4 m2 c2 w1.heap.size (own_below H2.out.1 H4.out.2)).mono ?_
  rintro e w5 ⟨m5, c5, rfl, ho5, hb5⟩
  have H5 : Hid (w5.ownsRow w4.heap.size 51 3 (.slice m5 3 c5) 3 (snv [(0, 0, false), (1, 9, true), (2, 1, false)]) ∧ Below w4.heap.size w4 w5) := ⟨ho5, hb5⟩
  clear ho5 hb5
  go_wp2_with fail
  have hb6 : Below w5.heap.size w5 (w5.alloc (.cells (snv [(0, 0, false), (1, 9, true), (2, 1, false)]).toArray 51)) := (Below.refl _ _).alloc (Nat.le_refl _) _
  have hl6 := World.ownsRow_lit (base := 0) (e := 51) (size := 3) w5 (snv [(0, 0, false), (1, 9, true), (2, 1, false)]).toArray 3 (Nat.zero_le _) (by decide) rfl
  refine (HS3.out (w5.alloc (.cells (snv [(0, 0, false), (1, 9, true), (2, 1, false)]).toArray 51)) m5 c5 w4.heap.size (some ⟨w5.heap.size, 0, none⟩) 3 0 (own_below H5.out.1 hb6) hl6).mono ?_
  rintro e w6 ⟨rfl, hb7⟩
  have H6 : Hid (Below w4.heap.size w4 w6) := H5.out.2.trans ((hb6.trans (hb7.mono hb6.size)).mono H5.out.2.size)
  clear hb6 hl6 hb7
  go_wp2_with fail
  refine (HO2.out w6 m4 c4 w3.heap.size (own_below H4.out.1 H6.out)).mono ?_
  rintro e w7 ⟨m7, c7, rfl, ho7, hb7⟩
  have H7 : Hid (w7.ownsRow w6.heap.size 51 3 (.slice m7 2 c7) 2 (snv [(0, 0, false), (1, 4, false)]) ∧ Below w6.heap.size w6 w7) := ⟨ho7, hb7⟩
  clear ho7 hb7
  go_wp2_with fail
  have hb8 : Below w7.heap.size w7 (w7.alloc (.cells (snv [(0, 0, false), (1, 4, false)]).toArray 51)) := (Below.refl _ _).alloc (Nat.le_refl _) _
  have hl8 := World.ownsRow_lit (base := 0) (e := 51) (size := 3) w7 (snv [(0, 0, false), (1, 4, false)]).toArray 2 (Nat.zero_le _) (by decide) rfl
  refine (HS2.out (w7.alloc (.cells (snv [(0, 0, false), (1, 4, false)]).toArray 51)) m7 c7 w6.heap.size (some ⟨w7.heap.size, 0, none⟩) 2 0 (own_below H7.out.1 hb8) hl8).mono ?_
  rintro e w8 ⟨rfl, hb9⟩
  have H8 : Hid (Below w.heap.size w w8) := by
    have g := H7.out.2.trans ((hb8.trans (hb9.mono hb8.size)).mono H7.out.2.size)
    have g2 := H6.out.trans (g.mono H6.out.size)
    have g3 := H4.out.2.trans (g2.mono H4.out.2.size)
    exact H2.out.2.trans (g3.mono H2.out.2.size)
  clear hb8 hl8 hb9
  go_wp2
  go_ret
  exact ⟨rfl, H8.out⟩
end Go.Proofs.Ytepkogijignmlaa.Cb
