/- the law ClimbSteps. (gencs.py) -/
import Derived.Test.YtocgbgjpafdhmaaDoorCbY
import Derived.Test.YtocgbgjpafdhmaaDoorHdH
import Derived.Test.YtocgbgjpafdhmaaDoorSeen
namespace Go.Proofs.YtocgbgjpafdhmaaDoor.Cb
open Go.RowKit Go.Extern Go.Shelf Hi

attribute [local go_sem] Oper.semAt_some

theorem infoU : (Tryd.prog.info? 39).map (fun i => (i.zero, i.size, i.bytes)) = some (some (.int .u64 0), 1, 8) := by kernel_rfl
theorem ferr_len {p : Int} {f : Nat → Int} : ∀ (m k : Nat), (ferr p f k m).2.length ≤ 1
  | 0, _ => by simp [ferr]
  | m + 1, k => by
    unfold ferr
    split
    · exact ferr_len m (k + 1)
    · simp
theorem orE_len {a b : Int × List (Int × Int)} (ha : a.2.length ≤ 1) (hb : b.2.length ≤ 1) : (orE a b).2.length ≤ 1 := by
  unfold orE
  split
  · exact hb
  · exact ha
theorem cf_len (F : List Nat) (m : Nat) : (cf F m).2.length ≤ 1 := by
  unfold cf
  split
  · simp
  · refine orE_len (ferr_len _ _) ?_
    split <;> simp
theorem chk_places (h : Hr) : (chk h).2.length ≤ 1 := by
  unfold chk
  split
  · simp
  · split
    · simp
    · exact orE_len (cf_len _ _) (orE_len (cf_len _ _) (orE_len (ferr_len _ _) (ferr_len _ _)))
/-- the answer of a climb by the lengths that are there at the end. -/
theorem up_facts {h : Hr} (hc : chk h = (0, [])) {s : Nat} (hs : s < h.node.length) : ∃ V : List (Option Int), Way (rowL h.upF h.up) h.node.length s h.node.length V ∧ (upL h s).map (fun x => (x.1, x.2.1)) = outs V h.node.length ∧ V[s]? = some (some 0) ∧ (∀ (x : Nat) (d : Int), V[x]? = some (some d) → 0 ≤ d ∧ d < 9223372036854775808) ∧ (∃ bb t, upL h s = (s, 0, bb) :: t) := by
  have hrow : ∀ r, r < h.node.length → ∀ l ∈ rowL h.upF h.up r, r < l.hd ∧ l.hd < h.node.length := fun r hr l hl => ⟨(row_form hc hr (Or.inl hl)).1, (row_form hc hr (Or.inl hl)).2.1⟩
  have hw := (lens_way hs hrow).1
  have ho : (upL h s).map (fun x => (x.1, x.2.1)) = outs (lens (rowL h.upF h.up) h.node.length s) h.node.length := climbed_outs hs hrow
  obtain ⟨bb, t, he, _⟩ := Qy.climbed_head hs (rowL h.upF h.up) (rowL h.dnF h.dn)
  have he' : upL h s = (s, 0, bb) :: t := he
  refine ⟨_, hw, ho, ?_, fun x d hx => ?_, bb, t, he'⟩
  · have q : (s, (0 : Int)) ∈ outs (lens (rowL h.upF h.up) h.node.length s) h.node.length := by rw [← ho, he']; exact List.mem_cons_self
    exact (outs_mem.1 q).2
  · have hlt : x < h.node.length := by have := (List.getElem?_eq_some_iff.1 hx).1; rw [hw.len] at this; exact this
    have q : (x, d) ∈ (upL h s).map (fun x => (x.1, x.2.1)) := by rw [ho]; exact outs_mem.2 ⟨hlt, hx⟩
    obtain ⟨y, hy, e⟩ := List.mem_map.1 q
    have g := (Qy.up_bounds hc s).1 y hy
    simp only [Prod.mk.injEq] at e
    rw [← e.2]
    exact g
/-- the list of a climb, place by place. -/
theorem up_place {h : Hr} {s i : Nat} {V : List (Option Int)} (ho : (upL h s).map (fun x => (x.1, x.2.1)) = outs V h.node.length) {x : Nat × Int × Bool} (hx : (upL h s)[i]? = some x) : x.1 < h.node.length ∧ V[x.1]? = some (some x.2.1) ∧ (outs V h.node.length)[i]? = some (x.1, x.2.1) ∧ (∀ p ∈ (outs V h.node.length).take i, p.1 ≠ x.1) ∧ ∀ (y : Nat × Int × Bool), 0 < i → (upL h s)[i - 1]? = some y → y.1 < x.1 := by
  have h1 : (outs V h.node.length)[i]? = some (x.1, x.2.1) := by rw [← ho, List.getElem?_map, hx]; rfl
  have hm := List.mem_of_getElem? h1
  have h2 := outs_mem.1 hm
  have hp := outs_rise V h.node.length
  have key : ∀ k p, k < i → (outs V h.node.length)[k]? = some p → p.1 < x.1 := fun k p hk he => by
    rw [List.pairwise_iff_getElem] at hp
    have a1 := (List.getElem?_eq_some_iff.1 he)
    have a2 := (List.getElem?_eq_some_iff.1 h1)
    have := hp k i a1.1 a2.1 hk
    rw [a1.2, a2.2] at this
    exact this
  refine ⟨h2.1, h2.2, h1, fun p hpm => ?_, fun y hi hy => ?_⟩
  · obtain ⟨k, hk⟩ := List.mem_iff_getElem?.1 hpm
    rw [List.getElem?_take] at hk
    split at hk
    · rename_i g
      have := key k p g hk
      omega
    · cases hk
  · have he : (outs V h.node.length)[i - 1]? = some (y.1, y.2.1) := by rw [← ho, List.getElem?_map, hy]; rfl
    exact key (i - 1) (y.1, y.2.1) (by omega) he

set_option maxRecDepth 100000 in
set_option maxHeartbeats 16000000 in
theorem steps_aux (no uo ul wo dl : Option Addr) (nc uc ulc wc dlc : Nat) (h : Hr) (s : Int) (w : World) (hty : HasType w) (hH : HasH w ⟨no, uo, ul, wo, dl, nc, uc, ulc, wc, dlc⟩ h) (hb1 : h.up.length ≤ 1152921504606846976) (hb2 : h.dn.length ≤ 1152921504606846976) (hb3 : h.node.length ≤ 1152921504606846976) :
    Calls Tryd.prog 3 #[hvl ⟨no, uo, ul, wo, dl, nc, uc, ulc, wc, dlc⟩ h, .int .i64 s] w fun e w' => e = .returned (.bool true) ∧ Below w.heap.size w w' := by
  have HTY : Hid (∀ wx, Below w.heap.size w wx → HasType wx) := fun wx h => hty.keep h hty.pos
  obtain ⟨z, hz⟩ : ∃ z, w.heap.size = z := ⟨_, rfl⟩
  obtain ⟨W0, hW0⟩ : ∃ W0, w.alloc (.cells (cellsH ⟨no, uo, ul, wo, dl, nc, uc, ulc, wc, dlc⟩ h) 25) = W0 := ⟨_, rfl⟩
  have HQ : Hid (∀ wx, Below W0.heap.size W0 wx → (wx.cell? ⟨z, 0, none⟩ = some (.slice no h.node.length nc) ∧ wx.cell? ⟨z, 1, none⟩ = some (.slice uo h.upF.length uc) ∧ wx.cell? ⟨z, 2, none⟩ = some (.slice ul h.up.length ulc) ∧ wx.cell? ⟨z, 3, none⟩ = some (.slice wo h.dnF.length wc) ∧ wx.cell? ⟨z, 4, none⟩ = some (.slice dl h.dn.length dlc)) ∧ HasH wx ⟨no, uo, ul, wo, dl, nc, uc, ulc, wc, dlc⟩ h ∧ Below w.heap.size w wx) := fun wx hx => by
    have h1 : W0.heap[z]? = some (.cells (cellsH ⟨no, uo, ul, wo, dl, nc, uc, ulc, wc, dlc⟩ h) 25) := by rw [← hW0, ← hz]; exact heap_newW _ _
    have h2 : Below w.heap.size w W0 := by rw [← hW0]; exact (Below.refl _ _).alloc (Nat.le_refl _) _
    have h3 := btrH' h2 hx
    exact ⟨five_cells ((hx.block _ (some_lt h1)).trans h1), hH.keep h3, h3⟩
  have HW0 : Hid (w.alloc (.cells (cellsH ⟨no, uo, ul, wo, dl, nc, uc, ulc, wc, dlc⟩ h) 25) = W0) := hW0
  have HGR : Hid (∀ wx, Calls Tryd.prog 6 #[hvl ⟨no, uo, ul, wo, dl, nc, uc, ulc, wc, dlc⟩ h] wx fun e w' => e = .returned (.bool (greatB h)) ∧ Below wx.heap.size wx w') := fun wx => great20_calls _ h wx hb1 hb2
  have HUB : Hid (∀ wx, Below W0.heap.size W0 wx → Refuses h s → Calls Tryd.prog 7 #[hvl ⟨no, uo, ul, wo, dl, nc, uc, ulc, wc, dlc⟩ h, .int .i64 s] wx fun e w' => ∃ T x, e = .returned (.tuple #[.slice none 0 0, .iface T x]) ∧ IsTold w' (cErr h) (.iface T x) ∧ Below wx.heap.size wx w') := fun wx hx hr => up_bad _ h s wx (HQ.out wx hx).2.1 hb1 hb2 hb3 hr
  have HUO : Hid (∀ wx, Below W0.heap.size W0 wx → chk h = (0, []) → ∀ s' : Nat, s' < h.node.length → Calls Tryd.prog 7 #[hvl ⟨no, uo, ul, wo, dl, nc, uc, ulc, wc, dlc⟩ h, .int .i64 (s' : Int)] wx fun e w' => ∃ (mo : Option Addr) (mc : Nat), e = .returned (.tuple #[.slice mo (upL h s').length mc, .nilIface]) ∧ Qy.HasSn w' (.slice mo (upL h s').length mc) (upL h s') ∧ Below wx.heap.size wx w') := fun wx hx hc s' hs => (up_ok _ h s' wx (HQ.out wx hx).2.1 hc hs).mono (by
    rintro e w' ⟨mo, mc, X, rfl, rfl, ho, hb⟩
    exact ⟨mo, mc, rfl, Qy.sn_of_own ho, hb⟩)
  have HDC : Hid (∀ wx, Below W0.heap.size W0 wx → Calls Tryd.prog 8 #[hvl ⟨no, uo, ul, wo, dl, nc, uc, ulc, wc, dlc⟩ h] wx fun e w' => RA wx (chk h) e w') := fun wx hx => docCheck10_calls _ h wx (HQ.out wx hx).2.1 hb1 hb2 hb3
  have HB0 : Hid (Below W0.heap.size W0 W0) := Below.refl _ _
  clear hW0 hH hty
  unfold hvl at HGR HUB HUO HDC ⊢
  unfold cellsH at HW0
  simp only at HGR HUB HUO HDC HW0 ⊢
  go_enter Tryd.func3, Tryd.ntmps3
  go_wp2_with fail
  rw [HW0.out]
  refine (awake20_calls W0).mono ?_
  rintro e w1 ⟨rfl, hb⟩
  have HB1 : Hid (Below W0.heap.size W0 w1) := hb
  clear hb
  obtain ⟨c0, c1, c2, c3, c4⟩ := (HQ.out w1 HB1.out).1
  go_wp2_with fail
  refine (HGR.out w1).mono ?_
  rintro e w2 ⟨rfl, hb⟩
  have HB2 : Hid (Below W0.heap.size W0 w2) := btrH' HB1.out hb
  clear hb c0 c1 c2 c3 c4
  obtain ⟨c0, c1, c2, c3, c4⟩ := (HQ.out w2 HB2.out).1
  by_cases hgr : greatB h = true
  · rw [hgr]
    go_wp2
    go_ret
    exact ⟨rfl, (HQ.out w2 HB2.out).2.2⟩
  rw [Bool.not_eq_true] at hgr
  rw [hgr]
  by_cases h60 : 60 < h.node.length
  · have d1 : decide ((h.node.length : Int) > 60) = true := by simp; omega
    have d2 : decide (60 < h.node.length) = true := by simpa using h60
    go_wp2
    go_ret
    exact ⟨rfl, (HQ.out w2 HB2.out).2.2⟩
  have d1 : decide ((h.node.length : Int) > 60) = false := by simp; omega
  have d2 : decide (60 < h.node.length) = false := by simpa using h60
  by_cases hRf : Refuses h s
  · go_wp2_with fail
    refine (HUB.out w2 HB2.out hRf).mono ?_
    rintro e w3 ⟨T, x, rfl, ht, hb⟩
    have HB3 : Hid (Below W0.heap.size W0 w3) := btrH' HB2.out hb
    have HT3 : Hid (∀ wx, Below w3.heap.size w3 wx → IsTold wx (cErr h) (.iface T x)) := fun wx hx => ht.keep (Below.keeps hx)
    clear ht hb c0 c1 c2 c3 c4
    obtain ⟨c0, c1, c2, c3, c4⟩ := (HQ.out w3 HB3.out).1
    go_wp2_with fail
    refine (HDC.out w3 HB3.out).mono ?_
    rintro e w4 ⟨lo, lc, rfl, hp, hb⟩
    obtain ⟨E, hE⟩ : ∃ E, chk h = E := ⟨_, rfl⟩
    have HE : Hid (chk h = E) := hE
    rw [hE] at hp ⊢
    obtain ⟨q, hq⟩ : ∃ q, w4.heap.size = q := ⟨_, rfl⟩
    obtain ⟨W5, hW5⟩ : ∃ W5, w4.alloc (.cells #[.int .i64 E.1, .slice lo E.2.length lc] 35) = W5 := ⟨_, rfl⟩
    have HW5 : Hid (w4.alloc (.cells #[.int .i64 E.1, .slice lo E.2.length lc] 35) = W5) := hW5
    have H5 : Hid (∀ wx, Below W5.heap.size W5 wx → wx.heap[q]? = some (.cells #[.int .i64 E.1, .slice lo E.2.length lc] 35) ∧ HasPlaces wx (.slice lo E.2.length lc) E.2 ∧ Below w3.heap.size w3 wx ∧ Below W0.heap.size W0 wx) := fun wx hx => by
      have g1 : W5.heap[q]? = some (.cells #[.int .i64 E.1, .slice lo E.2.length lc] 35) := by rw [← hW5, ← hq]; exact heap_newW _ _
      have g2 : Below w4.heap.size w4 W5 := by rw [← hW5]; exact (Below.refl _ _).alloc (Nat.le_refl _) _
      have g3 := btrH' g2 hx
      exact ⟨(hx.block _ (some_lt g1)).trans g1, hp.keep g3, btrH' hb g3, btrH' (btrH' HB3.out hb) g3⟩
    clear hp hb hW5 c0 c1 c2 c3 c4 hE
    go_upto_region 7 with fail
    rw [HW5.out]
    clear HW5 hq
    obtain ⟨q0, q1, _, _⟩ := cell_two (H5.out W5 (Below.refl _ _)).1
    go_wp2_with fail
    refine (Hi.bad_calls E.1 lo E.2.length lc W5).mono ?_
    rintro e w6 ⟨rfl, hb⟩
    rw [bad_iff]
    have HB6 : Hid (Below W5.heap.size W5 w6) := hb
    clear hb q0 q1
    by_cases hc : E = (0, [])
    · have j1 : decide (E = (0, [])) = true := by simpa using hc
      have hs : s < 0 ∨ (h.node.length : Int) ≤ s := by
        have g := hRf
        unfold Refuses at g
        rw [HE.out, hc] at g
        simpa using g
      obtain ⟨c0, c1, c2, c3, c4⟩ := (HQ.out w6 (H5.out w6 HB6.out).2.2.2).1
      clear hc
      by_cases hneg : s < 0
      · have i1 : decide (s < 0) = true := by simpa using hneg
        clear hs
        go_wp2
        go_ret
        exact ⟨rfl, (HQ.out w6 (H5.out w6 HB6.out).2.2.2).2.2⟩
      · have i1 : decide (s < 0) = false := by simpa using hneg
        have hge : (h.node.length : Int) ≤ s := hs.resolve_left hneg
        have i2 : decide (s ≥ (h.node.length : Int)) = true := by simpa using hge
        have i3 : decide ((h.node.length : Int) ≤ s) = true := by simpa using hge
        clear hs
        go_wp2
        go_ret
        exact ⟨rfl, (HQ.out w6 (H5.out w6 HB6.out).2.2.2).2.2⟩
    · have j1 : decide (E = (0, [])) = false := by simpa using hc
      have HCE : Hid (cErr h = E) := by show _ = _; rw [← HE.out]; exact cErr_chk (by rw [HE.out]; exact hc)
      have HEL : Hid (E.2.length ≤ maxLen) := by
        have q := chk_places h
        rw [HE.out] at q
        exact Nat.le_trans q (by decide)
      obtain ⟨q0, q1, _, _⟩ := cell_two (H5.out w6 HB6.out).1
      go_wp2_with fail
      refine (seen_told E (.iface T x) lo lc w6 (by rw [← HCE.out]; exact HT3.out w6 (H5.out w6 HB6.out).2.2.1) (H5.out w6 HB6.out).2.1 HEL.out (HTY.out w6 (HQ.out w6 (H5.out w6 HB6.out).2.2.2).2.2)).mono ?_
      rintro e w7 ⟨rfl, hb⟩
      have HB7 : Hid (Below W0.heap.size W0 w7) := btrH' (H5.out w6 HB6.out).2.2.2 hb
      clear hb
      go_wp2
      go_ret
      exact ⟨rfl, (HQ.out w7 HB7.out).2.2⟩
  have hc : chk h = (0, []) := by
    by_cases g : chk h = (0, [])
    · exact g
    · exact absurd (Or.inl g) hRf
  have hs1 : ¬ s < 0 := fun g => hRf (Or.inr (Or.inl g))
  have hs2 : ¬ (h.node.length : Int) ≤ s := fun g => hRf (Or.inr (Or.inr g))
  obtain ⟨s', rfl⟩ : ∃ s' : Nat, s = (s' : Int) := ⟨s.toNat, by omega⟩
  have hs : s' < h.node.length := by omega
  obtain ⟨k1, k2, k3, k4, k5, k6, k7, k8⟩ := chk_ok hc
  obtain ⟨V, hw, hO, hVs, hVb, bb, tt, hX0⟩ := up_facts hc hs
  obtain ⟨O, hOO⟩ : ∃ O, outs V h.node.length = O := ⟨_, rfl⟩
  obtain ⟨X, hXX⟩ : ∃ X, upL h s' = X := ⟨_, rfl⟩
  obtain ⟨m, hm⟩ : ∃ m, X.length = m := ⟨_, rfl⟩
  have HROW : Hid (∀ r, r < h.node.length → ∀ l ∈ rowL h.upF h.up r, r < l.hd ∧ l.hd < h.node.length ∧ l.wt ≤ 140737488355328) := fun r hr l hl => row_form hc hr (Or.inl hl)
  have HPL : Hid (∀ i x, X[i]? = some x → x.1 < h.node.length ∧ V[x.1]? = some (some x.2.1) ∧ O[i]? = some (x.1, x.2.1) ∧ (∀ p ∈ O.take i, p.1 ≠ x.1) ∧ ∀ (y : Nat × Int × Bool), 0 < i → X[i - 1]? = some y → y.1 < x.1) := fun i x hx => by
    rw [← hXX] at hx
    have q := up_place hO hx
    rw [hOO, hXX] at q
    exact q
  have HOL : Hid (O.length = m ∧ (∀ j, j < h.node.length → lk O j = dv V j) ∧ X = (s', 0, bb) :: tt) := by
    refine ⟨?_, fun j hj => ?_, by rw [← hXX]; exact hX0⟩
    · rw [← hOO, ← hO, List.length_map, hXX, hm]
    · rw [← hOO]; exact lk_outs hj
  have HWAY : Hid (Way (rowL h.upF h.up) h.node.length s' h.node.length V ∧ V[s']? = some (some 0) ∧ ∀ (x : Nat) (d : Int), V[x]? = some (some d) → 0 ≤ d ∧ d < 9223372036854775808) := ⟨hw, hVs, hVb⟩
  have HMM : Hid (X.length = m ∧ m ≤ 65536) := ⟨hm, by rw [← hm, ← hXX]; exact (Qy.up_bounds hc s').2⟩
  have HK : Hid (FOk h.upF h.up.length ∧ h.upF.length = h.node.length + 1) := ⟨k5, k3⟩
  have hmb : m ≤ 65536 := HMM.out.2
  have HCH : Hid (chk h = (0, [])) := hc
  have HU := HUO.out w2 HB2.out hc s' hs
  rw [hXX, hm] at HU
  have HUH : Hid (type_of% HU) := HU
  clear HU hw hO hVs hVb hX0 hOO hXX hm k1 k2 k3 k4 k5 k6 k7 k8 hs1 hs2 hRf hc
  go_wp2_with fail
  refine HUH.out.mono ?_
  rintro e w3 ⟨mo, mc, rfl, hsn, hb⟩
  have HB3 : Hid (Below W0.heap.size W0 w3) := btrH' HB2.out hb
  have HSN : Hid (∀ wx, Below w3.heap.size w3 wx → Qy.HasSn wx (.slice mo m mc) X) := fun wx hx => hsn.keep hx
  clear hsn hb c0 c1 c2 c3 c4 HUH
  obtain ⟨c0, c1, c2, c3, c4⟩ := (HQ.out w3 HB3.out).1
  go_wp2_with fail
  refine (HDC.out w3 HB3.out).mono ?_
  rintro e w4 ⟨lo, lc, rfl, hp, hb⟩
  obtain ⟨E, hE⟩ : ∃ E, chk h = E := ⟨_, rfl⟩
  have HE0 : Hid (E = (0, [])) := by show _ = _; rw [← hE]; exact HCH.out
  rw [hE]
  obtain ⟨q, hq⟩ : ∃ q, w4.heap.size = q := ⟨_, rfl⟩
  obtain ⟨W5, hW5⟩ : ∃ W5, w4.alloc (.cells #[.int .i64 E.1, .slice lo E.2.length lc] 35) = W5 := ⟨_, rfl⟩
  have HW5 : Hid (w4.alloc (.cells #[.int .i64 E.1, .slice lo E.2.length lc] 35) = W5) := hW5
  have H5 : Hid (∀ wx, Below W5.heap.size W5 wx → wx.heap[q]? = some (.cells #[.int .i64 E.1, .slice lo E.2.length lc] 35) ∧ Below w3.heap.size w3 wx ∧ Below W0.heap.size W0 wx) := fun wx hx => by
    have g1 : W5.heap[q]? = some (.cells #[.int .i64 E.1, .slice lo E.2.length lc] 35) := by rw [← hW5, ← hq]; exact heap_newW _ _
    have g2 : Below w4.heap.size w4 W5 := by rw [← hW5]; exact (Below.refl _ _).alloc (Nat.le_refl _) _
    have g3 := btrH' g2 hx
    exact ⟨(hx.block _ (some_lt g1)).trans g1, btrH' hb g3, btrH' (btrH' HB3.out hb) g3⟩
  clear hp hb hW5 c0 c1 c2 c3 c4 hE
  go_upto_region 7 with fail
  rw [HW5.out]
  clear HW5 hq
  obtain ⟨q0, q1, _, _⟩ := cell_two (H5.out W5 (Below.refl _ _)).1
  go_wp2_with fail
  refine (Hi.bad_calls E.1 lo E.2.length lc W5).mono ?_
  rintro e w6 ⟨rfl, hb⟩
  rw [bad_iff]
  have HB6 : Hid (Below W5.heap.size W5 w6) := hb
  clear hb q0 q1
  have j1 : decide (E = (0, [])) = true := by simpa using HE0.out
  have H6 : Hid (∀ wx, Below w6.heap.size w6 wx → ((wx.cell? ⟨z, 0, none⟩ = some (.slice no h.node.length nc) ∧ wx.cell? ⟨z, 1, none⟩ = some (.slice uo h.upF.length uc) ∧ wx.cell? ⟨z, 2, none⟩ = some (.slice ul h.up.length ulc) ∧ wx.cell? ⟨z, 3, none⟩ = some (.slice wo h.dnF.length wc) ∧ wx.cell? ⟨z, 4, none⟩ = some (.slice dl h.dn.length dlc)) ∧ HasH wx ⟨no, uo, ul, wo, dl, nc, uc, ulc, wc, dlc⟩ h ∧ Below w.heap.size w wx) ∧ Qy.HasSn wx (.slice mo m mc) X) := fun wx hx => by
    have g := H5.out wx (btrH' HB6.out hx)
    exact ⟨HQ.out wx g.2.2, HSN.out wx g.2.1⟩
  obtain ⟨c0, c1, c2, c3, c4⟩ := (H6.out w6 (Below.refl _ _)).1.1
  have hmk := run_make_row' (P := Tryd.prog) 38 39 (.int .u64 0) 8 Tryd.underlying38 infoU rfl .i64 .i64 h.node.length (by omega) (by omega)
  obtain ⟨D, hD⟩ : ∃ s, w6.heap.size = s := ⟨_, rfl⟩
  obtain ⟨W7, hW7⟩ : ∃ W7, w6.alloc (.cells (madeCells #[.int .u64 0] h.node.length) 39) = W7 := ⟨_, rfl⟩
  have HW7 : Hid (w6.alloc (.cells (madeCells #[.int .u64 0] h.node.length) 39) = W7) := hW7
  have H7 : Hid (RAt u64v W7 D h.node.length (fun j => if j < 0 then far else 0) ∧ Below w6.heap.size w6 W7) := by
    rw [← hW7, ← hD]
    exact ⟨(made_at u64v (0 : Int) 39 w6 h.node.length).eq (fun j _ => by simp), (Below.refl _ _).alloc (Nat.le_refl _) _⟩
  have HDW : Hid (w6.heap.size ≤ D) := by rw [← hD]; exact Nat.le_refl _
  clear hW7 HB6 H5 HSN HQ HB3
  go_upto_region 12 with fail
  rw [HW7.out]
  clear HW7 hmk hD c0 c1 c2 c3 c4
  go_wp2_with fail
  go_loopw [67] (fun iv wr => ∃ k : Nat, k ≤ h.node.length ∧ iv = .int .i64 k ∧ Hid (RAt u64v wr D h.node.length (fun j => if j < k then far else 0)) ∧ Hid (Below w6.heap.size w6 wr)) (fun iv _ => h.node.length - (intOf iv).toNat)
  case atStart => exact ⟨0, Nat.zero_le _, rfl, H7.out.1, H7.out.2⟩
  case round =>
    obtain ⟨k, hk, rfl, HD1, HBW⟩ := hrel
    rcases Nat.lt_or_eq_of_le hk with h1 | h1
    · have ck := HD1.out.cell k h1
      have fk := HD1.out.free k
      have i2 : (0 : Int) ≤ (k : Int) := by omega
      have i3 : (k : Int) < (h.node.length : Int) := by omega
      have q6 : decide ((k : Int) < (h.node.length : Int)) = true := by simp; omega
      have q6n : decide (k < h.node.length) = true := by simp; omega
      have HN1 : Hid (RAt u64v (wr.setCell ⟨D, k, none⟩ (.int .u64 18446744073709551615)) D h.node.length (fun j => if j < k + 1 then far else 0) ∧ Below w6.heap.size w6 (wr.setCell ⟨D, k, none⟩ (.int .u64 18446744073709551615))) := ⟨(HD1.out.set far h1).eq (fun j _ => by unfold upd; by_cases e : j = k <;> by_cases g : j < k <;> simp [e, g] <;> omega), HBW.out.setCell (p := ⟨D, k, none⟩) HDW.out _⟩
      go_wp2
      go_roundw
      case rel => exact ⟨k + 1, by omega, by go_num, HN1.out.1, HN1.out.2⟩
      case measure => simp [intOf]; omega
    · have HD2 : Hid (RAt u64v wr D h.node.length (lk (O.take 0))) := HD1.out.eq (fun j hj => by rw [h1, if_pos hj]; simp [lk])
      have q6 : decide ((k : Int) < (h.node.length : Int)) = false := by simp; omega
      have q6n : decide (k < h.node.length) = false := by simp; omega
      clear HD1 h1 hk
      generalize hWW : wr = WA at *
      clear hWW
      go_wp2_with fail
      go_loopw [76] (fun iv wr => ∃ i : Nat, i ≤ m ∧ iv = .int .i64 i ∧ Hid (RAt u64v wr D h.node.length (lk (O.take i))) ∧ Hid (Below w6.heap.size w6 wr)) (fun iv _ => m - (intOf iv).toNat)
      case atStart => exact ⟨0, Nat.zero_le _, rfl, HD2.out, HBW.out⟩
      case round =>
        obtain ⟨i, hi, rfl, HD3, HB3'⟩ := hrel
        rcases Nat.lt_or_eq_of_le hi with h1 | h1
        · obtain ⟨x, hx⟩ : ∃ x, X[i]? = some x := ⟨_, List.getElem?_eq_getElem (by rw [HMM.out.1]; exact h1)⟩
          obtain ⟨xr, xd, xb⟩ := x
          obtain ⟨p1, p2, p3, p4, p5⟩ := HPL.out i _ hx
          obtain ⟨sb, so, e1, hsl, s0, s1, s2⟩ := (H6.out wr HB3'.out).2.at hx
          subst e1
          have i2 : (0 : Int) ≤ (i : Int) := by omega
          have i3 : (i : Int) < (m : Int) := by omega
          have q6 : decide ((i : Int) < (m : Int)) = true := by simp; omega
          have q6n : decide (i < m) = true := by simp; omega
          have hxr : xr < h.node.length := p1
          have HNX : Hid (O.take (i + 1) = O.take i ++ [(xr, xd)] ∧ ∀ p ∈ O.take i, p.1 ≠ xr) := ⟨by rw [List.take_add_one, p3]; rfl, p4⟩
          have HLT : Hid (∀ (y : Nat × Int × Bool), 0 < i → X[i - 1]? = some y → y.1 < xr) := p5
          obtain ⟨bx, hbx⟩ : ∃ s, wr.heap.size = s := ⟨_, rfl⟩
          obtain ⟨W1, hW1⟩ : ∃ W1, wr.alloc (.cells #[.int .i64 (xr : Int), .int .u64 xd, .bool xb] 41) = W1 := ⟨_, rfl⟩
          have HW1 : Hid (wr.alloc (.cells #[.int .i64 (xr : Int), .int .u64 xd, .bool xb] 41) = W1) := hW1
          have H1 : Hid (∀ wx, Below W1.heap.size W1 wx → wx.heap[bx]? = some (.cells #[.int .i64 (xr : Int), .int .u64 xd, .bool xb] 41) ∧ RAt u64v wx D h.node.length (lk (O.take i)) ∧ Below w6.heap.size w6 wx ∧ D ≠ bx) := fun wx hx => by
            have g1 : W1.heap[bx]? = some (.cells #[.int .i64 (xr : Int), .int .u64 xd, .bool xb] 41) := by rw [← hW1, ← hbx]; exact heap_newW _ _
            have g2 : Below wr.heap.size wr W1 := by rw [← hW1]; exact (Below.refl _ _).alloc (Nat.le_refl _) _
            have g3 := btrH' g2 hx
            exact ⟨(hx.block _ (some_lt g1)).trans g1, HD3.out.keep g3, btrH' HB3'.out g3, by have := HD3.out.lt; omega⟩
          clear hW1 p1 p2 p3 p4 p5
          go_upto_region 20 with fail
          rw [HW1.out]
          clear HW1 s0 s1 s2 hbx
          obtain ⟨⟨b0, b1, b2⟩, _⟩ := Hi.three_cells (H1.out W1 (Below.refl _ _)).1
          have u1 : decide ((xr : Int) < 0) = false := by simp
          have u2 : decide ((xr : Int) ≥ (h.node.length : Int)) = false := by simp; omega
          have u3 : decide (h.node.length ≤ xr) = false := by simp; omega
          have HEND : Hid (∀ nq, ∀ wy, wy = W1.drewN nq → (wy.cell? ⟨bx, 0, none⟩ = some (.int .i64 (xr : Int)) ∧ wy.cell? ⟨bx, 1, none⟩ = some (.int .u64 xd)) ∧ wy.cell? ⟨D, xr, none⟩ = some (.int .u64 (lk (O.take i) xr)) ∧ wy.frozen? ⟨D, xr, none⟩ = false ∧ RAt u64v (wy.setCell ⟨D, xr, none⟩ (.int .u64 xd)) D h.node.length (lk (O.take (i + 1))) ∧ Below w6.heap.size w6 (wy.setCell ⟨D, xr, none⟩ (.int .u64 xd))) := fun nq wy e => by
            subst e
            obtain ⟨g1, g2, g3, _⟩ := H1.out (W1.drewN nq) (bdrew (Below.refl _ _) nq)
            obtain ⟨⟨b0, b1, _⟩, _⟩ := Hi.three_cells g1
            exact ⟨⟨b0, b1⟩, g2.cell xr hxr, g2.free xr, (g2.set xd hxr).eq (fun j _ => by rw [HNX.out.1, lk_snoc HNX.out.2]), g3.setCell (p := ⟨D, xr, none⟩) HDW.out _⟩
          by_cases hi0 : i = 0
          · have v1 : decide ((i : Int) > 0) = false := by simp; omega
            have v2 : decide (0 < i) = false := by simp; omega
            have HI0 : Hid (i = 0) := hi0
            clear hi0
            go_quiet (fail)
            obtain ⟨WQ, hWQ⟩ : ∃ WQ, W1.drewN nq = WQ := ⟨_, rfl⟩
            obtain ⟨⟨b0', b1'⟩, cd, fd, e5, e6⟩ := HEND.out nq WQ hWQ.symm
            rw [hWQ]
            have H9 : Hid (type_of% (And.intro e5 e6)) := ⟨e5, e6⟩
            clear b0 b1 b2 e5 e6 hWQ
            go_wp2
            go_roundw
            case rel => exact ⟨i + 1, by omega, by go_num, H9.out.1, H9.out.2⟩
            case measure => simp [intOf]; omega
          · have v1 : decide ((i : Int) > 0) = true := by simp; omega
            have v2 : decide (0 < i) = true := by simp; omega
            obtain ⟨i', hi'⟩ : ∃ i', i - 1 = i' := ⟨_, rfl⟩
            obtain ⟨y, hy⟩ : ∃ y, X[i']? = some y := ⟨_, List.getElem?_eq_getElem (by rw [HMM.out.1]; omega)⟩
            have hlt := HLT.out y (by omega) (by rw [hi']; exact hy)
            obtain ⟨yr, yd, yb⟩ := y
            have hlt' : yr < xr := hlt
            obtain ⟨sb', so', e2, _, t0, _, _⟩ := (H6.out W1 (H1.out W1 (Below.refl _ _)).2.2.1).2.at hy
            cases e2
            have v3 : decide ((xr : Int) ≤ (yr : Int)) = false := by simp; omega
            have v4 : decide (xr ≤ yr) = false := by simp; omega
            have v5 : IntKind.i64.wrap ((i : Int) - 1) = (i' : Int) := by rw [IntKind.wrap_i64]; omega
            have v6 : (0 : Int) ≤ (i' : Int) := by omega
            have v7 : (i' : Int) < (m : Int) := by omega
            have HI1 : Hid (i - 1 = i') := hi'
            clear hi0 hi' hlt
            go_quiet (fail)
            obtain ⟨WQ, hWQ⟩ : ∃ WQ, W1.drewN nq = WQ := ⟨_, rfl⟩
            obtain ⟨⟨b0', b1'⟩, cd, fd, e5, e6⟩ := HEND.out nq WQ hWQ.symm
            rw [hWQ]
            have H9 : Hid (type_of% (And.intro e5 e6)) := ⟨e5, e6⟩
            clear b0 b1 b2 e5 e6 hWQ t0
            go_wp2
            go_roundw
            case rel => exact ⟨i + 1, by omega, by go_num, H9.out.1, H9.out.2⟩
            case measure => simp [intOf]; omega
        · have HD4 : Hid (RAt u64v wr D h.node.length (dv V)) := HD3.out.eq (fun j hj => by rw [h1, ← HOL.out.1, List.take_length]; exact HOL.out.2.1 j hj)
          have q6 : decide ((i : Int) < (m : Int)) = false := by simp; omega
          have q6n : decide (i < m) = false := by simp; omega
          clear HD3 h1 hi
          generalize hWW2 : wr = WC at *
          clear hWW2
          have hx0 : X[0]? = some (s', 0, bb) := by rw [HOL.out.2.2]; rfl
          have hm0 : 0 < m := by rw [← HMM.out.1, HOL.out.2.2]; simp
          obtain ⟨sb, so, e1, hsl, s0, s1, _⟩ := (H6.out WC HB3'.out).2.at hx0
          simp only [Nat.zero_mul, Nat.add_zero] at s0 s1
          subst e1
          have r0 : ((m : Int) == 0) = false := by simp; omega
          have r1 : ((s' : Int) != (s' : Int)) = false := by simp
          have r2 : (0 : Int) < (m : Int) := by omega
          have HX0 : Hid (X[0]? = some (s', 0, bb)) := hx0
          clear hx0
          have hmk := run_make_row' (P := Tryd.prog) 42 4 (.bool false) 1 Tryd.underlying42 infoBo rfl .i64 .i64 h.node.length (by omega) (by omega)
          obtain ⟨R, hR⟩ : ∃ s, WC.heap.size = s := ⟨_, rfl⟩
          obtain ⟨W8, hW8⟩ : ∃ W8, WC.alloc (.cells (madeCells #[.bool false] h.node.length) 4) = W8 := ⟨_, rfl⟩
          have HW8 : Hid (WC.alloc (.cells (madeCells #[.bool false] h.node.length) 4) = W8) := hW8
          have H8 : Hid (RAt boolv W8 R h.node.length (fun _ => false) ∧ RAt u64v W8 D h.node.length (dv V) ∧ Below w6.heap.size w6 W8) := by
            have g2 : Below WC.heap.size WC W8 := by rw [← hW8]; exact (Below.refl _ _).alloc (Nat.le_refl _) _
            refine ⟨?_, HD4.out.keep g2, btrH' HB3'.out g2⟩
            rw [← hW8, ← hR]
            exact made_at boolv false 4 WC h.node.length
          have HRD : Hid (R ≠ D) := by show R ≠ D; have := HD4.out.lt; omega
          have HRW : Hid (w6.heap.size ≤ R) := by rw [← hR]; exact HB3'.out.size
          clear hW8 HD4
          go_upto_region 27 with fail
          rw [HW8.out]
          clear HW8 hmk hR s0 s1
          have cR := H8.out.1.cell s' hs
          have fR := H8.out.1.free s'
          have i2 : (0 : Int) ≤ (s' : Int) := by omega
          have i3 : (s' : Int) < (h.node.length : Int) := by omega
          have H9 : Hid (RAt boolv (W8.setCell ⟨R, s', none⟩ (.bool true)) R h.node.length (rchB V (rowL h.upF h.up) s' 0 0) ∧ RAt u64v (W8.setCell ⟨R, s', none⟩ (.bool true)) D h.node.length (dv V) ∧ Below w6.heap.size w6 (W8.setCell ⟨R, s', none⟩ (.bool true))) := ⟨(H8.out.1.set true hs).eq (fun j _ => (rch_start V (rowL h.upF h.up) s' j).symm), H8.out.2.1.far (Ne.symm HRD.out) _, H8.out.2.2.setCell (p := ⟨R, s', none⟩) HRW.out _⟩
          have cR' : W8.cell? ⟨R, s', none⟩ = some (.bool false) := cR
          clear cR
          go_wp2_with fail
          go_loopw [139] (fun iv wr => ∃ r : Nat, r ≤ h.node.length ∧ iv = .int .i64 r ∧ Hid (RAt boolv wr R h.node.length (rchB V (rowL h.upF h.up) s' r 0)) ∧ Hid (RAt u64v wr D h.node.length (dv V)) ∧ Hid (Below w6.heap.size w6 wr)) (fun iv _ => h.node.length - (intOf iv).toNat)
          case atStart => exact ⟨0, Nat.zero_le _, rfl, H9.out.1, H9.out.2.1, H9.out.2.2⟩
          case round =>
            obtain ⟨r, hr, rfl, HR3, HD5, HB5⟩ := hrel
            rcases Nat.lt_or_eq_of_le hr with h1 | h1
            · generalize hWW3 : wr = WR at *
              clear hWW3
              obtain ⟨c0, c1, c2, c3, c4⟩ := (H6.out WR HB5.out).1.1
              have hF := (H6.out WR HB5.out).1.2.1.upF
              have hU := (H6.out WR HB5.out).1.2.1.up
              obtain ⟨fb, foff, e1, hbl, hcF⟩ := hF.cells (by rw [HK.out.2]; omega)
              have ca := hcF r (by rw [HK.out.2]; omega)
              have cb := hcF (r + 1) (by rw [HK.out.2]; omega)
              have hxy := HK.out.1.le r (by rw [HK.out.2]; omega)
              have hyL := HK.out.1.atmost (a := r + 1) (by rw [HK.out.2]; omega)
              have hcap : h.up.length ≤ ulc := hU.cap
              obtain ⟨so2, hso, hcut⟩ := cut_lks ul h.up.length ulc (nth h.upF r) (nth h.upF (r + 1)) hxy (by omega)
              have HLS0 : Hid (∀ wx, Below w6.heap.size w6 wx → (rowL h.upF h.up r).length = nth h.upF (r + 1) - nth h.upF r ∧ HasLs wx (.slice so2 (nth h.upF (r + 1) - nth h.upF r) (ulc - nth h.upF r)) (rowL h.upF h.up r)) := fun wx hx => ls_cut HK.out.1 (by rw [HK.out.2]; omega) (H6.out wx hx).1.2.1.up hso
              obtain ⟨x, hx⟩ : ∃ x, nth h.upF r = x := ⟨_, rfl⟩
              obtain ⟨y, hy⟩ : ∃ y, nth h.upF (r + 1) = y := ⟨_, rfl⟩
              obtain ⟨T, hT⟩ : ∃ T, y - x = T := ⟨_, rfl⟩
              rw [hx, hy, hT] at hcut HLS0
              rw [hx] at ca
              rw [hy] at cb
              have HTL : Hid ((rowL h.upF h.up r).length = T) := (HLS0.out WR HB5.out).1
              have HLS : Hid (∀ wx, Below w6.heap.size w6 wx → HasLs wx (.slice so2 T (ulc - x)) (rowL h.upF h.up r)) := fun wx hx => (HLS0.out wx hx).2
              obtain ⟨fu, hfu⟩ : ∃ fu, h.upF.length = fu := ⟨_, rfl⟩
              have hfn : fu = h.node.length + 1 := by rw [← hfu]; exact HK.out.2
              have i2 : (0 : Int) ≤ (r : Int) := by omega
              have i3 : (r : Int) < (fu : Int) := by omega
              have i4 : (r : Int) + 1 < (fu : Int) := by omega
              have i5 : IntKind.i64.wrap ((r : Int) + 1) = (r : Int) + 1 := by rw [IntKind.wrap_i64]; omega
              have q6 : decide ((r : Int) < (h.node.length : Int)) = true := by simp; omega
              have q6n : decide (r < h.node.length) = true := by simp; omega
              rw [hfu] at c1
              have HFU : Hid (h.upF.length = fu) := hfu
              have hTb : T ≤ 1152921504606846976 := by omega
              clear hso hF hU hcF hxy hcap hx hy hT hfu hfn HLS0 hyL hbl
              subst e1
              go_wp2_with fail
              go_quiet (fail)
              obtain ⟨WQ, hWQ⟩ : ∃ WQ, WR.drewN nq = WQ := ⟨_, rfl⟩
              rw [hWQ]
              have HWQ : Hid (RAt boolv WQ R h.node.length (rchB V (rowL h.upF h.up) s' r 0) ∧ RAt u64v WQ D h.node.length (dv V) ∧ Below w6.heap.size w6 WQ) := by
                have g : Below WR.heap.size WR WQ := by rw [← hWQ]; exact bdrew (Below.refl _ _) _
                exact ⟨HR3.out.keep g, HD5.out.keep g, btrH' HB5.out g⟩
              clear hWQ c0 c1 c2 c3 c4 ca cb hcut HR3 HD5
              go_wp2_with fail
              go_loopw [157] (fun iv wr => ∃ t : Nat, t ≤ T ∧ iv = .int .i64 t ∧ Hid (RAt boolv wr R h.node.length (rchB V (rowL h.upF h.up) s' r t)) ∧ Hid (RAt u64v wr D h.node.length (dv V)) ∧ Hid (Below w6.heap.size w6 wr)) (fun iv _ => T - (intOf iv).toNat)
              case atStart => exact ⟨0, Nat.zero_le _, rfl, HWQ.out.1, HWQ.out.2.1, HWQ.out.2.2⟩
              case round =>
                obtain ⟨t, ht, rfl, HR4, HD6, HB4⟩ := hrel
                rcases Nat.lt_or_eq_of_le ht with h2 | h2
                · obtain ⟨l, hl⟩ : ∃ l, (rowL h.upF h.up r)[t]? = some l := ⟨_, List.getElem?_eq_getElem (by rw [HTL.out]; exact h2)⟩
                  have hlm : l ∈ rowL h.upF h.up r := List.mem_of_getElem? hl
                  obtain ⟨hlo, lb, loff, e1, hll, l0, l1, l2, l3⟩ := (HLS.out wr HB4.out).at hl
                  obtain ⟨lh, lw, ll, lr⟩ := l
                  simp only at l0 l1 l2 l3
                  obtain ⟨hl1, hl2, hl3⟩ := HROW.out r h1 _ hlm
                  have hlh : lh < h.node.length := hl2
                  have hlw : lw ≤ 140737488355328 := hl3
                  have HLT : Hid ((rowL h.upF h.up r)[t]? = some ⟨lh, lw, ll, lr⟩) := hl
                  subst e1
                  have i2 : (0 : Int) ≤ (t : Int) := by omega
                  have i3 : (t : Int) < (T : Int) := by omega
                  have i4 : (0 : Int) ≤ (lh : Int) := by omega
                  have i5 : (lh : Int) < (h.node.length : Int) := by omega
                  have i6 : (0 : Int) ≤ (r : Int) := by omega
                  have i7 : (r : Int) < (h.node.length : Int) := by omega
                  have i8 : IntKind.i64.wrap (lh : Int) = (lh : Int) := by rw [IntKind.wrap_i64]; omega
                  have q6 : decide ((t : Int) < (T : Int)) = true := by simp; omega
                  have q6n : decide (t < T) = true := by simp; omega
                  obtain ⟨bx, hbx⟩ : ∃ s, wr.heap.size = s := ⟨_, rfl⟩
                  obtain ⟨W1, hW1⟩ : ∃ W1, wr.alloc (.cells #[.int .u32 (lh : Int), .int .u64 (lw : Int), .int .u32 (ll : Int), .int .u32 (lr : Int)] 45) = W1 := ⟨_, rfl⟩
                  have HW1 : Hid (wr.alloc (.cells #[.int .u32 (lh : Int), .int .u64 (lw : Int), .int .u32 (ll : Int), .int .u32 (lr : Int)] 45) = W1) := hW1
                  have H1 : Hid (∀ wx, Below W1.heap.size W1 wx → wx.heap[bx]? = some (.cells #[.int .u32 (lh : Int), .int .u64 (lw : Int), .int .u32 (ll : Int), .int .u32 (lr : Int)] 45) ∧ RAt boolv wx R h.node.length (rchB V (rowL h.upF h.up) s' r t) ∧ RAt u64v wx D h.node.length (dv V) ∧ Below w6.heap.size w6 wx) := fun wx hx => by
                    have g1 : W1.heap[bx]? = some (.cells #[.int .u32 (lh : Int), .int .u64 (lw : Int), .int .u32 (ll : Int), .int .u32 (lr : Int)] 45) := by rw [← hW1, ← hbx]; exact heap_newW _ _
                    have g2 : Below wr.heap.size wr W1 := by rw [← hW1]; exact (Below.refl _ _).alloc (Nat.le_refl _) _
                    have g3 := btrH' g2 hx
                    exact ⟨(hx.block _ (some_lt g1)).trans g1, HR4.out.keep g3, HD6.out.keep g3, btrH' HB4.out g3⟩
                  clear hW1 hl hl1 hl2 hl3 hlo hll
                  go_upto_region 34 with fail
                  rw [HW1.out]
                  clear HW1 l0 l1 l2 l3 hbx
                  obtain ⟨⟨b0, b1, b2, b3⟩, _⟩ := four_cells (H1.out W1 (Below.refl _ _)).1
                  by_cases hv : ∃ d, V[r]? = some (some d)
                  · obtain ⟨d, hd⟩ := hv
                    have hd0 := (HWAY.out.2.2 r d hd)
                    obtain ⟨k, hk1, hk2⟩ := HWAY.out.1.clo r h1 d hd _ hlm
                    have hk1' : V[lh]? = some (some k) := hk1
                    have hk2' : k ≤ d + (lw : Int) := hk2
                    have hk0 := HWAY.out.2.2 lh k hk1'
                    have HDK : Hid (dv V lh = k ∧ dv V r = d) := ⟨dv_some hk1', dv_some hd⟩
                    have HSTEP : Hid (∀ j, rchB V (rowL h.upF h.up) s' r (t + 1) j = upd (rchB V (rowL h.upF h.up) s' r t) lh (rchB V (rowL h.upF h.up) s' r t lh || (k == d + (lw : Int))) j) := fun j => by
                      have q := rch_step (s := s') HLT.out hd j
                      simp only at q
                      rw [HDK.out.1] at q
                      exact q
                    have cdr := (H1.out W1 (Below.refl _ _)).2.2.1.cell r h1
                    rw [HDK.out.2] at cdr
                    have cdr' : W1.cell? ⟨D, r, none⟩ = some (.int .u64 d) := cdr
                    have n1 : (d == 18446744073709551615) = false := by simp; omega
                    clear hk1 hk2 cdr
                    go_wp2_with fail
                    have clh := (H1.out W1 (Below.refl _ _)).2.2.1.cell lh hlh
                    rw [HDK.out.1] at clh
                    have clh' : W1.cell? ⟨D, lh, none⟩ = some (.int .u64 k) := clh
                    have n2 : IntKind.u64.wrap (d + (lw : Int)) = d + (lw : Int) := by rw [IntKind.wrap_u64]; omega
                    have n3 : decide (k > d + (lw : Int)) = false := by simp; omega
                    have n4 : decide (d + (lw : Int) < k) = false := by simp; omega
                    clear clh
                    go_quiet (fail)
                    obtain ⟨WQ, hWQ⟩ : ∃ WQ, W1.drewN nq = WQ := ⟨_, rfl⟩
                    rw [hWQ]
                    have HWQ : Hid (Below W1.heap.size W1 WQ) := by show Below _ _ _; rw [← hWQ]; exact bdrew (Below.refl _ _) _
                    have HQQ : Hid (∀ wx, Below WQ.heap.size WQ wx → wx.heap[bx]? = some (.cells #[.int .u32 (lh : Int), .int .u64 (lw : Int), .int .u32 (ll : Int), .int .u32 (lr : Int)] 45) ∧ RAt boolv wx R h.node.length (rchB V (rowL h.upF h.up) s' r t) ∧ RAt u64v wx D h.node.length (dv V)) := fun wx hx => by
                      obtain ⟨g1, g2, g3, _⟩ := H1.out wx (btrH' HWQ.out hx)
                      exact ⟨g1, g2, g3⟩
                    have HQB : Hid (∀ wx, Below WQ.heap.size WQ wx → Below w6.heap.size w6 wx) := fun wx hx => (H1.out wx (btrH' HWQ.out hx)).2.2.2
                    clear hWQ b0 b1 b2 b3 cdr' clh' n3 n4
                    go_wp2_with fail
                    cases hrv : rchB V (rowL h.upF h.up) s' r t lh with
                    | true =>
                      have HRV : Hid (rchB V (rowL h.upF h.up) s' r t lh = true) := hrv
                      have HST : Hid (∀ j, rchB V (rowL h.upF h.up) s' r (t + 1) j = upd (rchB V (rowL h.upF h.up) s' r t) lh true j) := fun j => by rw [HSTEP.out j, hrv]; rfl
                      clear hrv HSTEP
                      have HS7 : Hid (∀ wx, Below WQ.heap.size WQ wx → (fun w' => w'.cell? ⟨bx, 0, none⟩ = some (.int .u32 (lh : Int)) ∧ w'.cell? ⟨bx, 1, none⟩ = some (.int .u64 (lw : Int)) ∧ w'.cell? ⟨D, lh, none⟩ = some (.int .u64 k) ∧ w'.cell? ⟨D, r, none⟩ = some (.int .u64 d) ∧ w'.cell? ⟨R, lh, none⟩ = some (.bool true) ∧ Hid (Below WQ.heap.size WQ w')) wx) := fun wx hx => by
                        obtain ⟨g1, g2, g3⟩ := HQQ.out wx hx
                        obtain ⟨⟨b0, b1, _, _⟩, _⟩ := four_cells g1
                        have a1 := g2.cell lh hlh
                        have a2 := g3.cell lh hlh
                        have a3 := g3.cell r h1
                        rw [HRV.out] at a1
                        rw [HDK.out.1] at a2
                        rw [HDK.out.2] at a3
                        exact ⟨b0, b1, a2, a3, a1, hx⟩
                      refine wp_region_Z (z := 24) (S := (fun w' => w'.cell? ⟨bx, 0, none⟩ = some (.int .u32 (lh : Int)) ∧ w'.cell? ⟨bx, 1, none⟩ = some (.int .u64 (lw : Int)) ∧ w'.cell? ⟨D, lh, none⟩ = some (.int .u64 k) ∧ w'.cell? ⟨D, r, none⟩ = some (.int .u64 d) ∧ w'.cell? ⟨R, lh, none⟩ = some (.bool true) ∧ Hid (Below WQ.heap.size WQ w'))) (by kernel_rfl) (HS7.out _ (Below.refl _ _).drew) ?_
                      refine wpAnyZ_take (i := 0) (oi := { dst := Option.some 179, op := Op.move (Operand.tmp 12), type := 42, pos := "law.go:191", after := #[], guard := Option.none }) (oz := { dst := Option.none, op := Op.store 4 (Operand.tmp 202) (Operand.tmp 201), type := 0, pos := "law.go:191", after := #[{ on := 23, ground := Ground.data }, { on := 22, ground := Ground.data }, { on := 8, ground := Ground.chain }, { on := 0, ground := Ground.phase }, { on := 1, ground := Ground.phase }, { on := 2, ground := Ground.phase }, { on := 3, ground := Ground.phase }, { on := 4, ground := Ground.phase }, { on := 5, ground := Ground.phase }, { on := 6, ground := Ground.phase }, { on := 7, ground := Ground.phase }, { on := 8, ground := Ground.phase }, { on := 9, ground := Ground.phase }, { on := 10, ground := Ground.phase }, { on := 11, ground := Ground.phase }, { on := 12, ground := Ground.phase }, { on := 13, ground := Ground.phase }, { on := 14, ground := Ground.phase }, { on := 15, ground := Ground.phase }, { on := 16, ground := Ground.phase }, { on := 17, ground := Ground.phase }, { on := 18, ground := Ground.phase }, { on := 19, ground := Ground.phase }, { on := 20, ground := Ground.phase }, { on := 21, ground := Ground.phase }, { on := 22, ground := Ground.phase }], guard := Option.none }) (v := ?va0) rfl rfl (by kernel_rfl) (by kernel_rfl) (by kernel_rfl) (by kernel_rfl) (by kernel_rfl) (fun _ _ _ h => h) (YieldsM.of_if (Or.inl ⟨by rfl, ?ha0⟩)) ?ra0
                      case ha0 => ((intro wz hSw; (try dsimp only at hSw); go_simp); try (with_reducible rfl))
                      try simp only [Act.put, List.setIfInBounds_toArray, List.set_cons_zero, List.set_cons_succ]
                      refine wpAnyZ_take (i := 1) (oi := { dst := Option.some 180, op := Op.fieldAddr 45 (Operand.tmp 15) 0, type := 0, pos := "law.go:191", after := #[], guard := Option.none }) (oz := { dst := Option.none, op := Op.store 4 (Operand.tmp 202) (Operand.tmp 201), type := 0, pos := "law.go:191", after := #[{ on := 23, ground := Ground.data }, { on := 22, ground := Ground.data }, { on := 8, ground := Ground.chain }, { on := 0, ground := Ground.phase }, { on := 1, ground := Ground.phase }, { on := 2, ground := Ground.phase }, { on := 3, ground := Ground.phase }, { on := 4, ground := Ground.phase }, { on := 5, ground := Ground.phase }, { on := 6, ground := Ground.phase }, { on := 7, ground := Ground.phase }, { on := 8, ground := Ground.phase }, { on := 9, ground := Ground.phase }, { on := 10, ground := Ground.phase }, { on := 11, ground := Ground.phase }, { on := 12, ground := Ground.phase }, { on := 13, ground := Ground.phase }, { on := 14, ground := Ground.phase }, { on := 15, ground := Ground.phase }, { on := 16, ground := Ground.phase }, { on := 17, ground := Ground.phase }, { on := 18, ground := Ground.phase }, { on := 19, ground := Ground.phase }, { on := 20, ground := Ground.phase }, { on := 21, ground := Ground.phase }, { on := 22, ground := Ground.phase }], guard := Option.none }) (v := ?va1) rfl rfl (by kernel_rfl) (by kernel_rfl) (by kernel_rfl) (by kernel_rfl) (by kernel_rfl) (fun _ _ _ h => h) (YieldsM.of_if (Or.inl ⟨by rfl, ?ha1⟩)) ?ra1
                      case ha1 => ((intro wz hSw; (try dsimp only at hSw); go_simp); try (with_reducible rfl))
                      try simp only [Act.put, List.setIfInBounds_toArray, List.set_cons_zero, List.set_cons_succ]
                      refine wpAnyZ_take (i := 2) (oi := { dst := Option.some 181, op := Op.load 43 (Operand.tmp 180), type := 43, pos := "law.go:191", after := #[{ on := 1, ground := Ground.data }], guard := Option.none }) (oz := { dst := Option.none, op := Op.store 4 (Operand.tmp 202) (Operand.tmp 201), type := 0, pos := "law.go:191", after := #[{ on := 23, ground := Ground.data }, { on := 22, ground := Ground.data }, { on := 8, ground := Ground.chain }, { on := 0, ground := Ground.phase }, { on := 1, ground := Ground.phase }, { on := 2, ground := Ground.phase }, { on := 3, ground := Ground.phase }, { on := 4, ground := Ground.phase }, { on := 5, ground := Ground.phase }, { on := 6, ground := Ground.phase }, { on := 7, ground := Ground.phase }, { on := 8, ground := Ground.phase }, { on := 9, ground := Ground.phase }, { on := 10, ground := Ground.phase }, { on := 11, ground := Ground.phase }, { on := 12, ground := Ground.phase }, { on := 13, ground := Ground.phase }, { on := 14, ground := Ground.phase }, { on := 15, ground := Ground.phase }, { on := 16, ground := Ground.phase }, { on := 17, ground := Ground.phase }, { on := 18, ground := Ground.phase }, { on := 19, ground := Ground.phase }, { on := 20, ground := Ground.phase }, { on := 21, ground := Ground.phase }, { on := 22, ground := Ground.phase }], guard := Option.none }) (v := ?va2) rfl rfl (by kernel_rfl) (by kernel_rfl) (by kernel_rfl) (by kernel_rfl) (by kernel_rfl) (fun _ _ _ h => h) (YieldsM.of_if (Or.inl ⟨by rfl, ?ha2⟩)) ?ra2
                      case ha2 => ((intro wz hSw; (try dsimp only at hSw); go_simp); try (with_reducible rfl))
                      try simp only [Act.put, List.setIfInBounds_toArray, List.set_cons_zero, List.set_cons_succ]
                      refine wpAnyZ_take (i := 3) (oi := { dst := Option.some 182, op := Op.move (Operand.tmp 12), type := 42, pos := "law.go:191", after := #[], guard := Option.none }) (oz := { dst := Option.none, op := Op.store 4 (Operand.tmp 202) (Operand.tmp 201), type := 0, pos := "law.go:191", after := #[{ on := 23, ground := Ground.data }, { on := 22, ground := Ground.data }, { on := 8, ground := Ground.chain }, { on := 0, ground := Ground.phase }, { on := 1, ground := Ground.phase }, { on := 2, ground := Ground.phase }, { on := 3, ground := Ground.phase }, { on := 4, ground := Ground.phase }, { on := 5, ground := Ground.phase }, { on := 6, ground := Ground.phase }, { on := 7, ground := Ground.phase }, { on := 8, ground := Ground.phase }, { on := 9, ground := Ground.phase }, { on := 10, ground := Ground.phase }, { on := 11, ground := Ground.phase }, { on := 12, ground := Ground.phase }, { on := 13, ground := Ground.phase }, { on := 14, ground := Ground.phase }, { on := 15, ground := Ground.phase }, { on := 16, ground := Ground.phase }, { on := 17, ground := Ground.phase }, { on := 18, ground := Ground.phase }, { on := 19, ground := Ground.phase }, { on := 20, ground := Ground.phase }, { on := 21, ground := Ground.phase }, { on := 22, ground := Ground.phase }], guard := Option.none }) (v := ?va3) rfl rfl (by kernel_rfl) (by kernel_rfl) (by kernel_rfl) (by kernel_rfl) (by kernel_rfl) (fun _ _ _ h => h) (YieldsM.of_if (Or.inl ⟨by rfl, ?ha3⟩)) ?ra3
                      case ha3 => ((intro wz hSw; (try dsimp only at hSw); go_simp); try (with_reducible rfl))
                      try simp only [Act.put, List.setIfInBounds_toArray, List.set_cons_zero, List.set_cons_succ]
                      refine wpAnyZ_take (i := 4) (oi := { dst := Option.some 183, op := Op.fieldAddr 45 (Operand.tmp 15) 0, type := 0, pos := "law.go:191", after := #[], guard := Option.none }) (oz := { dst := Option.none, op := Op.store 4 (Operand.tmp 202) (Operand.tmp 201), type := 0, pos := "law.go:191", after := #[{ on := 23, ground := Ground.data }, { on := 22, ground := Ground.data }, { on := 8, ground := Ground.chain }, { on := 0, ground := Ground.phase }, { on := 1, ground := Ground.phase }, { on := 2, ground := Ground.phase }, { on := 3, ground := Ground.phase }, { on := 4, ground := Ground.phase }, { on := 5, ground := Ground.phase }, { on := 6, ground := Ground.phase }, { on := 7, ground := Ground.phase }, { on := 8, ground := Ground.phase }, { on := 9, ground := Ground.phase }, { on := 10, ground := Ground.phase }, { on := 11, ground := Ground.phase }, { on := 12, ground := Ground.phase }, { on := 13, ground := Ground.phase }, { on := 14, ground := Ground.phase }, { on := 15, ground := Ground.phase }, { on := 16, ground := Ground.phase }, { on := 17, ground := Ground.phase }, { on := 18, ground := Ground.phase }, { on := 19, ground := Ground.phase }, { on := 20, ground := Ground.phase }, { on := 21, ground := Ground.phase }, { on := 22, ground := Ground.phase }], guard := Option.none }) (v := ?va4) rfl rfl (by kernel_rfl) (by kernel_rfl) (by kernel_rfl) (by kernel_rfl) (by kernel_rfl) (fun _ _ _ h => h) (YieldsM.of_if (Or.inl ⟨by rfl, ?ha4⟩)) ?ra4
                      case ha4 => ((intro wz hSw; (try dsimp only at hSw); go_simp); try (with_reducible rfl))
                      try simp only [Act.put, List.setIfInBounds_toArray, List.set_cons_zero, List.set_cons_succ]
                      refine wpAnyZ_take (i := 5) (oi := { dst := Option.some 184, op := Op.load 43 (Operand.tmp 183), type := 43, pos := "law.go:191", after := #[{ on := 4, ground := Ground.data }], guard := Option.none }) (oz := { dst := Option.none, op := Op.store 4 (Operand.tmp 202) (Operand.tmp 201), type := 0, pos := "law.go:191", after := #[{ on := 23, ground := Ground.data }, { on := 22, ground := Ground.data }, { on := 8, ground := Ground.chain }, { on := 0, ground := Ground.phase }, { on := 1, ground := Ground.phase }, { on := 2, ground := Ground.phase }, { on := 3, ground := Ground.phase }, { on := 4, ground := Ground.phase }, { on := 5, ground := Ground.phase }, { on := 6, ground := Ground.phase }, { on := 7, ground := Ground.phase }, { on := 8, ground := Ground.phase }, { on := 9, ground := Ground.phase }, { on := 10, ground := Ground.phase }, { on := 11, ground := Ground.phase }, { on := 12, ground := Ground.phase }, { on := 13, ground := Ground.phase }, { on := 14, ground := Ground.phase }, { on := 15, ground := Ground.phase }, { on := 16, ground := Ground.phase }, { on := 17, ground := Ground.phase }, { on := 18, ground := Ground.phase }, { on := 19, ground := Ground.phase }, { on := 20, ground := Ground.phase }, { on := 21, ground := Ground.phase }, { on := 22, ground := Ground.phase }], guard := Option.none }) (v := ?va5) rfl rfl (by kernel_rfl) (by kernel_rfl) (by kernel_rfl) (by kernel_rfl) (by kernel_rfl) (fun _ _ _ h => h) (YieldsM.of_if (Or.inl ⟨by rfl, ?ha5⟩)) ?ra5
                      case ha5 => ((intro wz hSw; (try dsimp only at hSw); go_simp); try (with_reducible rfl))
                      try simp only [Act.put, List.setIfInBounds_toArray, List.set_cons_zero, List.set_cons_succ]
                      refine wpAnyZ_take (i := 6) (oi := { dst := Option.some 185, op := Op.indexAddr 42 (Operand.tmp 182) (Operand.tmp 184), type := 0, pos := "law.go:191", after := #[{ on := 3, ground := Ground.data }, { on := 5, ground := Ground.data }], guard := Option.none }) (oz := { dst := Option.none, op := Op.store 4 (Operand.tmp 202) (Operand.tmp 201), type := 0, pos := "law.go:191", after := #[{ on := 23, ground := Ground.data }, { on := 22, ground := Ground.data }, { on := 8, ground := Ground.chain }, { on := 0, ground := Ground.phase }, { on := 1, ground := Ground.phase }, { on := 2, ground := Ground.phase }, { on := 3, ground := Ground.phase }, { on := 4, ground := Ground.phase }, { on := 5, ground := Ground.phase }, { on := 6, ground := Ground.phase }, { on := 7, ground := Ground.phase }, { on := 8, ground := Ground.phase }, { on := 9, ground := Ground.phase }, { on := 10, ground := Ground.phase }, { on := 11, ground := Ground.phase }, { on := 12, ground := Ground.phase }, { on := 13, ground := Ground.phase }, { on := 14, ground := Ground.phase }, { on := 15, ground := Ground.phase }, { on := 16, ground := Ground.phase }, { on := 17, ground := Ground.phase }, { on := 18, ground := Ground.phase }, { on := 19, ground := Ground.phase }, { on := 20, ground := Ground.phase }, { on := 21, ground := Ground.phase }, { on := 22, ground := Ground.phase }], guard := Option.none }) (v := ?va6) rfl rfl (by kernel_rfl) (by kernel_rfl) (by kernel_rfl) (by kernel_rfl) (by kernel_rfl) (fun _ _ _ h => h) (YieldsM.of_if (Or.inl ⟨by rfl, ?ha6⟩)) ?ra6
                      case ha6 => ((intro wz hSw; (try dsimp only at hSw); go_simp); try (with_reducible rfl))
                      try simp only [Act.put, List.setIfInBounds_toArray, List.set_cons_zero, List.set_cons_succ]
                      refine wpAnyZ_take (i := 7) (oi := { dst := Option.some 186, op := Op.load 4 (Operand.tmp 185), type := 4, pos := "law.go:191", after := #[{ on := 6, ground := Ground.data }], guard := Option.none }) (oz := { dst := Option.none, op := Op.store 4 (Operand.tmp 202) (Operand.tmp 201), type := 0, pos := "law.go:191", after := #[{ on := 23, ground := Ground.data }, { on := 22, ground := Ground.data }, { on := 8, ground := Ground.chain }, { on := 0, ground := Ground.phase }, { on := 1, ground := Ground.phase }, { on := 2, ground := Ground.phase }, { on := 3, ground := Ground.phase }, { on := 4, ground := Ground.phase }, { on := 5, ground := Ground.phase }, { on := 6, ground := Ground.phase }, { on := 7, ground := Ground.phase }, { on := 8, ground := Ground.phase }, { on := 9, ground := Ground.phase }, { on := 10, ground := Ground.phase }, { on := 11, ground := Ground.phase }, { on := 12, ground := Ground.phase }, { on := 13, ground := Ground.phase }, { on := 14, ground := Ground.phase }, { on := 15, ground := Ground.phase }, { on := 16, ground := Ground.phase }, { on := 17, ground := Ground.phase }, { on := 18, ground := Ground.phase }, { on := 19, ground := Ground.phase }, { on := 20, ground := Ground.phase }, { on := 21, ground := Ground.phase }, { on := 22, ground := Ground.phase }], guard := Option.none }) (v := ?va7) rfl rfl (by kernel_rfl) (by kernel_rfl) (by kernel_rfl) (by kernel_rfl) (by kernel_rfl) (fun _ _ _ h => h) (YieldsM.of_if (Or.inl ⟨by rfl, ?ha7⟩)) ?ra7
                      case ha7 => ((intro wz hSw; (try dsimp only at hSw); go_simp); try (with_reducible rfl))
                      try simp only [Act.put, List.setIfInBounds_toArray, List.set_cons_zero, List.set_cons_succ]
                      refine wpAnyZ_take (i := 8) (oi := { dst := Option.some 187, op := Op.move (Operand.tmp 186), type := 4, pos := "law.go:191", after := #[{ on := 7, ground := Ground.data }], guard := Option.none }) (oz := { dst := Option.none, op := Op.store 4 (Operand.tmp 202) (Operand.tmp 201), type := 0, pos := "law.go:191", after := #[{ on := 23, ground := Ground.data }, { on := 22, ground := Ground.data }, { on := 8, ground := Ground.chain }, { on := 0, ground := Ground.phase }, { on := 1, ground := Ground.phase }, { on := 2, ground := Ground.phase }, { on := 3, ground := Ground.phase }, { on := 4, ground := Ground.phase }, { on := 5, ground := Ground.phase }, { on := 6, ground := Ground.phase }, { on := 7, ground := Ground.phase }, { on := 8, ground := Ground.phase }, { on := 9, ground := Ground.phase }, { on := 10, ground := Ground.phase }, { on := 11, ground := Ground.phase }, { on := 12, ground := Ground.phase }, { on := 13, ground := Ground.phase }, { on := 14, ground := Ground.phase }, { on := 15, ground := Ground.phase }, { on := 16, ground := Ground.phase }, { on := 17, ground := Ground.phase }, { on := 18, ground := Ground.phase }, { on := 19, ground := Ground.phase }, { on := 20, ground := Ground.phase }, { on := 21, ground := Ground.phase }, { on := 22, ground := Ground.phase }], guard := Option.none }) (v := ?va8) rfl rfl (by kernel_rfl) (by kernel_rfl) (by kernel_rfl) (by kernel_rfl) (by kernel_rfl) (fun _ _ _ h => h) (YieldsM.of_if (Or.inl ⟨by rfl, ?ha8⟩)) ?ra8
                      case ha8 => ((intro wz hSw; (try dsimp only at hSw); go_simp); try (with_reducible rfl))
                      try simp only [Act.put, List.setIfInBounds_toArray, List.set_cons_zero, List.set_cons_succ]
                      refine wpAnyZ_take (i := 9) (oi := { dst := Option.some 188, op := Op.move (Operand.tmp 8), type := 38, pos := "law.go:191", after := #[{ on := 8, ground := Ground.guard }], guard := Option.some (8, Bool.false) }) (oz := { dst := Option.none, op := Op.store 4 (Operand.tmp 202) (Operand.tmp 201), type := 0, pos := "law.go:191", after := #[{ on := 23, ground := Ground.data }, { on := 22, ground := Ground.data }, { on := 8, ground := Ground.chain }, { on := 0, ground := Ground.phase }, { on := 1, ground := Ground.phase }, { on := 2, ground := Ground.phase }, { on := 3, ground := Ground.phase }, { on := 4, ground := Ground.phase }, { on := 5, ground := Ground.phase }, { on := 6, ground := Ground.phase }, { on := 7, ground := Ground.phase }, { on := 8, ground := Ground.phase }, { on := 9, ground := Ground.phase }, { on := 10, ground := Ground.phase }, { on := 11, ground := Ground.phase }, { on := 12, ground := Ground.phase }, { on := 13, ground := Ground.phase }, { on := 14, ground := Ground.phase }, { on := 15, ground := Ground.phase }, { on := 16, ground := Ground.phase }, { on := 17, ground := Ground.phase }, { on := 18, ground := Ground.phase }, { on := 19, ground := Ground.phase }, { on := 20, ground := Ground.phase }, { on := 21, ground := Ground.phase }, { on := 22, ground := Ground.phase }], guard := Option.none }) (v := undef) rfl rfl (by kernel_rfl) (by kernel_rfl) (by kernel_rfl) (by kernel_rfl) (by kernel_rfl) (fun _ _ _ h => h) (Or.inr ⟨by rfl, rfl⟩) ?_
                      try simp only [Act.put, List.setIfInBounds_toArray, List.set_cons_zero, List.set_cons_succ]
                      refine wpAnyZ_take (i := 10) (oi := { dst := Option.some 189, op := Op.fieldAddr 45 (Operand.tmp 15) 0, type := 0, pos := "law.go:191", after := #[{ on := 8, ground := Ground.guard }], guard := Option.some (8, Bool.false) }) (oz := { dst := Option.none, op := Op.store 4 (Operand.tmp 202) (Operand.tmp 201), type := 0, pos := "law.go:191", after := #[{ on := 23, ground := Ground.data }, { on := 22, ground := Ground.data }, { on := 8, ground := Ground.chain }, { on := 0, ground := Ground.phase }, { on := 1, ground := Ground.phase }, { on := 2, ground := Ground.phase }, { on := 3, ground := Ground.phase }, { on := 4, ground := Ground.phase }, { on := 5, ground := Ground.phase }, { on := 6, ground := Ground.phase }, { on := 7, ground := Ground.phase }, { on := 8, ground := Ground.phase }, { on := 9, ground := Ground.phase }, { on := 10, ground := Ground.phase }, { on := 11, ground := Ground.phase }, { on := 12, ground := Ground.phase }, { on := 13, ground := Ground.phase }, { on := 14, ground := Ground.phase }, { on := 15, ground := Ground.phase }, { on := 16, ground := Ground.phase }, { on := 17, ground := Ground.phase }, { on := 18, ground := Ground.phase }, { on := 19, ground := Ground.phase }, { on := 20, ground := Ground.phase }, { on := 21, ground := Ground.phase }, { on := 22, ground := Ground.phase }], guard := Option.none }) (v := undef) rfl rfl (by kernel_rfl) (by kernel_rfl) (by kernel_rfl) (by kernel_rfl) (by kernel_rfl) (fun _ _ _ h => h) (Or.inr ⟨by rfl, rfl⟩) ?_
                      try simp only [Act.put, List.setIfInBounds_toArray, List.set_cons_zero, List.set_cons_succ]
                      refine wpAnyZ_take (i := 11) (oi := { dst := Option.some 190, op := Op.load 43 (Operand.tmp 189), type := 43, pos := "law.go:191", after := #[{ on := 10, ground := Ground.data }, { on := 8, ground := Ground.guard }], guard := Option.some (8, Bool.false) }) (oz := { dst := Option.none, op := Op.store 4 (Operand.tmp 202) (Operand.tmp 201), type := 0, pos := "law.go:191", after := #[{ on := 23, ground := Ground.data }, { on := 22, ground := Ground.data }, { on := 8, ground := Ground.chain }, { on := 0, ground := Ground.phase }, { on := 1, ground := Ground.phase }, { on := 2, ground := Ground.phase }, { on := 3, ground := Ground.phase }, { on := 4, ground := Ground.phase }, { on := 5, ground := Ground.phase }, { on := 6, ground := Ground.phase }, { on := 7, ground := Ground.phase }, { on := 8, ground := Ground.phase }, { on := 9, ground := Ground.phase }, { on := 10, ground := Ground.phase }, { on := 11, ground := Ground.phase }, { on := 12, ground := Ground.phase }, { on := 13, ground := Ground.phase }, { on := 14, ground := Ground.phase }, { on := 15, ground := Ground.phase }, { on := 16, ground := Ground.phase }, { on := 17, ground := Ground.phase }, { on := 18, ground := Ground.phase }, { on := 19, ground := Ground.phase }, { on := 20, ground := Ground.phase }, { on := 21, ground := Ground.phase }, { on := 22, ground := Ground.phase }], guard := Option.none }) (v := undef) rfl rfl (by kernel_rfl) (by kernel_rfl) (by kernel_rfl) (by kernel_rfl) (by kernel_rfl) (fun _ _ _ h => h) (Or.inr ⟨by rfl, rfl⟩) ?_
                      try simp only [Act.put, List.setIfInBounds_toArray, List.set_cons_zero, List.set_cons_succ]
                      refine wpAnyZ_take (i := 12) (oi := { dst := Option.some 191, op := Op.indexAddr 38 (Operand.tmp 188) (Operand.tmp 190), type := 0, pos := "law.go:191", after := #[{ on := 9, ground := Ground.data }, { on := 11, ground := Ground.data }, { on := 8, ground := Ground.guard }], guard := Option.some (8, Bool.false) }) (oz := { dst := Option.none, op := Op.store 4 (Operand.tmp 202) (Operand.tmp 201), type := 0, pos := "law.go:191", after := #[{ on := 23, ground := Ground.data }, { on := 22, ground := Ground.data }, { on := 8, ground := Ground.chain }, { on := 0, ground := Ground.phase }, { on := 1, ground := Ground.phase }, { on := 2, ground := Ground.phase }, { on := 3, ground := Ground.phase }, { on := 4, ground := Ground.phase }, { on := 5, ground := Ground.phase }, { on := 6, ground := Ground.phase }, { on := 7, ground := Ground.phase }, { on := 8, ground := Ground.phase }, { on := 9, ground := Ground.phase }, { on := 10, ground := Ground.phase }, { on := 11, ground := Ground.phase }, { on := 12, ground := Ground.phase }, { on := 13, ground := Ground.phase }, { on := 14, ground := Ground.phase }, { on := 15, ground := Ground.phase }, { on := 16, ground := Ground.phase }, { on := 17, ground := Ground.phase }, { on := 18, ground := Ground.phase }, { on := 19, ground := Ground.phase }, { on := 20, ground := Ground.phase }, { on := 21, ground := Ground.phase }, { on := 22, ground := Ground.phase }], guard := Option.none }) (v := undef) rfl rfl (by kernel_rfl) (by kernel_rfl) (by kernel_rfl) (by kernel_rfl) (by kernel_rfl) (fun _ _ _ h => h) (Or.inr ⟨by rfl, rfl⟩) ?_
                      try simp only [Act.put, List.setIfInBounds_toArray, List.set_cons_zero, List.set_cons_succ]
                      refine wpAnyZ_take (i := 13) (oi := { dst := Option.some 192, op := Op.load 39 (Operand.tmp 191), type := 39, pos := "law.go:191", after := #[{ on := 12, ground := Ground.data }, { on := 8, ground := Ground.guard }], guard := Option.some (8, Bool.false) }) (oz := { dst := Option.none, op := Op.store 4 (Operand.tmp 202) (Operand.tmp 201), type := 0, pos := "law.go:191", after := #[{ on := 23, ground := Ground.data }, { on := 22, ground := Ground.data }, { on := 8, ground := Ground.chain }, { on := 0, ground := Ground.phase }, { on := 1, ground := Ground.phase }, { on := 2, ground := Ground.phase }, { on := 3, ground := Ground.phase }, { on := 4, ground := Ground.phase }, { on := 5, ground := Ground.phase }, { on := 6, ground := Ground.phase }, { on := 7, ground := Ground.phase }, { on := 8, ground := Ground.phase }, { on := 9, ground := Ground.phase }, { on := 10, ground := Ground.phase }, { on := 11, ground := Ground.phase }, { on := 12, ground := Ground.phase }, { on := 13, ground := Ground.phase }, { on := 14, ground := Ground.phase }, { on := 15, ground := Ground.phase }, { on := 16, ground := Ground.phase }, { on := 17, ground := Ground.phase }, { on := 18, ground := Ground.phase }, { on := 19, ground := Ground.phase }, { on := 20, ground := Ground.phase }, { on := 21, ground := Ground.phase }, { on := 22, ground := Ground.phase }], guard := Option.none }) (v := undef) rfl rfl (by kernel_rfl) (by kernel_rfl) (by kernel_rfl) (by kernel_rfl) (by kernel_rfl) (fun _ _ _ h => h) (Or.inr ⟨by rfl, rfl⟩) ?_
                      try simp only [Act.put, List.setIfInBounds_toArray, List.set_cons_zero, List.set_cons_succ]
                      refine wpAnyZ_take (i := 14) (oi := { dst := Option.some 193, op := Op.move (Operand.tmp 8), type := 38, pos := "law.go:191", after := #[{ on := 8, ground := Ground.guard }], guard := Option.some (8, Bool.false) }) (oz := { dst := Option.none, op := Op.store 4 (Operand.tmp 202) (Operand.tmp 201), type := 0, pos := "law.go:191", after := #[{ on := 23, ground := Ground.data }, { on := 22, ground := Ground.data }, { on := 8, ground := Ground.chain }, { on := 0, ground := Ground.phase }, { on := 1, ground := Ground.phase }, { on := 2, ground := Ground.phase }, { on := 3, ground := Ground.phase }, { on := 4, ground := Ground.phase }, { on := 5, ground := Ground.phase }, { on := 6, ground := Ground.phase }, { on := 7, ground := Ground.phase }, { on := 8, ground := Ground.phase }, { on := 9, ground := Ground.phase }, { on := 10, ground := Ground.phase }, { on := 11, ground := Ground.phase }, { on := 12, ground := Ground.phase }, { on := 13, ground := Ground.phase }, { on := 14, ground := Ground.phase }, { on := 15, ground := Ground.phase }, { on := 16, ground := Ground.phase }, { on := 17, ground := Ground.phase }, { on := 18, ground := Ground.phase }, { on := 19, ground := Ground.phase }, { on := 20, ground := Ground.phase }, { on := 21, ground := Ground.phase }, { on := 22, ground := Ground.phase }], guard := Option.none }) (v := undef) rfl rfl (by kernel_rfl) (by kernel_rfl) (by kernel_rfl) (by kernel_rfl) (by kernel_rfl) (fun _ _ _ h => h) (Or.inr ⟨by rfl, rfl⟩) ?_
                      try simp only [Act.put, List.setIfInBounds_toArray, List.set_cons_zero, List.set_cons_succ]
                      refine wpAnyZ_take (i := 15) (oi := { dst := Option.some 194, op := Op.move (Operand.tmp 13), type := 3, pos := "law.go:191", after := #[{ on := 8, ground := Ground.guard }], guard := Option.some (8, Bool.false) }) (oz := { dst := Option.none, op := Op.store 4 (Operand.tmp 202) (Operand.tmp 201), type := 0, pos := "law.go:191", after := #[{ on := 23, ground := Ground.data }, { on := 22, ground := Ground.data }, { on := 8, ground := Ground.chain }, { on := 0, ground := Ground.phase }, { on := 1, ground := Ground.phase }, { on := 2, ground := Ground.phase }, { on := 3, ground := Ground.phase }, { on := 4, ground := Ground.phase }, { on := 5, ground := Ground.phase }, { on := 6, ground := Ground.phase }, { on := 7, ground := Ground.phase }, { on := 8, ground := Ground.phase }, { on := 9, ground := Ground.phase }, { on := 10, ground := Ground.phase }, { on := 11, ground := Ground.phase }, { on := 12, ground := Ground.phase }, { on := 13, ground := Ground.phase }, { on := 14, ground := Ground.phase }, { on := 15, ground := Ground.phase }, { on := 16, ground := Ground.phase }, { on := 17, ground := Ground.phase }, { on := 18, ground := Ground.phase }, { on := 19, ground := Ground.phase }, { on := 20, ground := Ground.phase }, { on := 21, ground := Ground.phase }, { on := 22, ground := Ground.phase }], guard := Option.none }) (v := undef) rfl rfl (by kernel_rfl) (by kernel_rfl) (by kernel_rfl) (by kernel_rfl) (by kernel_rfl) (fun _ _ _ h => h) (Or.inr ⟨by rfl, rfl⟩) ?_
                      try simp only [Act.put, List.setIfInBounds_toArray, List.set_cons_zero, List.set_cons_succ]
                      refine wpAnyZ_take (i := 16) (oi := { dst := Option.some 195, op := Op.indexAddr 38 (Operand.tmp 193) (Operand.tmp 194), type := 0, pos := "law.go:191", after := #[{ on := 14, ground := Ground.data }, { on := 15, ground := Ground.data }, { on := 8, ground := Ground.guard }], guard := Option.some (8, Bool.false) }) (oz := { dst := Option.none, op := Op.store 4 (Operand.tmp 202) (Operand.tmp 201), type := 0, pos := "law.go:191", after := #[{ on := 23, ground := Ground.data }, { on := 22, ground := Ground.data }, { on := 8, ground := Ground.chain }, { on := 0, ground := Ground.phase }, { on := 1, ground := Ground.phase }, { on := 2, ground := Ground.phase }, { on := 3, ground := Ground.phase }, { on := 4, ground := Ground.phase }, { on := 5, ground := Ground.phase }, { on := 6, ground := Ground.phase }, { on := 7, ground := Ground.phase }, { on := 8, ground := Ground.phase }, { on := 9, ground := Ground.phase }, { on := 10, ground := Ground.phase }, { on := 11, ground := Ground.phase }, { on := 12, ground := Ground.phase }, { on := 13, ground := Ground.phase }, { on := 14, ground := Ground.phase }, { on := 15, ground := Ground.phase }, { on := 16, ground := Ground.phase }, { on := 17, ground := Ground.phase }, { on := 18, ground := Ground.phase }, { on := 19, ground := Ground.phase }, { on := 20, ground := Ground.phase }, { on := 21, ground := Ground.phase }, { on := 22, ground := Ground.phase }], guard := Option.none }) (v := undef) rfl rfl (by kernel_rfl) (by kernel_rfl) (by kernel_rfl) (by kernel_rfl) (by kernel_rfl) (fun _ _ _ h => h) (Or.inr ⟨by rfl, rfl⟩) ?_
                      try simp only [Act.put, List.setIfInBounds_toArray, List.set_cons_zero, List.set_cons_succ]
                      refine wpAnyZ_take (i := 17) (oi := { dst := Option.some 196, op := Op.load 39 (Operand.tmp 195), type := 39, pos := "law.go:191", after := #[{ on := 16, ground := Ground.data }, { on := 8, ground := Ground.guard }], guard := Option.some (8, Bool.false) }) (oz := { dst := Option.none, op := Op.store 4 (Operand.tmp 202) (Operand.tmp 201), type := 0, pos := "law.go:191", after := #[{ on := 23, ground := Ground.data }, { on := 22, ground := Ground.data }, { on := 8, ground := Ground.chain }, { on := 0, ground := Ground.phase }, { on := 1, ground := Ground.phase }, { on := 2, ground := Ground.phase }, { on := 3, ground := Ground.phase }, { on := 4, ground := Ground.phase }, { on := 5, ground := Ground.phase }, { on := 6, ground := Ground.phase }, { on := 7, ground := Ground.phase }, { on := 8, ground := Ground.phase }, { on := 9, ground := Ground.phase }, { on := 10, ground := Ground.phase }, { on := 11, ground := Ground.phase }, { on := 12, ground := Ground.phase }, { on := 13, ground := Ground.phase }, { on := 14, ground := Ground.phase }, { on := 15, ground := Ground.phase }, { on := 16, ground := Ground.phase }, { on := 17, ground := Ground.phase }, { on := 18, ground := Ground.phase }, { on := 19, ground := Ground.phase }, { on := 20, ground := Ground.phase }, { on := 21, ground := Ground.phase }, { on := 22, ground := Ground.phase }], guard := Option.none }) (v := undef) rfl rfl (by kernel_rfl) (by kernel_rfl) (by kernel_rfl) (by kernel_rfl) (by kernel_rfl) (fun _ _ _ h => h) (Or.inr ⟨by rfl, rfl⟩) ?_
                      try simp only [Act.put, List.setIfInBounds_toArray, List.set_cons_zero, List.set_cons_succ]
                      refine wpAnyZ_take (i := 18) (oi := { dst := Option.some 197, op := Op.fieldAddr 45 (Operand.tmp 15) 1, type := 0, pos := "law.go:191", after := #[{ on := 8, ground := Ground.guard }], guard := Option.some (8, Bool.false) }) (oz := { dst := Option.none, op := Op.store 4 (Operand.tmp 202) (Operand.tmp 201), type := 0, pos := "law.go:191", after := #[{ on := 23, ground := Ground.data }, { on := 22, ground := Ground.data }, { on := 8, ground := Ground.chain }, { on := 0, ground := Ground.phase }, { on := 1, ground := Ground.phase }, { on := 2, ground := Ground.phase }, { on := 3, ground := Ground.phase }, { on := 4, ground := Ground.phase }, { on := 5, ground := Ground.phase }, { on := 6, ground := Ground.phase }, { on := 7, ground := Ground.phase }, { on := 8, ground := Ground.phase }, { on := 9, ground := Ground.phase }, { on := 10, ground := Ground.phase }, { on := 11, ground := Ground.phase }, { on := 12, ground := Ground.phase }, { on := 13, ground := Ground.phase }, { on := 14, ground := Ground.phase }, { on := 15, ground := Ground.phase }, { on := 16, ground := Ground.phase }, { on := 17, ground := Ground.phase }, { on := 18, ground := Ground.phase }, { on := 19, ground := Ground.phase }, { on := 20, ground := Ground.phase }, { on := 21, ground := Ground.phase }, { on := 22, ground := Ground.phase }], guard := Option.none }) (v := undef) rfl rfl (by kernel_rfl) (by kernel_rfl) (by kernel_rfl) (by kernel_rfl) (by kernel_rfl) (fun _ _ _ h => h) (Or.inr ⟨by rfl, rfl⟩) ?_
                      try simp only [Act.put, List.setIfInBounds_toArray, List.set_cons_zero, List.set_cons_succ]
                      refine wpAnyZ_take (i := 19) (oi := { dst := Option.some 198, op := Op.load 39 (Operand.tmp 197), type := 39, pos := "law.go:191", after := #[{ on := 18, ground := Ground.data }, { on := 8, ground := Ground.guard }], guard := Option.some (8, Bool.false) }) (oz := { dst := Option.none, op := Op.store 4 (Operand.tmp 202) (Operand.tmp 201), type := 0, pos := "law.go:191", after := #[{ on := 23, ground := Ground.data }, { on := 22, ground := Ground.data }, { on := 8, ground := Ground.chain }, { on := 0, ground := Ground.phase }, { on := 1, ground := Ground.phase }, { on := 2, ground := Ground.phase }, { on := 3, ground := Ground.phase }, { on := 4, ground := Ground.phase }, { on := 5, ground := Ground.phase }, { on := 6, ground := Ground.phase }, { on := 7, ground := Ground.phase }, { on := 8, ground := Ground.phase }, { on := 9, ground := Ground.phase }, { on := 10, ground := Ground.phase }, { on := 11, ground := Ground.phase }, { on := 12, ground := Ground.phase }, { on := 13, ground := Ground.phase }, { on := 14, ground := Ground.phase }, { on := 15, ground := Ground.phase }, { on := 16, ground := Ground.phase }, { on := 17, ground := Ground.phase }, { on := 18, ground := Ground.phase }, { on := 19, ground := Ground.phase }, { on := 20, ground := Ground.phase }, { on := 21, ground := Ground.phase }, { on := 22, ground := Ground.phase }], guard := Option.none }) (v := undef) rfl rfl (by kernel_rfl) (by kernel_rfl) (by kernel_rfl) (by kernel_rfl) (by kernel_rfl) (fun _ _ _ h => h) (Or.inr ⟨by rfl, rfl⟩) ?_
                      try simp only [Act.put, List.setIfInBounds_toArray, List.set_cons_zero, List.set_cons_succ]
                      refine wpAnyZ_take (i := 20) (oi := { dst := Option.some 199, op := Op.binOp BinOp.add 39 (Operand.tmp 196) (Operand.tmp 198) 39, type := 39, pos := "law.go:191", after := #[{ on := 17, ground := Ground.data }, { on := 19, ground := Ground.data }, { on := 8, ground := Ground.guard }], guard := Option.some (8, Bool.false) }) (oz := { dst := Option.none, op := Op.store 4 (Operand.tmp 202) (Operand.tmp 201), type := 0, pos := "law.go:191", after := #[{ on := 23, ground := Ground.data }, { on := 22, ground := Ground.data }, { on := 8, ground := Ground.chain }, { on := 0, ground := Ground.phase }, { on := 1, ground := Ground.phase }, { on := 2, ground := Ground.phase }, { on := 3, ground := Ground.phase }, { on := 4, ground := Ground.phase }, { on := 5, ground := Ground.phase }, { on := 6, ground := Ground.phase }, { on := 7, ground := Ground.phase }, { on := 8, ground := Ground.phase }, { on := 9, ground := Ground.phase }, { on := 10, ground := Ground.phase }, { on := 11, ground := Ground.phase }, { on := 12, ground := Ground.phase }, { on := 13, ground := Ground.phase }, { on := 14, ground := Ground.phase }, { on := 15, ground := Ground.phase }, { on := 16, ground := Ground.phase }, { on := 17, ground := Ground.phase }, { on := 18, ground := Ground.phase }, { on := 19, ground := Ground.phase }, { on := 20, ground := Ground.phase }, { on := 21, ground := Ground.phase }, { on := 22, ground := Ground.phase }], guard := Option.none }) (v := undef) rfl rfl (by kernel_rfl) (by kernel_rfl) (by kernel_rfl) (by kernel_rfl) (by kernel_rfl) (fun _ _ _ h => h) (Or.inr ⟨by rfl, rfl⟩) ?_
                      try simp only [Act.put, List.setIfInBounds_toArray, List.set_cons_zero, List.set_cons_succ]
                      refine wpAnyZ_take (i := 21) (oi := { dst := Option.some 200, op := Op.binOp BinOp.eql 39 (Operand.tmp 192) (Operand.tmp 199) 39, type := 4, pos := "law.go:191", after := #[{ on := 13, ground := Ground.data }, { on := 20, ground := Ground.data }, { on := 8, ground := Ground.guard }], guard := Option.some (8, Bool.false) }) (oz := { dst := Option.none, op := Op.store 4 (Operand.tmp 202) (Operand.tmp 201), type := 0, pos := "law.go:191", after := #[{ on := 23, ground := Ground.data }, { on := 22, ground := Ground.data }, { on := 8, ground := Ground.chain }, { on := 0, ground := Ground.phase }, { on := 1, ground := Ground.phase }, { on := 2, ground := Ground.phase }, { on := 3, ground := Ground.phase }, { on := 4, ground := Ground.phase }, { on := 5, ground := Ground.phase }, { on := 6, ground := Ground.phase }, { on := 7, ground := Ground.phase }, { on := 8, ground := Ground.phase }, { on := 9, ground := Ground.phase }, { on := 10, ground := Ground.phase }, { on := 11, ground := Ground.phase }, { on := 12, ground := Ground.phase }, { on := 13, ground := Ground.phase }, { on := 14, ground := Ground.phase }, { on := 15, ground := Ground.phase }, { on := 16, ground := Ground.phase }, { on := 17, ground := Ground.phase }, { on := 18, ground := Ground.phase }, { on := 19, ground := Ground.phase }, { on := 20, ground := Ground.phase }, { on := 21, ground := Ground.phase }, { on := 22, ground := Ground.phase }], guard := Option.none }) (v := undef) rfl rfl (by kernel_rfl) (by kernel_rfl) (by kernel_rfl) (by kernel_rfl) (by kernel_rfl) (fun _ _ _ h => h) (Or.inr ⟨by rfl, rfl⟩) ?_
                      try simp only [Act.put, List.setIfInBounds_toArray, List.set_cons_zero, List.set_cons_succ]
                      refine wpAnyZ_take (i := 22) (oi := { dst := Option.some 201, op := Op.pick (Operand.tmp 187) (Operand.const (Value.bool Bool.true)) (Operand.tmp 200), type := 4, pos := "law.go:191", after := #[{ on := 8, ground := Ground.data }, { on := 21, ground := Ground.data }], guard := Option.none }) (oz := { dst := Option.none, op := Op.store 4 (Operand.tmp 202) (Operand.tmp 201), type := 0, pos := "law.go:191", after := #[{ on := 23, ground := Ground.data }, { on := 22, ground := Ground.data }, { on := 8, ground := Ground.chain }, { on := 0, ground := Ground.phase }, { on := 1, ground := Ground.phase }, { on := 2, ground := Ground.phase }, { on := 3, ground := Ground.phase }, { on := 4, ground := Ground.phase }, { on := 5, ground := Ground.phase }, { on := 6, ground := Ground.phase }, { on := 7, ground := Ground.phase }, { on := 8, ground := Ground.phase }, { on := 9, ground := Ground.phase }, { on := 10, ground := Ground.phase }, { on := 11, ground := Ground.phase }, { on := 12, ground := Ground.phase }, { on := 13, ground := Ground.phase }, { on := 14, ground := Ground.phase }, { on := 15, ground := Ground.phase }, { on := 16, ground := Ground.phase }, { on := 17, ground := Ground.phase }, { on := 18, ground := Ground.phase }, { on := 19, ground := Ground.phase }, { on := 20, ground := Ground.phase }, { on := 21, ground := Ground.phase }, { on := 22, ground := Ground.phase }], guard := Option.none }) (v := ?va22) rfl rfl (by kernel_rfl) (by kernel_rfl) (by kernel_rfl) (by kernel_rfl) (by kernel_rfl) (fun _ _ _ h => h) (YieldsM.of_if (Or.inl ⟨by rfl, ?ha22⟩)) ?ra22
                      case ha22 => ((intro wz hSw; (try dsimp only at hSw); go_simp); try (with_reducible rfl))
                      try simp only [Act.put, List.setIfInBounds_toArray, List.set_cons_zero, List.set_cons_succ]
                      refine wpAnyZ_take (i := 23) (oi := { dst := Option.some 202, op := Op.indexAddr 42 (Operand.tmp 179) (Operand.tmp 181), type := 0, pos := "law.go:191", after := #[{ on := 0, ground := Ground.data }, { on := 2, ground := Ground.data }, { on := 0, ground := Ground.phase }, { on := 1, ground := Ground.phase }, { on := 2, ground := Ground.phase }, { on := 3, ground := Ground.phase }, { on := 4, ground := Ground.phase }, { on := 5, ground := Ground.phase }, { on := 6, ground := Ground.phase }, { on := 7, ground := Ground.phase }, { on := 8, ground := Ground.phase }, { on := 9, ground := Ground.phase }, { on := 10, ground := Ground.phase }, { on := 11, ground := Ground.phase }, { on := 12, ground := Ground.phase }, { on := 13, ground := Ground.phase }, { on := 14, ground := Ground.phase }, { on := 15, ground := Ground.phase }, { on := 16, ground := Ground.phase }, { on := 17, ground := Ground.phase }, { on := 18, ground := Ground.phase }, { on := 19, ground := Ground.phase }, { on := 20, ground := Ground.phase }, { on := 21, ground := Ground.phase }, { on := 22, ground := Ground.phase }], guard := Option.none }) (oz := { dst := Option.none, op := Op.store 4 (Operand.tmp 202) (Operand.tmp 201), type := 0, pos := "law.go:191", after := #[{ on := 23, ground := Ground.data }, { on := 22, ground := Ground.data }, { on := 8, ground := Ground.chain }, { on := 0, ground := Ground.phase }, { on := 1, ground := Ground.phase }, { on := 2, ground := Ground.phase }, { on := 3, ground := Ground.phase }, { on := 4, ground := Ground.phase }, { on := 5, ground := Ground.phase }, { on := 6, ground := Ground.phase }, { on := 7, ground := Ground.phase }, { on := 8, ground := Ground.phase }, { on := 9, ground := Ground.phase }, { on := 10, ground := Ground.phase }, { on := 11, ground := Ground.phase }, { on := 12, ground := Ground.phase }, { on := 13, ground := Ground.phase }, { on := 14, ground := Ground.phase }, { on := 15, ground := Ground.phase }, { on := 16, ground := Ground.phase }, { on := 17, ground := Ground.phase }, { on := 18, ground := Ground.phase }, { on := 19, ground := Ground.phase }, { on := 20, ground := Ground.phase }, { on := 21, ground := Ground.phase }, { on := 22, ground := Ground.phase }], guard := Option.none }) (v := ?va23) rfl rfl (by kernel_rfl) (by kernel_rfl) (by kernel_rfl) (by kernel_rfl) (by kernel_rfl) (fun _ _ _ h => h) (YieldsM.of_if (Or.inl ⟨by rfl, ?ha23⟩)) ?ra23
                      case ha23 => ((intro wz hSw; (try dsimp only at hSw); go_simp); try (with_reducible rfl))
                      try simp only [Act.put, List.setIfInBounds_toArray, List.set_cons_zero, List.set_cons_succ]
                      refine lastZ (o := { dst := Option.none, op := Op.store 4 (Operand.tmp 202) (Operand.tmp 201), type := 0, pos := "law.go:191", after := #[{ on := 23, ground := Ground.data }, { on := 22, ground := Ground.data }, { on := 8, ground := Ground.chain }, { on := 0, ground := Ground.phase }, { on := 1, ground := Ground.phase }, { on := 2, ground := Ground.phase }, { on := 3, ground := Ground.phase }, { on := 4, ground := Ground.phase }, { on := 5, ground := Ground.phase }, { on := 6, ground := Ground.phase }, { on := 7, ground := Ground.phase }, { on := 8, ground := Ground.phase }, { on := 9, ground := Ground.phase }, { on := 10, ground := Ground.phase }, { on := 11, ground := Ground.phase }, { on := 12, ground := Ground.phase }, { on := 13, ground := Ground.phase }, { on := 14, ground := Ground.phase }, { on := 15, ground := Ground.phase }, { on := 16, ground := Ground.phase }, { on := 17, ground := Ground.phase }, { on := 18, ground := Ground.phase }, { on := 19, ground := Ground.phase }, { on := 20, ground := Ground.phase }, { on := 21, ground := Ground.phase }, { on := 22, ground := Ground.phase }], guard := Option.none }) rfl (by kernel_rfl) (by kernel_rfl) ?_
                      intro v7 hg7 hS7 K hK
                      obtain ⟨g1, g2, g3⟩ := HQQ.out v7 (btrH' (Below.refl _ _).drew hg7)
                      have a1 := g2.cell lh hlh
                      have f1 := g2.free lh
                      rw [HRV.out] at a1
                      have HF7 : Hid (RAt boolv (v7.setCell ⟨R, lh, none⟩ (.bool true)) R h.node.length (rchB V (rowL h.upF h.up) s' r (t + 1)) ∧ RAt u64v (v7.setCell ⟨R, lh, none⟩ (.bool true)) D h.node.length (dv V) ∧ Below w6.heap.size w6 (v7.setCell ⟨R, lh, none⟩ (.bool true))) := ⟨(g2.set true hlh).eq (fun j _ => by rw [HST.out j]), g3.far (Ne.symm HRD.out) _, (HQB.out v7 (btrH' (Below.refl _ _).drew hg7)).setCell (p := ⟨R, lh, none⟩) HRW.out _⟩
                      clear g1 g2 g3 hS7 hg7
                      go_simp
                      refine hK.out _ _ ?_
                      clear a1 f1 hK K
                      go_wp2
                      go_roundw
                      case rel => exact ⟨t + 1, by omega, by go_num, HF7.out.1, HF7.out.2.1, HF7.out.2.2⟩
                      case measure => simp [intOf]; omega
                    | false =>
                      have HRV : Hid (rchB V (rowL h.upF h.up) s' r t lh = false) := hrv
                      by_cases hkd : k = d + (lw : Int)
                      · have n5 : (k == d + (lw : Int)) = true := by simpa using hkd
                        have HST : Hid (∀ j, rchB V (rowL h.upF h.up) s' r (t + 1) j = upd (rchB V (rowL h.upF h.up) s' r t) lh true j) := fun j => by rw [HSTEP.out j, hrv, n5]; rfl
                        clear hrv HSTEP hkd
                        have HS7 : Hid (∀ wx, Below WQ.heap.size WQ wx → (fun w' => w'.cell? ⟨bx, 0, none⟩ = some (.int .u32 (lh : Int)) ∧ w'.cell? ⟨bx, 1, none⟩ = some (.int .u64 (lw : Int)) ∧ w'.cell? ⟨D, lh, none⟩ = some (.int .u64 k) ∧ w'.cell? ⟨D, r, none⟩ = some (.int .u64 d) ∧ w'.cell? ⟨R, lh, none⟩ = some (.bool false) ∧ Hid (Below WQ.heap.size WQ w')) wx) := fun wx hx => by
                          obtain ⟨g1, g2, g3⟩ := HQQ.out wx hx
                          obtain ⟨⟨b0, b1, _, _⟩, _⟩ := four_cells g1
                          have a1 := g2.cell lh hlh
                          have a2 := g3.cell lh hlh
                          have a3 := g3.cell r h1
                          rw [HRV.out] at a1
                          rw [HDK.out.1] at a2
                          rw [HDK.out.2] at a3
                          exact ⟨b0, b1, a2, a3, a1, hx⟩
                        refine wp_region_Z (z := 24) (S := (fun w' => w'.cell? ⟨bx, 0, none⟩ = some (.int .u32 (lh : Int)) ∧ w'.cell? ⟨bx, 1, none⟩ = some (.int .u64 (lw : Int)) ∧ w'.cell? ⟨D, lh, none⟩ = some (.int .u64 k) ∧ w'.cell? ⟨D, r, none⟩ = some (.int .u64 d) ∧ w'.cell? ⟨R, lh, none⟩ = some (.bool false) ∧ Hid (Below WQ.heap.size WQ w'))) (by kernel_rfl) (HS7.out _ (Below.refl _ _).drew) ?_
                        refine wpAnyZ_take (i := 0) (oi := { dst := Option.some 179, op := Op.move (Operand.tmp 12), type := 42, pos := "law.go:191", after := #[], guard := Option.none }) (oz := { dst := Option.none, op := Op.store 4 (Operand.tmp 202) (Operand.tmp 201), type := 0, pos := "law.go:191", after := #[{ on := 23, ground := Ground.data }, { on := 22, ground := Ground.data }, { on := 8, ground := Ground.chain }, { on := 0, ground := Ground.phase }, { on := 1, ground := Ground.phase }, { on := 2, ground := Ground.phase }, { on := 3, ground := Ground.phase }, { on := 4, ground := Ground.phase }, { on := 5, ground := Ground.phase }, { on := 6, ground := Ground.phase }, { on := 7, ground := Ground.phase }, { on := 8, ground := Ground.phase }, { on := 9, ground := Ground.phase }, { on := 10, ground := Ground.phase }, { on := 11, ground := Ground.phase }, { on := 12, ground := Ground.phase }, { on := 13, ground := Ground.phase }, { on := 14, ground := Ground.phase }, { on := 15, ground := Ground.phase }, { on := 16, ground := Ground.phase }, { on := 17, ground := Ground.phase }, { on := 18, ground := Ground.phase }, { on := 19, ground := Ground.phase }, { on := 20, ground := Ground.phase }, { on := 21, ground := Ground.phase }, { on := 22, ground := Ground.phase }], guard := Option.none }) (v := ?vb0) rfl rfl (by kernel_rfl) (by kernel_rfl) (by kernel_rfl) (by kernel_rfl) (by kernel_rfl) (fun _ _ _ h => h) (YieldsM.of_if (Or.inl ⟨by rfl, ?hb0⟩)) ?rb0
                        case hb0 => ((intro wz hSw; (try dsimp only at hSw); go_simp); try (with_reducible rfl))
                        try simp only [Act.put, List.setIfInBounds_toArray, List.set_cons_zero, List.set_cons_succ]
                        refine wpAnyZ_take (i := 1) (oi := { dst := Option.some 180, op := Op.fieldAddr 45 (Operand.tmp 15) 0, type := 0, pos := "law.go:191", after := #[], guard := Option.none }) (oz := { dst := Option.none, op := Op.store 4 (Operand.tmp 202) (Operand.tmp 201), type := 0, pos := "law.go:191", after := #[{ on := 23, ground := Ground.data }, { on := 22, ground := Ground.data }, { on := 8, ground := Ground.chain }, { on := 0, ground := Ground.phase }, { on := 1, ground := Ground.phase }, { on := 2, ground := Ground.phase }, { on := 3, ground := Ground.phase }, { on := 4, ground := Ground.phase }, { on := 5, ground := Ground.phase }, { on := 6, ground := Ground.phase }, { on := 7, ground := Ground.phase }, { on := 8, ground := Ground.phase }, { on := 9, ground := Ground.phase }, { on := 10, ground := Ground.phase }, { on := 11, ground := Ground.phase }, { on := 12, ground := Ground.phase }, { on := 13, ground := Ground.phase }, { on := 14, ground := Ground.phase }, { on := 15, ground := Ground.phase }, { on := 16, ground := Ground.phase }, { on := 17, ground := Ground.phase }, { on := 18, ground := Ground.phase }, { on := 19, ground := Ground.phase }, { on := 20, ground := Ground.phase }, { on := 21, ground := Ground.phase }, { on := 22, ground := Ground.phase }], guard := Option.none }) (v := ?vb1) rfl rfl (by kernel_rfl) (by kernel_rfl) (by kernel_rfl) (by kernel_rfl) (by kernel_rfl) (fun _ _ _ h => h) (YieldsM.of_if (Or.inl ⟨by rfl, ?hb1⟩)) ?rb1
                        case hb1 => ((intro wz hSw; (try dsimp only at hSw); go_simp); try (with_reducible rfl))
                        try simp only [Act.put, List.setIfInBounds_toArray, List.set_cons_zero, List.set_cons_succ]
                        refine wpAnyZ_take (i := 2) (oi := { dst := Option.some 181, op := Op.load 43 (Operand.tmp 180), type := 43, pos := "law.go:191", after := #[{ on := 1, ground := Ground.data }], guard := Option.none }) (oz := { dst := Option.none, op := Op.store 4 (Operand.tmp 202) (Operand.tmp 201), type := 0, pos := "law.go:191", after := #[{ on := 23, ground := Ground.data }, { on := 22, ground := Ground.data }, { on := 8, ground := Ground.chain }, { on := 0, ground := Ground.phase }, { on := 1, ground := Ground.phase }, { on := 2, ground := Ground.phase }, { on := 3, ground := Ground.phase }, { on := 4, ground := Ground.phase }, { on := 5, ground := Ground.phase }, { on := 6, ground := Ground.phase }, { on := 7, ground := Ground.phase }, { on := 8, ground := Ground.phase }, { on := 9, ground := Ground.phase }, { on := 10, ground := Ground.phase }, { on := 11, ground := Ground.phase }, { on := 12, ground := Ground.phase }, { on := 13, ground := Ground.phase }, { on := 14, ground := Ground.phase }, { on := 15, ground := Ground.phase }, { on := 16, ground := Ground.phase }, { on := 17, ground := Ground.phase }, { on := 18, ground := Ground.phase }, { on := 19, ground := Ground.phase }, { on := 20, ground := Ground.phase }, { on := 21, ground := Ground.phase }, { on := 22, ground := Ground.phase }], guard := Option.none }) (v := ?vb2) rfl rfl (by kernel_rfl) (by kernel_rfl) (by kernel_rfl) (by kernel_rfl) (by kernel_rfl) (fun _ _ _ h => h) (YieldsM.of_if (Or.inl ⟨by rfl, ?hb2⟩)) ?rb2
                        case hb2 => ((intro wz hSw; (try dsimp only at hSw); go_simp); try (with_reducible rfl))
                        try simp only [Act.put, List.setIfInBounds_toArray, List.set_cons_zero, List.set_cons_succ]
                        refine wpAnyZ_take (i := 3) (oi := { dst := Option.some 182, op := Op.move (Operand.tmp 12), type := 42, pos := "law.go:191", after := #[], guard := Option.none }) (oz := { dst := Option.none, op := Op.store 4 (Operand.tmp 202) (Operand.tmp 201), type := 0, pos := "law.go:191", after := #[{ on := 23, ground := Ground.data }, { on := 22, ground := Ground.data }, { on := 8, ground := Ground.chain }, { on := 0, ground := Ground.phase }, { on := 1, ground := Ground.phase }, { on := 2, ground := Ground.phase }, { on := 3, ground := Ground.phase }, { on := 4, ground := Ground.phase }, { on := 5, ground := Ground.phase }, { on := 6, ground := Ground.phase }, { on := 7, ground := Ground.phase }, { on := 8, ground := Ground.phase }, { on := 9, ground := Ground.phase }, { on := 10, ground := Ground.phase }, { on := 11, ground := Ground.phase }, { on := 12, ground := Ground.phase }, { on := 13, ground := Ground.phase }, { on := 14, ground := Ground.phase }, { on := 15, ground := Ground.phase }, { on := 16, ground := Ground.phase }, { on := 17, ground := Ground.phase }, { on := 18, ground := Ground.phase }, { on := 19, ground := Ground.phase }, { on := 20, ground := Ground.phase }, { on := 21, ground := Ground.phase }, { on := 22, ground := Ground.phase }], guard := Option.none }) (v := ?vb3) rfl rfl (by kernel_rfl) (by kernel_rfl) (by kernel_rfl) (by kernel_rfl) (by kernel_rfl) (fun _ _ _ h => h) (YieldsM.of_if (Or.inl ⟨by rfl, ?hb3⟩)) ?rb3
                        case hb3 => ((intro wz hSw; (try dsimp only at hSw); go_simp); try (with_reducible rfl))
                        try simp only [Act.put, List.setIfInBounds_toArray, List.set_cons_zero, List.set_cons_succ]
                        refine wpAnyZ_take (i := 4) (oi := { dst := Option.some 183, op := Op.fieldAddr 45 (Operand.tmp 15) 0, type := 0, pos := "law.go:191", after := #[], guard := Option.none }) (oz := { dst := Option.none, op := Op.store 4 (Operand.tmp 202) (Operand.tmp 201), type := 0, pos := "law.go:191", after := #[{ on := 23, ground := Ground.data }, { on := 22, ground := Ground.data }, { on := 8, ground := Ground.chain }, { on := 0, ground := Ground.phase }, { on := 1, ground := Ground.phase }, { on := 2, ground := Ground.phase }, { on := 3, ground := Ground.phase }, { on := 4, ground := Ground.phase }, { on := 5, ground := Ground.phase }, { on := 6, ground := Ground.phase }, { on := 7, ground := Ground.phase }, { on := 8, ground := Ground.phase }, { on := 9, ground := Ground.phase }, { on := 10, ground := Ground.phase }, { on := 11, ground := Ground.phase }, { on := 12, ground := Ground.phase }, { on := 13, ground := Ground.phase }, { on := 14, ground := Ground.phase }, { on := 15, ground := Ground.phase }, { on := 16, ground := Ground.phase }, { on := 17, ground := Ground.phase }, { on := 18, ground := Ground.phase }, { on := 19, ground := Ground.phase }, { on := 20, ground := Ground.phase }, { on := 21, ground := Ground.phase }, { on := 22, ground := Ground.phase }], guard := Option.none }) (v := ?vb4) rfl rfl (by kernel_rfl) (by kernel_rfl) (by kernel_rfl) (by kernel_rfl) (by kernel_rfl) (fun _ _ _ h => h) (YieldsM.of_if (Or.inl ⟨by rfl, ?hb4⟩)) ?rb4
                        case hb4 => ((intro wz hSw; (try dsimp only at hSw); go_simp); try (with_reducible rfl))
                        try simp only [Act.put, List.setIfInBounds_toArray, List.set_cons_zero, List.set_cons_succ]
                        refine wpAnyZ_take (i := 5) (oi := { dst := Option.some 184, op := Op.load 43 (Operand.tmp 183), type := 43, pos := "law.go:191", after := #[{ on := 4, ground := Ground.data }], guard := Option.none }) (oz := { dst := Option.none, op := Op.store 4 (Operand.tmp 202) (Operand.tmp 201), type := 0, pos := "law.go:191", after := #[{ on := 23, ground := Ground.data }, { on := 22, ground := Ground.data }, { on := 8, ground := Ground.chain }, { on := 0, ground := Ground.phase }, { on := 1, ground := Ground.phase }, { on := 2, ground := Ground.phase }, { on := 3, ground := Ground.phase }, { on := 4, ground := Ground.phase }, { on := 5, ground := Ground.phase }, { on := 6, ground := Ground.phase }, { on := 7, ground := Ground.phase }, { on := 8, ground := Ground.phase }, { on := 9, ground := Ground.phase }, { on := 10, ground := Ground.phase }, { on := 11, ground := Ground.phase }, { on := 12, ground := Ground.phase }, { on := 13, ground := Ground.phase }, { on := 14, ground := Ground.phase }, { on := 15, ground := Ground.phase }, { on := 16, ground := Ground.phase }, { on := 17, ground := Ground.phase }, { on := 18, ground := Ground.phase }, { on := 19, ground := Ground.phase }, { on := 20, ground := Ground.phase }, { on := 21, ground := Ground.phase }, { on := 22, ground := Ground.phase }], guard := Option.none }) (v := ?vb5) rfl rfl (by kernel_rfl) (by kernel_rfl) (by kernel_rfl) (by kernel_rfl) (by kernel_rfl) (fun _ _ _ h => h) (YieldsM.of_if (Or.inl ⟨by rfl, ?hb5⟩)) ?rb5
                        case hb5 => ((intro wz hSw; (try dsimp only at hSw); go_simp); try (with_reducible rfl))
                        try simp only [Act.put, List.setIfInBounds_toArray, List.set_cons_zero, List.set_cons_succ]
                        refine wpAnyZ_take (i := 6) (oi := { dst := Option.some 185, op := Op.indexAddr 42 (Operand.tmp 182) (Operand.tmp 184), type := 0, pos := "law.go:191", after := #[{ on := 3, ground := Ground.data }, { on := 5, ground := Ground.data }], guard := Option.none }) (oz := { dst := Option.none, op := Op.store 4 (Operand.tmp 202) (Operand.tmp 201), type := 0, pos := "law.go:191", after := #[{ on := 23, ground := Ground.data }, { on := 22, ground := Ground.data }, { on := 8, ground := Ground.chain }, { on := 0, ground := Ground.phase }, { on := 1, ground := Ground.phase }, { on := 2, ground := Ground.phase }, { on := 3, ground := Ground.phase }, { on := 4, ground := Ground.phase }, { on := 5, ground := Ground.phase }, { on := 6, ground := Ground.phase }, { on := 7, ground := Ground.phase }, { on := 8, ground := Ground.phase }, { on := 9, ground := Ground.phase }, { on := 10, ground := Ground.phase }, { on := 11, ground := Ground.phase }, { on := 12, ground := Ground.phase }, { on := 13, ground := Ground.phase }, { on := 14, ground := Ground.phase }, { on := 15, ground := Ground.phase }, { on := 16, ground := Ground.phase }, { on := 17, ground := Ground.phase }, { on := 18, ground := Ground.phase }, { on := 19, ground := Ground.phase }, { on := 20, ground := Ground.phase }, { on := 21, ground := Ground.phase }, { on := 22, ground := Ground.phase }], guard := Option.none }) (v := ?vb6) rfl rfl (by kernel_rfl) (by kernel_rfl) (by kernel_rfl) (by kernel_rfl) (by kernel_rfl) (fun _ _ _ h => h) (YieldsM.of_if (Or.inl ⟨by rfl, ?hb6⟩)) ?rb6
                        case hb6 => ((intro wz hSw; (try dsimp only at hSw); go_simp); try (with_reducible rfl))
                        try simp only [Act.put, List.setIfInBounds_toArray, List.set_cons_zero, List.set_cons_succ]
                        refine wpAnyZ_take (i := 7) (oi := { dst := Option.some 186, op := Op.load 4 (Operand.tmp 185), type := 4, pos := "law.go:191", after := #[{ on := 6, ground := Ground.data }], guard := Option.none }) (oz := { dst := Option.none, op := Op.store 4 (Operand.tmp 202) (Operand.tmp 201), type := 0, pos := "law.go:191", after := #[{ on := 23, ground := Ground.data }, { on := 22, ground := Ground.data }, { on := 8, ground := Ground.chain }, { on := 0, ground := Ground.phase }, { on := 1, ground := Ground.phase }, { on := 2, ground := Ground.phase }, { on := 3, ground := Ground.phase }, { on := 4, ground := Ground.phase }, { on := 5, ground := Ground.phase }, { on := 6, ground := Ground.phase }, { on := 7, ground := Ground.phase }, { on := 8, ground := Ground.phase }, { on := 9, ground := Ground.phase }, { on := 10, ground := Ground.phase }, { on := 11, ground := Ground.phase }, { on := 12, ground := Ground.phase }, { on := 13, ground := Ground.phase }, { on := 14, ground := Ground.phase }, { on := 15, ground := Ground.phase }, { on := 16, ground := Ground.phase }, { on := 17, ground := Ground.phase }, { on := 18, ground := Ground.phase }, { on := 19, ground := Ground.phase }, { on := 20, ground := Ground.phase }, { on := 21, ground := Ground.phase }, { on := 22, ground := Ground.phase }], guard := Option.none }) (v := ?vb7) rfl rfl (by kernel_rfl) (by kernel_rfl) (by kernel_rfl) (by kernel_rfl) (by kernel_rfl) (fun _ _ _ h => h) (YieldsM.of_if (Or.inl ⟨by rfl, ?hb7⟩)) ?rb7
                        case hb7 => ((intro wz hSw; (try dsimp only at hSw); go_simp); try (with_reducible rfl))
                        try simp only [Act.put, List.setIfInBounds_toArray, List.set_cons_zero, List.set_cons_succ]
                        refine wpAnyZ_take (i := 8) (oi := { dst := Option.some 187, op := Op.move (Operand.tmp 186), type := 4, pos := "law.go:191", after := #[{ on := 7, ground := Ground.data }], guard := Option.none }) (oz := { dst := Option.none, op := Op.store 4 (Operand.tmp 202) (Operand.tmp 201), type := 0, pos := "law.go:191", after := #[{ on := 23, ground := Ground.data }, { on := 22, ground := Ground.data }, { on := 8, ground := Ground.chain }, { on := 0, ground := Ground.phase }, { on := 1, ground := Ground.phase }, { on := 2, ground := Ground.phase }, { on := 3, ground := Ground.phase }, { on := 4, ground := Ground.phase }, { on := 5, ground := Ground.phase }, { on := 6, ground := Ground.phase }, { on := 7, ground := Ground.phase }, { on := 8, ground := Ground.phase }, { on := 9, ground := Ground.phase }, { on := 10, ground := Ground.phase }, { on := 11, ground := Ground.phase }, { on := 12, ground := Ground.phase }, { on := 13, ground := Ground.phase }, { on := 14, ground := Ground.phase }, { on := 15, ground := Ground.phase }, { on := 16, ground := Ground.phase }, { on := 17, ground := Ground.phase }, { on := 18, ground := Ground.phase }, { on := 19, ground := Ground.phase }, { on := 20, ground := Ground.phase }, { on := 21, ground := Ground.phase }, { on := 22, ground := Ground.phase }], guard := Option.none }) (v := ?vb8) rfl rfl (by kernel_rfl) (by kernel_rfl) (by kernel_rfl) (by kernel_rfl) (by kernel_rfl) (fun _ _ _ h => h) (YieldsM.of_if (Or.inl ⟨by rfl, ?hb8⟩)) ?rb8
                        case hb8 => ((intro wz hSw; (try dsimp only at hSw); go_simp); try (with_reducible rfl))
                        try simp only [Act.put, List.setIfInBounds_toArray, List.set_cons_zero, List.set_cons_succ]
                        refine wpAnyZ_take (i := 9) (oi := { dst := Option.some 188, op := Op.move (Operand.tmp 8), type := 38, pos := "law.go:191", after := #[{ on := 8, ground := Ground.guard }], guard := Option.some (8, Bool.false) }) (oz := { dst := Option.none, op := Op.store 4 (Operand.tmp 202) (Operand.tmp 201), type := 0, pos := "law.go:191", after := #[{ on := 23, ground := Ground.data }, { on := 22, ground := Ground.data }, { on := 8, ground := Ground.chain }, { on := 0, ground := Ground.phase }, { on := 1, ground := Ground.phase }, { on := 2, ground := Ground.phase }, { on := 3, ground := Ground.phase }, { on := 4, ground := Ground.phase }, { on := 5, ground := Ground.phase }, { on := 6, ground := Ground.phase }, { on := 7, ground := Ground.phase }, { on := 8, ground := Ground.phase }, { on := 9, ground := Ground.phase }, { on := 10, ground := Ground.phase }, { on := 11, ground := Ground.phase }, { on := 12, ground := Ground.phase }, { on := 13, ground := Ground.phase }, { on := 14, ground := Ground.phase }, { on := 15, ground := Ground.phase }, { on := 16, ground := Ground.phase }, { on := 17, ground := Ground.phase }, { on := 18, ground := Ground.phase }, { on := 19, ground := Ground.phase }, { on := 20, ground := Ground.phase }, { on := 21, ground := Ground.phase }, { on := 22, ground := Ground.phase }], guard := Option.none }) (v := ?vb9) rfl rfl (by kernel_rfl) (by kernel_rfl) (by kernel_rfl) (by kernel_rfl) (by kernel_rfl) (fun _ _ _ h => h) (YieldsM.of_if (Or.inl ⟨by rfl, ?hb9⟩)) ?rb9
                        case hb9 => ((intro wz hSw; (try dsimp only at hSw); go_simp); try (with_reducible rfl))
                        try simp only [Act.put, List.setIfInBounds_toArray, List.set_cons_zero, List.set_cons_succ]
                        refine wpAnyZ_take (i := 10) (oi := { dst := Option.some 189, op := Op.fieldAddr 45 (Operand.tmp 15) 0, type := 0, pos := "law.go:191", after := #[{ on := 8, ground := Ground.guard }], guard := Option.some (8, Bool.false) }) (oz := { dst := Option.none, op := Op.store 4 (Operand.tmp 202) (Operand.tmp 201), type := 0, pos := "law.go:191", after := #[{ on := 23, ground := Ground.data }, { on := 22, ground := Ground.data }, { on := 8, ground := Ground.chain }, { on := 0, ground := Ground.phase }, { on := 1, ground := Ground.phase }, { on := 2, ground := Ground.phase }, { on := 3, ground := Ground.phase }, { on := 4, ground := Ground.phase }, { on := 5, ground := Ground.phase }, { on := 6, ground := Ground.phase }, { on := 7, ground := Ground.phase }, { on := 8, ground := Ground.phase }, { on := 9, ground := Ground.phase }, { on := 10, ground := Ground.phase }, { on := 11, ground := Ground.phase }, { on := 12, ground := Ground.phase }, { on := 13, ground := Ground.phase }, { on := 14, ground := Ground.phase }, { on := 15, ground := Ground.phase }, { on := 16, ground := Ground.phase }, { on := 17, ground := Ground.phase }, { on := 18, ground := Ground.phase }, { on := 19, ground := Ground.phase }, { on := 20, ground := Ground.phase }, { on := 21, ground := Ground.phase }, { on := 22, ground := Ground.phase }], guard := Option.none }) (v := ?vb10) rfl rfl (by kernel_rfl) (by kernel_rfl) (by kernel_rfl) (by kernel_rfl) (by kernel_rfl) (fun _ _ _ h => h) (YieldsM.of_if (Or.inl ⟨by rfl, ?hb10⟩)) ?rb10
                        case hb10 => ((intro wz hSw; (try dsimp only at hSw); go_simp); try (with_reducible rfl))
                        try simp only [Act.put, List.setIfInBounds_toArray, List.set_cons_zero, List.set_cons_succ]
                        refine wpAnyZ_take (i := 11) (oi := { dst := Option.some 190, op := Op.load 43 (Operand.tmp 189), type := 43, pos := "law.go:191", after := #[{ on := 10, ground := Ground.data }, { on := 8, ground := Ground.guard }], guard := Option.some (8, Bool.false) }) (oz := { dst := Option.none, op := Op.store 4 (Operand.tmp 202) (Operand.tmp 201), type := 0, pos := "law.go:191", after := #[{ on := 23, ground := Ground.data }, { on := 22, ground := Ground.data }, { on := 8, ground := Ground.chain }, { on := 0, ground := Ground.phase }, { on := 1, ground := Ground.phase }, { on := 2, ground := Ground.phase }, { on := 3, ground := Ground.phase }, { on := 4, ground := Ground.phase }, { on := 5, ground := Ground.phase }, { on := 6, ground := Ground.phase }, { on := 7, ground := Ground.phase }, { on := 8, ground := Ground.phase }, { on := 9, ground := Ground.phase }, { on := 10, ground := Ground.phase }, { on := 11, ground := Ground.phase }, { on := 12, ground := Ground.phase }, { on := 13, ground := Ground.phase }, { on := 14, ground := Ground.phase }, { on := 15, ground := Ground.phase }, { on := 16, ground := Ground.phase }, { on := 17, ground := Ground.phase }, { on := 18, ground := Ground.phase }, { on := 19, ground := Ground.phase }, { on := 20, ground := Ground.phase }, { on := 21, ground := Ground.phase }, { on := 22, ground := Ground.phase }], guard := Option.none }) (v := ?vb11) rfl rfl (by kernel_rfl) (by kernel_rfl) (by kernel_rfl) (by kernel_rfl) (by kernel_rfl) (fun _ _ _ h => h) (YieldsM.of_if (Or.inl ⟨by rfl, ?hb11⟩)) ?rb11
                        case hb11 => ((intro wz hSw; (try dsimp only at hSw); go_simp); try (with_reducible rfl))
                        try simp only [Act.put, List.setIfInBounds_toArray, List.set_cons_zero, List.set_cons_succ]
                        refine wpAnyZ_take (i := 12) (oi := { dst := Option.some 191, op := Op.indexAddr 38 (Operand.tmp 188) (Operand.tmp 190), type := 0, pos := "law.go:191", after := #[{ on := 9, ground := Ground.data }, { on := 11, ground := Ground.data }, { on := 8, ground := Ground.guard }], guard := Option.some (8, Bool.false) }) (oz := { dst := Option.none, op := Op.store 4 (Operand.tmp 202) (Operand.tmp 201), type := 0, pos := "law.go:191", after := #[{ on := 23, ground := Ground.data }, { on := 22, ground := Ground.data }, { on := 8, ground := Ground.chain }, { on := 0, ground := Ground.phase }, { on := 1, ground := Ground.phase }, { on := 2, ground := Ground.phase }, { on := 3, ground := Ground.phase }, { on := 4, ground := Ground.phase }, { on := 5, ground := Ground.phase }, { on := 6, ground := Ground.phase }, { on := 7, ground := Ground.phase }, { on := 8, ground := Ground.phase }, { on := 9, ground := Ground.phase }, { on := 10, ground := Ground.phase }, { on := 11, ground := Ground.phase }, { on := 12, ground := Ground.phase }, { on := 13, ground := Ground.phase }, { on := 14, ground := Ground.phase }, { on := 15, ground := Ground.phase }, { on := 16, ground := Ground.phase }, { on := 17, ground := Ground.phase }, { on := 18, ground := Ground.phase }, { on := 19, ground := Ground.phase }, { on := 20, ground := Ground.phase }, { on := 21, ground := Ground.phase }, { on := 22, ground := Ground.phase }], guard := Option.none }) (v := ?vb12) rfl rfl (by kernel_rfl) (by kernel_rfl) (by kernel_rfl) (by kernel_rfl) (by kernel_rfl) (fun _ _ _ h => h) (YieldsM.of_if (Or.inl ⟨by rfl, ?hb12⟩)) ?rb12
                        case hb12 => ((intro wz hSw; (try dsimp only at hSw); go_simp); try (with_reducible rfl))
                        try simp only [Act.put, List.setIfInBounds_toArray, List.set_cons_zero, List.set_cons_succ]
                        refine wpAnyZ_take (i := 13) (oi := { dst := Option.some 192, op := Op.load 39 (Operand.tmp 191), type := 39, pos := "law.go:191", after := #[{ on := 12, ground := Ground.data }, { on := 8, ground := Ground.guard }], guard := Option.some (8, Bool.false) }) (oz := { dst := Option.none, op := Op.store 4 (Operand.tmp 202) (Operand.tmp 201), type := 0, pos := "law.go:191", after := #[{ on := 23, ground := Ground.data }, { on := 22, ground := Ground.data }, { on := 8, ground := Ground.chain }, { on := 0, ground := Ground.phase }, { on := 1, ground := Ground.phase }, { on := 2, ground := Ground.phase }, { on := 3, ground := Ground.phase }, { on := 4, ground := Ground.phase }, { on := 5, ground := Ground.phase }, { on := 6, ground := Ground.phase }, { on := 7, ground := Ground.phase }, { on := 8, ground := Ground.phase }, { on := 9, ground := Ground.phase }, { on := 10, ground := Ground.phase }, { on := 11, ground := Ground.phase }, { on := 12, ground := Ground.phase }, { on := 13, ground := Ground.phase }, { on := 14, ground := Ground.phase }, { on := 15, ground := Ground.phase }, { on := 16, ground := Ground.phase }, { on := 17, ground := Ground.phase }, { on := 18, ground := Ground.phase }, { on := 19, ground := Ground.phase }, { on := 20, ground := Ground.phase }, { on := 21, ground := Ground.phase }, { on := 22, ground := Ground.phase }], guard := Option.none }) (v := ?vb13) rfl rfl (by kernel_rfl) (by kernel_rfl) (by kernel_rfl) (by kernel_rfl) (by kernel_rfl) (fun _ _ _ h => h) (YieldsM.of_if (Or.inl ⟨by rfl, ?hb13⟩)) ?rb13
                        case hb13 => ((intro wz hSw; (try dsimp only at hSw); go_simp); try (with_reducible rfl))
                        try simp only [Act.put, List.setIfInBounds_toArray, List.set_cons_zero, List.set_cons_succ]
                        refine wpAnyZ_take (i := 14) (oi := { dst := Option.some 193, op := Op.move (Operand.tmp 8), type := 38, pos := "law.go:191", after := #[{ on := 8, ground := Ground.guard }], guard := Option.some (8, Bool.false) }) (oz := { dst := Option.none, op := Op.store 4 (Operand.tmp 202) (Operand.tmp 201), type := 0, pos := "law.go:191", after := #[{ on := 23, ground := Ground.data }, { on := 22, ground := Ground.data }, { on := 8, ground := Ground.chain }, { on := 0, ground := Ground.phase }, { on := 1, ground := Ground.phase }, { on := 2, ground := Ground.phase }, { on := 3, ground := Ground.phase }, { on := 4, ground := Ground.phase }, { on := 5, ground := Ground.phase }, { on := 6, ground := Ground.phase }, { on := 7, ground := Ground.phase }, { on := 8, ground := Ground.phase }, { on := 9, ground := Ground.phase }, { on := 10, ground := Ground.phase }, { on := 11, ground := Ground.phase }, { on := 12, ground := Ground.phase }, { on := 13, ground := Ground.phase }, { on := 14, ground := Ground.phase }, { on := 15, ground := Ground.phase }, { on := 16, ground := Ground.phase }, { on := 17, ground := Ground.phase }, { on := 18, ground := Ground.phase }, { on := 19, ground := Ground.phase }, { on := 20, ground := Ground.phase }, { on := 21, ground := Ground.phase }, { on := 22, ground := Ground.phase }], guard := Option.none }) (v := ?vb14) rfl rfl (by kernel_rfl) (by kernel_rfl) (by kernel_rfl) (by kernel_rfl) (by kernel_rfl) (fun _ _ _ h => h) (YieldsM.of_if (Or.inl ⟨by rfl, ?hb14⟩)) ?rb14
                        case hb14 => ((intro wz hSw; (try dsimp only at hSw); go_simp); try (with_reducible rfl))
                        try simp only [Act.put, List.setIfInBounds_toArray, List.set_cons_zero, List.set_cons_succ]
                        refine wpAnyZ_take (i := 15) (oi := { dst := Option.some 194, op := Op.move (Operand.tmp 13), type := 3, pos := "law.go:191", after := #[{ on := 8, ground := Ground.guard }], guard := Option.some (8, Bool.false) }) (oz := { dst := Option.none, op := Op.store 4 (Operand.tmp 202) (Operand.tmp 201), type := 0, pos := "law.go:191", after := #[{ on := 23, ground := Ground.data }, { on := 22, ground := Ground.data }, { on := 8, ground := Ground.chain }, { on := 0, ground := Ground.phase }, { on := 1, ground := Ground.phase }, { on := 2, ground := Ground.phase }, { on := 3, ground := Ground.phase }, { on := 4, ground := Ground.phase }, { on := 5, ground := Ground.phase }, { on := 6, ground := Ground.phase }, { on := 7, ground := Ground.phase }, { on := 8, ground := Ground.phase }, { on := 9, ground := Ground.phase }, { on := 10, ground := Ground.phase }, { on := 11, ground := Ground.phase }, { on := 12, ground := Ground.phase }, { on := 13, ground := Ground.phase }, { on := 14, ground := Ground.phase }, { on := 15, ground := Ground.phase }, { on := 16, ground := Ground.phase }, { on := 17, ground := Ground.phase }, { on := 18, ground := Ground.phase }, { on := 19, ground := Ground.phase }, { on := 20, ground := Ground.phase }, { on := 21, ground := Ground.phase }, { on := 22, ground := Ground.phase }], guard := Option.none }) (v := ?vb15) rfl rfl (by kernel_rfl) (by kernel_rfl) (by kernel_rfl) (by kernel_rfl) (by kernel_rfl) (fun _ _ _ h => h) (YieldsM.of_if (Or.inl ⟨by rfl, ?hb15⟩)) ?rb15
                        case hb15 => ((intro wz hSw; (try dsimp only at hSw); go_simp); try (with_reducible rfl))
                        try simp only [Act.put, List.setIfInBounds_toArray, List.set_cons_zero, List.set_cons_succ]
                        refine wpAnyZ_take (i := 16) (oi := { dst := Option.some 195, op := Op.indexAddr 38 (Operand.tmp 193) (Operand.tmp 194), type := 0, pos := "law.go:191", after := #[{ on := 14, ground := Ground.data }, { on := 15, ground := Ground.data }, { on := 8, ground := Ground.guard }], guard := Option.some (8, Bool.false) }) (oz := { dst := Option.none, op := Op.store 4 (Operand.tmp 202) (Operand.tmp 201), type := 0, pos := "law.go:191", after := #[{ on := 23, ground := Ground.data }, { on := 22, ground := Ground.data }, { on := 8, ground := Ground.chain }, { on := 0, ground := Ground.phase }, { on := 1, ground := Ground.phase }, { on := 2, ground := Ground.phase }, { on := 3, ground := Ground.phase }, { on := 4, ground := Ground.phase }, { on := 5, ground := Ground.phase }, { on := 6, ground := Ground.phase }, { on := 7, ground := Ground.phase }, { on := 8, ground := Ground.phase }, { on := 9, ground := Ground.phase }, { on := 10, ground := Ground.phase }, { on := 11, ground := Ground.phase }, { on := 12, ground := Ground.phase }, { on := 13, ground := Ground.phase }, { on := 14, ground := Ground.phase }, { on := 15, ground := Ground.phase }, { on := 16, ground := Ground.phase }, { on := 17, ground := Ground.phase }, { on := 18, ground := Ground.phase }, { on := 19, ground := Ground.phase }, { on := 20, ground := Ground.phase }, { on := 21, ground := Ground.phase }, { on := 22, ground := Ground.phase }], guard := Option.none }) (v := ?vb16) rfl rfl (by kernel_rfl) (by kernel_rfl) (by kernel_rfl) (by kernel_rfl) (by kernel_rfl) (fun _ _ _ h => h) (YieldsM.of_if (Or.inl ⟨by rfl, ?hb16⟩)) ?rb16
                        case hb16 => ((intro wz hSw; (try dsimp only at hSw); go_simp); try (with_reducible rfl))
                        try simp only [Act.put, List.setIfInBounds_toArray, List.set_cons_zero, List.set_cons_succ]
                        refine wpAnyZ_take (i := 17) (oi := { dst := Option.some 196, op := Op.load 39 (Operand.tmp 195), type := 39, pos := "law.go:191", after := #[{ on := 16, ground := Ground.data }, { on := 8, ground := Ground.guard }], guard := Option.some (8, Bool.false) }) (oz := { dst := Option.none, op := Op.store 4 (Operand.tmp 202) (Operand.tmp 201), type := 0, pos := "law.go:191", after := #[{ on := 23, ground := Ground.data }, { on := 22, ground := Ground.data }, { on := 8, ground := Ground.chain }, { on := 0, ground := Ground.phase }, { on := 1, ground := Ground.phase }, { on := 2, ground := Ground.phase }, { on := 3, ground := Ground.phase }, { on := 4, ground := Ground.phase }, { on := 5, ground := Ground.phase }, { on := 6, ground := Ground.phase }, { on := 7, ground := Ground.phase }, { on := 8, ground := Ground.phase }, { on := 9, ground := Ground.phase }, { on := 10, ground := Ground.phase }, { on := 11, ground := Ground.phase }, { on := 12, ground := Ground.phase }, { on := 13, ground := Ground.phase }, { on := 14, ground := Ground.phase }, { on := 15, ground := Ground.phase }, { on := 16, ground := Ground.phase }, { on := 17, ground := Ground.phase }, { on := 18, ground := Ground.phase }, { on := 19, ground := Ground.phase }, { on := 20, ground := Ground.phase }, { on := 21, ground := Ground.phase }, { on := 22, ground := Ground.phase }], guard := Option.none }) (v := ?vb17) rfl rfl (by kernel_rfl) (by kernel_rfl) (by kernel_rfl) (by kernel_rfl) (by kernel_rfl) (fun _ _ _ h => h) (YieldsM.of_if (Or.inl ⟨by rfl, ?hb17⟩)) ?rb17
                        case hb17 => ((intro wz hSw; (try dsimp only at hSw); go_simp); try (with_reducible rfl))
                        try simp only [Act.put, List.setIfInBounds_toArray, List.set_cons_zero, List.set_cons_succ]
                        refine wpAnyZ_take (i := 18) (oi := { dst := Option.some 197, op := Op.fieldAddr 45 (Operand.tmp 15) 1, type := 0, pos := "law.go:191", after := #[{ on := 8, ground := Ground.guard }], guard := Option.some (8, Bool.false) }) (oz := { dst := Option.none, op := Op.store 4 (Operand.tmp 202) (Operand.tmp 201), type := 0, pos := "law.go:191", after := #[{ on := 23, ground := Ground.data }, { on := 22, ground := Ground.data }, { on := 8, ground := Ground.chain }, { on := 0, ground := Ground.phase }, { on := 1, ground := Ground.phase }, { on := 2, ground := Ground.phase }, { on := 3, ground := Ground.phase }, { on := 4, ground := Ground.phase }, { on := 5, ground := Ground.phase }, { on := 6, ground := Ground.phase }, { on := 7, ground := Ground.phase }, { on := 8, ground := Ground.phase }, { on := 9, ground := Ground.phase }, { on := 10, ground := Ground.phase }, { on := 11, ground := Ground.phase }, { on := 12, ground := Ground.phase }, { on := 13, ground := Ground.phase }, { on := 14, ground := Ground.phase }, { on := 15, ground := Ground.phase }, { on := 16, ground := Ground.phase }, { on := 17, ground := Ground.phase }, { on := 18, ground := Ground.phase }, { on := 19, ground := Ground.phase }, { on := 20, ground := Ground.phase }, { on := 21, ground := Ground.phase }, { on := 22, ground := Ground.phase }], guard := Option.none }) (v := ?vb18) rfl rfl (by kernel_rfl) (by kernel_rfl) (by kernel_rfl) (by kernel_rfl) (by kernel_rfl) (fun _ _ _ h => h) (YieldsM.of_if (Or.inl ⟨by rfl, ?hb18⟩)) ?rb18
                        case hb18 => ((intro wz hSw; (try dsimp only at hSw); go_simp); try (with_reducible rfl))
                        try simp only [Act.put, List.setIfInBounds_toArray, List.set_cons_zero, List.set_cons_succ]
                        refine wpAnyZ_take (i := 19) (oi := { dst := Option.some 198, op := Op.load 39 (Operand.tmp 197), type := 39, pos := "law.go:191", after := #[{ on := 18, ground := Ground.data }, { on := 8, ground := Ground.guard }], guard := Option.some (8, Bool.false) }) (oz := { dst := Option.none, op := Op.store 4 (Operand.tmp 202) (Operand.tmp 201), type := 0, pos := "law.go:191", after := #[{ on := 23, ground := Ground.data }, { on := 22, ground := Ground.data }, { on := 8, ground := Ground.chain }, { on := 0, ground := Ground.phase }, { on := 1, ground := Ground.phase }, { on := 2, ground := Ground.phase }, { on := 3, ground := Ground.phase }, { on := 4, ground := Ground.phase }, { on := 5, ground := Ground.phase }, { on := 6, ground := Ground.phase }, { on := 7, ground := Ground.phase }, { on := 8, ground := Ground.phase }, { on := 9, ground := Ground.phase }, { on := 10, ground := Ground.phase }, { on := 11, ground := Ground.phase }, { on := 12, ground := Ground.phase }, { on := 13, ground := Ground.phase }, { on := 14, ground := Ground.phase }, { on := 15, ground := Ground.phase }, { on := 16, ground := Ground.phase }, { on := 17, ground := Ground.phase }, { on := 18, ground := Ground.phase }, { on := 19, ground := Ground.phase }, { on := 20, ground := Ground.phase }, { on := 21, ground := Ground.phase }, { on := 22, ground := Ground.phase }], guard := Option.none }) (v := ?vb19) rfl rfl (by kernel_rfl) (by kernel_rfl) (by kernel_rfl) (by kernel_rfl) (by kernel_rfl) (fun _ _ _ h => h) (YieldsM.of_if (Or.inl ⟨by rfl, ?hb19⟩)) ?rb19
                        case hb19 => ((intro wz hSw; (try dsimp only at hSw); go_simp); try (with_reducible rfl))
                        try simp only [Act.put, List.setIfInBounds_toArray, List.set_cons_zero, List.set_cons_succ]
                        refine wpAnyZ_take (i := 20) (oi := { dst := Option.some 199, op := Op.binOp BinOp.add 39 (Operand.tmp 196) (Operand.tmp 198) 39, type := 39, pos := "law.go:191", after := #[{ on := 17, ground := Ground.data }, { on := 19, ground := Ground.data }, { on := 8, ground := Ground.guard }], guard := Option.some (8, Bool.false) }) (oz := { dst := Option.none, op := Op.store 4 (Operand.tmp 202) (Operand.tmp 201), type := 0, pos := "law.go:191", after := #[{ on := 23, ground := Ground.data }, { on := 22, ground := Ground.data }, { on := 8, ground := Ground.chain }, { on := 0, ground := Ground.phase }, { on := 1, ground := Ground.phase }, { on := 2, ground := Ground.phase }, { on := 3, ground := Ground.phase }, { on := 4, ground := Ground.phase }, { on := 5, ground := Ground.phase }, { on := 6, ground := Ground.phase }, { on := 7, ground := Ground.phase }, { on := 8, ground := Ground.phase }, { on := 9, ground := Ground.phase }, { on := 10, ground := Ground.phase }, { on := 11, ground := Ground.phase }, { on := 12, ground := Ground.phase }, { on := 13, ground := Ground.phase }, { on := 14, ground := Ground.phase }, { on := 15, ground := Ground.phase }, { on := 16, ground := Ground.phase }, { on := 17, ground := Ground.phase }, { on := 18, ground := Ground.phase }, { on := 19, ground := Ground.phase }, { on := 20, ground := Ground.phase }, { on := 21, ground := Ground.phase }, { on := 22, ground := Ground.phase }], guard := Option.none }) (v := ?vb20) rfl rfl (by kernel_rfl) (by kernel_rfl) (by kernel_rfl) (by kernel_rfl) (by kernel_rfl) (fun _ _ _ h => h) (YieldsM.of_if (Or.inl ⟨by rfl, ?hb20⟩)) ?rb20
                        case hb20 => ((intro wz hSw; (try dsimp only at hSw); go_simp); try (with_reducible rfl))
                        try simp only [Act.put, List.setIfInBounds_toArray, List.set_cons_zero, List.set_cons_succ]
                        refine wpAnyZ_take (i := 21) (oi := { dst := Option.some 200, op := Op.binOp BinOp.eql 39 (Operand.tmp 192) (Operand.tmp 199) 39, type := 4, pos := "law.go:191", after := #[{ on := 13, ground := Ground.data }, { on := 20, ground := Ground.data }, { on := 8, ground := Ground.guard }], guard := Option.some (8, Bool.false) }) (oz := { dst := Option.none, op := Op.store 4 (Operand.tmp 202) (Operand.tmp 201), type := 0, pos := "law.go:191", after := #[{ on := 23, ground := Ground.data }, { on := 22, ground := Ground.data }, { on := 8, ground := Ground.chain }, { on := 0, ground := Ground.phase }, { on := 1, ground := Ground.phase }, { on := 2, ground := Ground.phase }, { on := 3, ground := Ground.phase }, { on := 4, ground := Ground.phase }, { on := 5, ground := Ground.phase }, { on := 6, ground := Ground.phase }, { on := 7, ground := Ground.phase }, { on := 8, ground := Ground.phase }, { on := 9, ground := Ground.phase }, { on := 10, ground := Ground.phase }, { on := 11, ground := Ground.phase }, { on := 12, ground := Ground.phase }, { on := 13, ground := Ground.phase }, { on := 14, ground := Ground.phase }, { on := 15, ground := Ground.phase }, { on := 16, ground := Ground.phase }, { on := 17, ground := Ground.phase }, { on := 18, ground := Ground.phase }, { on := 19, ground := Ground.phase }, { on := 20, ground := Ground.phase }, { on := 21, ground := Ground.phase }, { on := 22, ground := Ground.phase }], guard := Option.none }) (v := ?vb21) rfl rfl (by kernel_rfl) (by kernel_rfl) (by kernel_rfl) (by kernel_rfl) (by kernel_rfl) (fun _ _ _ h => h) (YieldsM.of_if (Or.inl ⟨by rfl, ?hb21⟩)) ?rb21
                        case hb21 => ((intro wz hSw; (try dsimp only at hSw); go_simp); try (with_reducible rfl))
                        try simp only [Act.put, List.setIfInBounds_toArray, List.set_cons_zero, List.set_cons_succ]
                        refine wpAnyZ_take (i := 22) (oi := { dst := Option.some 201, op := Op.pick (Operand.tmp 187) (Operand.const (Value.bool Bool.true)) (Operand.tmp 200), type := 4, pos := "law.go:191", after := #[{ on := 8, ground := Ground.data }, { on := 21, ground := Ground.data }], guard := Option.none }) (oz := { dst := Option.none, op := Op.store 4 (Operand.tmp 202) (Operand.tmp 201), type := 0, pos := "law.go:191", after := #[{ on := 23, ground := Ground.data }, { on := 22, ground := Ground.data }, { on := 8, ground := Ground.chain }, { on := 0, ground := Ground.phase }, { on := 1, ground := Ground.phase }, { on := 2, ground := Ground.phase }, { on := 3, ground := Ground.phase }, { on := 4, ground := Ground.phase }, { on := 5, ground := Ground.phase }, { on := 6, ground := Ground.phase }, { on := 7, ground := Ground.phase }, { on := 8, ground := Ground.phase }, { on := 9, ground := Ground.phase }, { on := 10, ground := Ground.phase }, { on := 11, ground := Ground.phase }, { on := 12, ground := Ground.phase }, { on := 13, ground := Ground.phase }, { on := 14, ground := Ground.phase }, { on := 15, ground := Ground.phase }, { on := 16, ground := Ground.phase }, { on := 17, ground := Ground.phase }, { on := 18, ground := Ground.phase }, { on := 19, ground := Ground.phase }, { on := 20, ground := Ground.phase }, { on := 21, ground := Ground.phase }, { on := 22, ground := Ground.phase }], guard := Option.none }) (v := ?vb22) rfl rfl (by kernel_rfl) (by kernel_rfl) (by kernel_rfl) (by kernel_rfl) (by kernel_rfl) (fun _ _ _ h => h) (YieldsM.of_if (Or.inl ⟨by rfl, ?hb22⟩)) ?rb22
                        case hb22 => ((intro wz hSw; (try dsimp only at hSw); go_simp); try (with_reducible rfl))
                        try simp only [Act.put, List.setIfInBounds_toArray, List.set_cons_zero, List.set_cons_succ]
                        refine wpAnyZ_take (i := 23) (oi := { dst := Option.some 202, op := Op.indexAddr 42 (Operand.tmp 179) (Operand.tmp 181), type := 0, pos := "law.go:191", after := #[{ on := 0, ground := Ground.data }, { on := 2, ground := Ground.data }, { on := 0, ground := Ground.phase }, { on := 1, ground := Ground.phase }, { on := 2, ground := Ground.phase }, { on := 3, ground := Ground.phase }, { on := 4, ground := Ground.phase }, { on := 5, ground := Ground.phase }, { on := 6, ground := Ground.phase }, { on := 7, ground := Ground.phase }, { on := 8, ground := Ground.phase }, { on := 9, ground := Ground.phase }, { on := 10, ground := Ground.phase }, { on := 11, ground := Ground.phase }, { on := 12, ground := Ground.phase }, { on := 13, ground := Ground.phase }, { on := 14, ground := Ground.phase }, { on := 15, ground := Ground.phase }, { on := 16, ground := Ground.phase }, { on := 17, ground := Ground.phase }, { on := 18, ground := Ground.phase }, { on := 19, ground := Ground.phase }, { on := 20, ground := Ground.phase }, { on := 21, ground := Ground.phase }, { on := 22, ground := Ground.phase }], guard := Option.none }) (oz := { dst := Option.none, op := Op.store 4 (Operand.tmp 202) (Operand.tmp 201), type := 0, pos := "law.go:191", after := #[{ on := 23, ground := Ground.data }, { on := 22, ground := Ground.data }, { on := 8, ground := Ground.chain }, { on := 0, ground := Ground.phase }, { on := 1, ground := Ground.phase }, { on := 2, ground := Ground.phase }, { on := 3, ground := Ground.phase }, { on := 4, ground := Ground.phase }, { on := 5, ground := Ground.phase }, { on := 6, ground := Ground.phase }, { on := 7, ground := Ground.phase }, { on := 8, ground := Ground.phase }, { on := 9, ground := Ground.phase }, { on := 10, ground := Ground.phase }, { on := 11, ground := Ground.phase }, { on := 12, ground := Ground.phase }, { on := 13, ground := Ground.phase }, { on := 14, ground := Ground.phase }, { on := 15, ground := Ground.phase }, { on := 16, ground := Ground.phase }, { on := 17, ground := Ground.phase }, { on := 18, ground := Ground.phase }, { on := 19, ground := Ground.phase }, { on := 20, ground := Ground.phase }, { on := 21, ground := Ground.phase }, { on := 22, ground := Ground.phase }], guard := Option.none }) (v := ?vb23) rfl rfl (by kernel_rfl) (by kernel_rfl) (by kernel_rfl) (by kernel_rfl) (by kernel_rfl) (fun _ _ _ h => h) (YieldsM.of_if (Or.inl ⟨by rfl, ?hb23⟩)) ?rb23
                        case hb23 => ((intro wz hSw; (try dsimp only at hSw); go_simp); try (with_reducible rfl))
                        try simp only [Act.put, List.setIfInBounds_toArray, List.set_cons_zero, List.set_cons_succ]
                        refine lastZ (o := { dst := Option.none, op := Op.store 4 (Operand.tmp 202) (Operand.tmp 201), type := 0, pos := "law.go:191", after := #[{ on := 23, ground := Ground.data }, { on := 22, ground := Ground.data }, { on := 8, ground := Ground.chain }, { on := 0, ground := Ground.phase }, { on := 1, ground := Ground.phase }, { on := 2, ground := Ground.phase }, { on := 3, ground := Ground.phase }, { on := 4, ground := Ground.phase }, { on := 5, ground := Ground.phase }, { on := 6, ground := Ground.phase }, { on := 7, ground := Ground.phase }, { on := 8, ground := Ground.phase }, { on := 9, ground := Ground.phase }, { on := 10, ground := Ground.phase }, { on := 11, ground := Ground.phase }, { on := 12, ground := Ground.phase }, { on := 13, ground := Ground.phase }, { on := 14, ground := Ground.phase }, { on := 15, ground := Ground.phase }, { on := 16, ground := Ground.phase }, { on := 17, ground := Ground.phase }, { on := 18, ground := Ground.phase }, { on := 19, ground := Ground.phase }, { on := 20, ground := Ground.phase }, { on := 21, ground := Ground.phase }, { on := 22, ground := Ground.phase }], guard := Option.none }) rfl (by kernel_rfl) (by kernel_rfl) ?_
                        intro v7 hg7 hS7 K hK
                        obtain ⟨g1, g2, g3⟩ := HQQ.out v7 (btrH' (Below.refl _ _).drew hg7)
                        have a1 := g2.cell lh hlh
                        have f1 := g2.free lh
                        rw [HRV.out] at a1
                        have HF7 : Hid (RAt boolv (v7.setCell ⟨R, lh, none⟩ (.bool true)) R h.node.length (rchB V (rowL h.upF h.up) s' r (t + 1)) ∧ RAt u64v (v7.setCell ⟨R, lh, none⟩ (.bool true)) D h.node.length (dv V) ∧ Below w6.heap.size w6 (v7.setCell ⟨R, lh, none⟩ (.bool true))) := ⟨(g2.set true hlh).eq (fun j _ => by rw [HST.out j]), g3.far (Ne.symm HRD.out) _, (HQB.out v7 (btrH' (Below.refl _ _).drew hg7)).setCell (p := ⟨R, lh, none⟩) HRW.out _⟩
                        clear g1 g2 g3 hS7 hg7
                        go_simp
                        refine hK.out _ _ ?_
                        clear a1 f1 hK K
                        go_wp2
                        go_roundw
                        case rel => exact ⟨t + 1, by omega, by go_num, HF7.out.1, HF7.out.2.1, HF7.out.2.2⟩
                        case measure => simp [intOf]; omega
                      · have n5 : (k == d + (lw : Int)) = false := by simpa using hkd
                        have HST : Hid (∀ j, rchB V (rowL h.upF h.up) s' r (t + 1) j = upd (rchB V (rowL h.upF h.up) s' r t) lh false j) := fun j => by rw [HSTEP.out j, hrv, n5]; rfl
                        clear hrv HSTEP hkd
                        have HS7 : Hid (∀ wx, Below WQ.heap.size WQ wx → (fun w' => w'.cell? ⟨bx, 0, none⟩ = some (.int .u32 (lh : Int)) ∧ w'.cell? ⟨bx, 1, none⟩ = some (.int .u64 (lw : Int)) ∧ w'.cell? ⟨D, lh, none⟩ = some (.int .u64 k) ∧ w'.cell? ⟨D, r, none⟩ = some (.int .u64 d) ∧ w'.cell? ⟨R, lh, none⟩ = some (.bool false) ∧ Hid (Below WQ.heap.size WQ w')) wx) := fun wx hx => by
                          obtain ⟨g1, g2, g3⟩ := HQQ.out wx hx
                          obtain ⟨⟨b0, b1, _, _⟩, _⟩ := four_cells g1
                          have a1 := g2.cell lh hlh
                          have a2 := g3.cell lh hlh
                          have a3 := g3.cell r h1
                          rw [HRV.out] at a1
                          rw [HDK.out.1] at a2
                          rw [HDK.out.2] at a3
                          exact ⟨b0, b1, a2, a3, a1, hx⟩
                        refine wp_region_Z (z := 24) (S := (fun w' => w'.cell? ⟨bx, 0, none⟩ = some (.int .u32 (lh : Int)) ∧ w'.cell? ⟨bx, 1, none⟩ = some (.int .u64 (lw : Int)) ∧ w'.cell? ⟨D, lh, none⟩ = some (.int .u64 k) ∧ w'.cell? ⟨D, r, none⟩ = some (.int .u64 d) ∧ w'.cell? ⟨R, lh, none⟩ = some (.bool false) ∧ Hid (Below WQ.heap.size WQ w'))) (by kernel_rfl) (HS7.out _ (Below.refl _ _).drew) ?_
                        refine wpAnyZ_take (i := 0) (oi := { dst := Option.some 179, op := Op.move (Operand.tmp 12), type := 42, pos := "law.go:191", after := #[], guard := Option.none }) (oz := { dst := Option.none, op := Op.store 4 (Operand.tmp 202) (Operand.tmp 201), type := 0, pos := "law.go:191", after := #[{ on := 23, ground := Ground.data }, { on := 22, ground := Ground.data }, { on := 8, ground := Ground.chain }, { on := 0, ground := Ground.phase }, { on := 1, ground := Ground.phase }, { on := 2, ground := Ground.phase }, { on := 3, ground := Ground.phase }, { on := 4, ground := Ground.phase }, { on := 5, ground := Ground.phase }, { on := 6, ground := Ground.phase }, { on := 7, ground := Ground.phase }, { on := 8, ground := Ground.phase }, { on := 9, ground := Ground.phase }, { on := 10, ground := Ground.phase }, { on := 11, ground := Ground.phase }, { on := 12, ground := Ground.phase }, { on := 13, ground := Ground.phase }, { on := 14, ground := Ground.phase }, { on := 15, ground := Ground.phase }, { on := 16, ground := Ground.phase }, { on := 17, ground := Ground.phase }, { on := 18, ground := Ground.phase }, { on := 19, ground := Ground.phase }, { on := 20, ground := Ground.phase }, { on := 21, ground := Ground.phase }, { on := 22, ground := Ground.phase }], guard := Option.none }) (v := ?vc0) rfl rfl (by kernel_rfl) (by kernel_rfl) (by kernel_rfl) (by kernel_rfl) (by kernel_rfl) (fun _ _ _ h => h) (YieldsM.of_if (Or.inl ⟨by rfl, ?hc0⟩)) ?rc0
                        case hc0 => ((intro wz hSw; (try dsimp only at hSw); go_simp); try (with_reducible rfl))
                        try simp only [Act.put, List.setIfInBounds_toArray, List.set_cons_zero, List.set_cons_succ]
                        refine wpAnyZ_take (i := 1) (oi := { dst := Option.some 180, op := Op.fieldAddr 45 (Operand.tmp 15) 0, type := 0, pos := "law.go:191", after := #[], guard := Option.none }) (oz := { dst := Option.none, op := Op.store 4 (Operand.tmp 202) (Operand.tmp 201), type := 0, pos := "law.go:191", after := #[{ on := 23, ground := Ground.data }, { on := 22, ground := Ground.data }, { on := 8, ground := Ground.chain }, { on := 0, ground := Ground.phase }, { on := 1, ground := Ground.phase }, { on := 2, ground := Ground.phase }, { on := 3, ground := Ground.phase }, { on := 4, ground := Ground.phase }, { on := 5, ground := Ground.phase }, { on := 6, ground := Ground.phase }, { on := 7, ground := Ground.phase }, { on := 8, ground := Ground.phase }, { on := 9, ground := Ground.phase }, { on := 10, ground := Ground.phase }, { on := 11, ground := Ground.phase }, { on := 12, ground := Ground.phase }, { on := 13, ground := Ground.phase }, { on := 14, ground := Ground.phase }, { on := 15, ground := Ground.phase }, { on := 16, ground := Ground.phase }, { on := 17, ground := Ground.phase }, { on := 18, ground := Ground.phase }, { on := 19, ground := Ground.phase }, { on := 20, ground := Ground.phase }, { on := 21, ground := Ground.phase }, { on := 22, ground := Ground.phase }], guard := Option.none }) (v := ?vc1) rfl rfl (by kernel_rfl) (by kernel_rfl) (by kernel_rfl) (by kernel_rfl) (by kernel_rfl) (fun _ _ _ h => h) (YieldsM.of_if (Or.inl ⟨by rfl, ?hc1⟩)) ?rc1
                        case hc1 => ((intro wz hSw; (try dsimp only at hSw); go_simp); try (with_reducible rfl))
                        try simp only [Act.put, List.setIfInBounds_toArray, List.set_cons_zero, List.set_cons_succ]
                        refine wpAnyZ_take (i := 2) (oi := { dst := Option.some 181, op := Op.load 43 (Operand.tmp 180), type := 43, pos := "law.go:191", after := #[{ on := 1, ground := Ground.data }], guard := Option.none }) (oz := { dst := Option.none, op := Op.store 4 (Operand.tmp 202) (Operand.tmp 201), type := 0, pos := "law.go:191", after := #[{ on := 23, ground := Ground.data }, { on := 22, ground := Ground.data }, { on := 8, ground := Ground.chain }, { on := 0, ground := Ground.phase }, { on := 1, ground := Ground.phase }, { on := 2, ground := Ground.phase }, { on := 3, ground := Ground.phase }, { on := 4, ground := Ground.phase }, { on := 5, ground := Ground.phase }, { on := 6, ground := Ground.phase }, { on := 7, ground := Ground.phase }, { on := 8, ground := Ground.phase }, { on := 9, ground := Ground.phase }, { on := 10, ground := Ground.phase }, { on := 11, ground := Ground.phase }, { on := 12, ground := Ground.phase }, { on := 13, ground := Ground.phase }, { on := 14, ground := Ground.phase }, { on := 15, ground := Ground.phase }, { on := 16, ground := Ground.phase }, { on := 17, ground := Ground.phase }, { on := 18, ground := Ground.phase }, { on := 19, ground := Ground.phase }, { on := 20, ground := Ground.phase }, { on := 21, ground := Ground.phase }, { on := 22, ground := Ground.phase }], guard := Option.none }) (v := ?vc2) rfl rfl (by kernel_rfl) (by kernel_rfl) (by kernel_rfl) (by kernel_rfl) (by kernel_rfl) (fun _ _ _ h => h) (YieldsM.of_if (Or.inl ⟨by rfl, ?hc2⟩)) ?rc2
                        case hc2 => ((intro wz hSw; (try dsimp only at hSw); go_simp); try (with_reducible rfl))
                        try simp only [Act.put, List.setIfInBounds_toArray, List.set_cons_zero, List.set_cons_succ]
                        refine wpAnyZ_take (i := 3) (oi := { dst := Option.some 182, op := Op.move (Operand.tmp 12), type := 42, pos := "law.go:191", after := #[], guard := Option.none }) (oz := { dst := Option.none, op := Op.store 4 (Operand.tmp 202) (Operand.tmp 201), type := 0, pos := "law.go:191", after := #[{ on := 23, ground := Ground.data }, { on := 22, ground := Ground.data }, { on := 8, ground := Ground.chain }, { on := 0, ground := Ground.phase }, { on := 1, ground := Ground.phase }, { on := 2, ground := Ground.phase }, { on := 3, ground := Ground.phase }, { on := 4, ground := Ground.phase }, { on := 5, ground := Ground.phase }, { on := 6, ground := Ground.phase }, { on := 7, ground := Ground.phase }, { on := 8, ground := Ground.phase }, { on := 9, ground := Ground.phase }, { on := 10, ground := Ground.phase }, { on := 11, ground := Ground.phase }, { on := 12, ground := Ground.phase }, { on := 13, ground := Ground.phase }, { on := 14, ground := Ground.phase }, { on := 15, ground := Ground.phase }, { on := 16, ground := Ground.phase }, { on := 17, ground := Ground.phase }, { on := 18, ground := Ground.phase }, { on := 19, ground := Ground.phase }, { on := 20, ground := Ground.phase }, { on := 21, ground := Ground.phase }, { on := 22, ground := Ground.phase }], guard := Option.none }) (v := ?vc3) rfl rfl (by kernel_rfl) (by kernel_rfl) (by kernel_rfl) (by kernel_rfl) (by kernel_rfl) (fun _ _ _ h => h) (YieldsM.of_if (Or.inl ⟨by rfl, ?hc3⟩)) ?rc3
                        case hc3 => ((intro wz hSw; (try dsimp only at hSw); go_simp); try (with_reducible rfl))
                        try simp only [Act.put, List.setIfInBounds_toArray, List.set_cons_zero, List.set_cons_succ]
                        refine wpAnyZ_take (i := 4) (oi := { dst := Option.some 183, op := Op.fieldAddr 45 (Operand.tmp 15) 0, type := 0, pos := "law.go:191", after := #[], guard := Option.none }) (oz := { dst := Option.none, op := Op.store 4 (Operand.tmp 202) (Operand.tmp 201), type := 0, pos := "law.go:191", after := #[{ on := 23, ground := Ground.data }, { on := 22, ground := Ground.data }, { on := 8, ground := Ground.chain }, { on := 0, ground := Ground.phase }, { on := 1, ground := Ground.phase }, { on := 2, ground := Ground.phase }, { on := 3, ground := Ground.phase }, { on := 4, ground := Ground.phase }, { on := 5, ground := Ground.phase }, { on := 6, ground := Ground.phase }, { on := 7, ground := Ground.phase }, { on := 8, ground := Ground.phase }, { on := 9, ground := Ground.phase }, { on := 10, ground := Ground.phase }, { on := 11, ground := Ground.phase }, { on := 12, ground := Ground.phase }, { on := 13, ground := Ground.phase }, { on := 14, ground := Ground.phase }, { on := 15, ground := Ground.phase }, { on := 16, ground := Ground.phase }, { on := 17, ground := Ground.phase }, { on := 18, ground := Ground.phase }, { on := 19, ground := Ground.phase }, { on := 20, ground := Ground.phase }, { on := 21, ground := Ground.phase }, { on := 22, ground := Ground.phase }], guard := Option.none }) (v := ?vc4) rfl rfl (by kernel_rfl) (by kernel_rfl) (by kernel_rfl) (by kernel_rfl) (by kernel_rfl) (fun _ _ _ h => h) (YieldsM.of_if (Or.inl ⟨by rfl, ?hc4⟩)) ?rc4
                        case hc4 => ((intro wz hSw; (try dsimp only at hSw); go_simp); try (with_reducible rfl))
                        try simp only [Act.put, List.setIfInBounds_toArray, List.set_cons_zero, List.set_cons_succ]
                        refine wpAnyZ_take (i := 5) (oi := { dst := Option.some 184, op := Op.load 43 (Operand.tmp 183), type := 43, pos := "law.go:191", after := #[{ on := 4, ground := Ground.data }], guard := Option.none }) (oz := { dst := Option.none, op := Op.store 4 (Operand.tmp 202) (Operand.tmp 201), type := 0, pos := "law.go:191", after := #[{ on := 23, ground := Ground.data }, { on := 22, ground := Ground.data }, { on := 8, ground := Ground.chain }, { on := 0, ground := Ground.phase }, { on := 1, ground := Ground.phase }, { on := 2, ground := Ground.phase }, { on := 3, ground := Ground.phase }, { on := 4, ground := Ground.phase }, { on := 5, ground := Ground.phase }, { on := 6, ground := Ground.phase }, { on := 7, ground := Ground.phase }, { on := 8, ground := Ground.phase }, { on := 9, ground := Ground.phase }, { on := 10, ground := Ground.phase }, { on := 11, ground := Ground.phase }, { on := 12, ground := Ground.phase }, { on := 13, ground := Ground.phase }, { on := 14, ground := Ground.phase }, { on := 15, ground := Ground.phase }, { on := 16, ground := Ground.phase }, { on := 17, ground := Ground.phase }, { on := 18, ground := Ground.phase }, { on := 19, ground := Ground.phase }, { on := 20, ground := Ground.phase }, { on := 21, ground := Ground.phase }, { on := 22, ground := Ground.phase }], guard := Option.none }) (v := ?vc5) rfl rfl (by kernel_rfl) (by kernel_rfl) (by kernel_rfl) (by kernel_rfl) (by kernel_rfl) (fun _ _ _ h => h) (YieldsM.of_if (Or.inl ⟨by rfl, ?hc5⟩)) ?rc5
                        case hc5 => ((intro wz hSw; (try dsimp only at hSw); go_simp); try (with_reducible rfl))
                        try simp only [Act.put, List.setIfInBounds_toArray, List.set_cons_zero, List.set_cons_succ]
                        refine wpAnyZ_take (i := 6) (oi := { dst := Option.some 185, op := Op.indexAddr 42 (Operand.tmp 182) (Operand.tmp 184), type := 0, pos := "law.go:191", after := #[{ on := 3, ground := Ground.data }, { on := 5, ground := Ground.data }], guard := Option.none }) (oz := { dst := Option.none, op := Op.store 4 (Operand.tmp 202) (Operand.tmp 201), type := 0, pos := "law.go:191", after := #[{ on := 23, ground := Ground.data }, { on := 22, ground := Ground.data }, { on := 8, ground := Ground.chain }, { on := 0, ground := Ground.phase }, { on := 1, ground := Ground.phase }, { on := 2, ground := Ground.phase }, { on := 3, ground := Ground.phase }, { on := 4, ground := Ground.phase }, { on := 5, ground := Ground.phase }, { on := 6, ground := Ground.phase }, { on := 7, ground := Ground.phase }, { on := 8, ground := Ground.phase }, { on := 9, ground := Ground.phase }, { on := 10, ground := Ground.phase }, { on := 11, ground := Ground.phase }, { on := 12, ground := Ground.phase }, { on := 13, ground := Ground.phase }, { on := 14, ground := Ground.phase }, { on := 15, ground := Ground.phase }, { on := 16, ground := Ground.phase }, { on := 17, ground := Ground.phase }, { on := 18, ground := Ground.phase }, { on := 19, ground := Ground.phase }, { on := 20, ground := Ground.phase }, { on := 21, ground := Ground.phase }, { on := 22, ground := Ground.phase }], guard := Option.none }) (v := ?vc6) rfl rfl (by kernel_rfl) (by kernel_rfl) (by kernel_rfl) (by kernel_rfl) (by kernel_rfl) (fun _ _ _ h => h) (YieldsM.of_if (Or.inl ⟨by rfl, ?hc6⟩)) ?rc6
                        case hc6 => ((intro wz hSw; (try dsimp only at hSw); go_simp); try (with_reducible rfl))
                        try simp only [Act.put, List.setIfInBounds_toArray, List.set_cons_zero, List.set_cons_succ]
                        refine wpAnyZ_take (i := 7) (oi := { dst := Option.some 186, op := Op.load 4 (Operand.tmp 185), type := 4, pos := "law.go:191", after := #[{ on := 6, ground := Ground.data }], guard := Option.none }) (oz := { dst := Option.none, op := Op.store 4 (Operand.tmp 202) (Operand.tmp 201), type := 0, pos := "law.go:191", after := #[{ on := 23, ground := Ground.data }, { on := 22, ground := Ground.data }, { on := 8, ground := Ground.chain }, { on := 0, ground := Ground.phase }, { on := 1, ground := Ground.phase }, { on := 2, ground := Ground.phase }, { on := 3, ground := Ground.phase }, { on := 4, ground := Ground.phase }, { on := 5, ground := Ground.phase }, { on := 6, ground := Ground.phase }, { on := 7, ground := Ground.phase }, { on := 8, ground := Ground.phase }, { on := 9, ground := Ground.phase }, { on := 10, ground := Ground.phase }, { on := 11, ground := Ground.phase }, { on := 12, ground := Ground.phase }, { on := 13, ground := Ground.phase }, { on := 14, ground := Ground.phase }, { on := 15, ground := Ground.phase }, { on := 16, ground := Ground.phase }, { on := 17, ground := Ground.phase }, { on := 18, ground := Ground.phase }, { on := 19, ground := Ground.phase }, { on := 20, ground := Ground.phase }, { on := 21, ground := Ground.phase }, { on := 22, ground := Ground.phase }], guard := Option.none }) (v := ?vc7) rfl rfl (by kernel_rfl) (by kernel_rfl) (by kernel_rfl) (by kernel_rfl) (by kernel_rfl) (fun _ _ _ h => h) (YieldsM.of_if (Or.inl ⟨by rfl, ?hc7⟩)) ?rc7
                        case hc7 => ((intro wz hSw; (try dsimp only at hSw); go_simp); try (with_reducible rfl))
                        try simp only [Act.put, List.setIfInBounds_toArray, List.set_cons_zero, List.set_cons_succ]
                        refine wpAnyZ_take (i := 8) (oi := { dst := Option.some 187, op := Op.move (Operand.tmp 186), type := 4, pos := "law.go:191", after := #[{ on := 7, ground := Ground.data }], guard := Option.none }) (oz := { dst := Option.none, op := Op.store 4 (Operand.tmp 202) (Operand.tmp 201), type := 0, pos := "law.go:191", after := #[{ on := 23, ground := Ground.data }, { on := 22, ground := Ground.data }, { on := 8, ground := Ground.chain }, { on := 0, ground := Ground.phase }, { on := 1, ground := Ground.phase }, { on := 2, ground := Ground.phase }, { on := 3, ground := Ground.phase }, { on := 4, ground := Ground.phase }, { on := 5, ground := Ground.phase }, { on := 6, ground := Ground.phase }, { on := 7, ground := Ground.phase }, { on := 8, ground := Ground.phase }, { on := 9, ground := Ground.phase }, { on := 10, ground := Ground.phase }, { on := 11, ground := Ground.phase }, { on := 12, ground := Ground.phase }, { on := 13, ground := Ground.phase }, { on := 14, ground := Ground.phase }, { on := 15, ground := Ground.phase }, { on := 16, ground := Ground.phase }, { on := 17, ground := Ground.phase }, { on := 18, ground := Ground.phase }, { on := 19, ground := Ground.phase }, { on := 20, ground := Ground.phase }, { on := 21, ground := Ground.phase }, { on := 22, ground := Ground.phase }], guard := Option.none }) (v := ?vc8) rfl rfl (by kernel_rfl) (by kernel_rfl) (by kernel_rfl) (by kernel_rfl) (by kernel_rfl) (fun _ _ _ h => h) (YieldsM.of_if (Or.inl ⟨by rfl, ?hc8⟩)) ?rc8
                        case hc8 => ((intro wz hSw; (try dsimp only at hSw); go_simp); try (with_reducible rfl))
                        try simp only [Act.put, List.setIfInBounds_toArray, List.set_cons_zero, List.set_cons_succ]
                        refine wpAnyZ_take (i := 9) (oi := { dst := Option.some 188, op := Op.move (Operand.tmp 8), type := 38, pos := "law.go:191", after := #[{ on := 8, ground := Ground.guard }], guard := Option.some (8, Bool.false) }) (oz := { dst := Option.none, op := Op.store 4 (Operand.tmp 202) (Operand.tmp 201), type := 0, pos := "law.go:191", after := #[{ on := 23, ground := Ground.data }, { on := 22, ground := Ground.data }, { on := 8, ground := Ground.chain }, { on := 0, ground := Ground.phase }, { on := 1, ground := Ground.phase }, { on := 2, ground := Ground.phase }, { on := 3, ground := Ground.phase }, { on := 4, ground := Ground.phase }, { on := 5, ground := Ground.phase }, { on := 6, ground := Ground.phase }, { on := 7, ground := Ground.phase }, { on := 8, ground := Ground.phase }, { on := 9, ground := Ground.phase }, { on := 10, ground := Ground.phase }, { on := 11, ground := Ground.phase }, { on := 12, ground := Ground.phase }, { on := 13, ground := Ground.phase }, { on := 14, ground := Ground.phase }, { on := 15, ground := Ground.phase }, { on := 16, ground := Ground.phase }, { on := 17, ground := Ground.phase }, { on := 18, ground := Ground.phase }, { on := 19, ground := Ground.phase }, { on := 20, ground := Ground.phase }, { on := 21, ground := Ground.phase }, { on := 22, ground := Ground.phase }], guard := Option.none }) (v := ?vc9) rfl rfl (by kernel_rfl) (by kernel_rfl) (by kernel_rfl) (by kernel_rfl) (by kernel_rfl) (fun _ _ _ h => h) (YieldsM.of_if (Or.inl ⟨by rfl, ?hc9⟩)) ?rc9
                        case hc9 => ((intro wz hSw; (try dsimp only at hSw); go_simp); try (with_reducible rfl))
                        try simp only [Act.put, List.setIfInBounds_toArray, List.set_cons_zero, List.set_cons_succ]
                        refine wpAnyZ_take (i := 10) (oi := { dst := Option.some 189, op := Op.fieldAddr 45 (Operand.tmp 15) 0, type := 0, pos := "law.go:191", after := #[{ on := 8, ground := Ground.guard }], guard := Option.some (8, Bool.false) }) (oz := { dst := Option.none, op := Op.store 4 (Operand.tmp 202) (Operand.tmp 201), type := 0, pos := "law.go:191", after := #[{ on := 23, ground := Ground.data }, { on := 22, ground := Ground.data }, { on := 8, ground := Ground.chain }, { on := 0, ground := Ground.phase }, { on := 1, ground := Ground.phase }, { on := 2, ground := Ground.phase }, { on := 3, ground := Ground.phase }, { on := 4, ground := Ground.phase }, { on := 5, ground := Ground.phase }, { on := 6, ground := Ground.phase }, { on := 7, ground := Ground.phase }, { on := 8, ground := Ground.phase }, { on := 9, ground := Ground.phase }, { on := 10, ground := Ground.phase }, { on := 11, ground := Ground.phase }, { on := 12, ground := Ground.phase }, { on := 13, ground := Ground.phase }, { on := 14, ground := Ground.phase }, { on := 15, ground := Ground.phase }, { on := 16, ground := Ground.phase }, { on := 17, ground := Ground.phase }, { on := 18, ground := Ground.phase }, { on := 19, ground := Ground.phase }, { on := 20, ground := Ground.phase }, { on := 21, ground := Ground.phase }, { on := 22, ground := Ground.phase }], guard := Option.none }) (v := ?vc10) rfl rfl (by kernel_rfl) (by kernel_rfl) (by kernel_rfl) (by kernel_rfl) (by kernel_rfl) (fun _ _ _ h => h) (YieldsM.of_if (Or.inl ⟨by rfl, ?hc10⟩)) ?rc10
                        case hc10 => ((intro wz hSw; (try dsimp only at hSw); go_simp); try (with_reducible rfl))
                        try simp only [Act.put, List.setIfInBounds_toArray, List.set_cons_zero, List.set_cons_succ]
                        refine wpAnyZ_take (i := 11) (oi := { dst := Option.some 190, op := Op.load 43 (Operand.tmp 189), type := 43, pos := "law.go:191", after := #[{ on := 10, ground := Ground.data }, { on := 8, ground := Ground.guard }], guard := Option.some (8, Bool.false) }) (oz := { dst := Option.none, op := Op.store 4 (Operand.tmp 202) (Operand.tmp 201), type := 0, pos := "law.go:191", after := #[{ on := 23, ground := Ground.data }, { on := 22, ground := Ground.data }, { on := 8, ground := Ground.chain }, { on := 0, ground := Ground.phase }, { on := 1, ground := Ground.phase }, { on := 2, ground := Ground.phase }, { on := 3, ground := Ground.phase }, { on := 4, ground := Ground.phase }, { on := 5, ground := Ground.phase }, { on := 6, ground := Ground.phase }, { on := 7, ground := Ground.phase }, { on := 8, ground := Ground.phase }, { on := 9, ground := Ground.phase }, { on := 10, ground := Ground.phase }, { on := 11, ground := Ground.phase }, { on := 12, ground := Ground.phase }, { on := 13, ground := Ground.phase }, { on := 14, ground := Ground.phase }, { on := 15, ground := Ground.phase }, { on := 16, ground := Ground.phase }, { on := 17, ground := Ground.phase }, { on := 18, ground := Ground.phase }, { on := 19, ground := Ground.phase }, { on := 20, ground := Ground.phase }, { on := 21, ground := Ground.phase }, { on := 22, ground := Ground.phase }], guard := Option.none }) (v := ?vc11) rfl rfl (by kernel_rfl) (by kernel_rfl) (by kernel_rfl) (by kernel_rfl) (by kernel_rfl) (fun _ _ _ h => h) (YieldsM.of_if (Or.inl ⟨by rfl, ?hc11⟩)) ?rc11
                        case hc11 => ((intro wz hSw; (try dsimp only at hSw); go_simp); try (with_reducible rfl))
                        try simp only [Act.put, List.setIfInBounds_toArray, List.set_cons_zero, List.set_cons_succ]
                        refine wpAnyZ_take (i := 12) (oi := { dst := Option.some 191, op := Op.indexAddr 38 (Operand.tmp 188) (Operand.tmp 190), type := 0, pos := "law.go:191", after := #[{ on := 9, ground := Ground.data }, { on := 11, ground := Ground.data }, { on := 8, ground := Ground.guard }], guard := Option.some (8, Bool.false) }) (oz := { dst := Option.none, op := Op.store 4 (Operand.tmp 202) (Operand.tmp 201), type := 0, pos := "law.go:191", after := #[{ on := 23, ground := Ground.data }, { on := 22, ground := Ground.data }, { on := 8, ground := Ground.chain }, { on := 0, ground := Ground.phase }, { on := 1, ground := Ground.phase }, { on := 2, ground := Ground.phase }, { on := 3, ground := Ground.phase }, { on := 4, ground := Ground.phase }, { on := 5, ground := Ground.phase }, { on := 6, ground := Ground.phase }, { on := 7, ground := Ground.phase }, { on := 8, ground := Ground.phase }, { on := 9, ground := Ground.phase }, { on := 10, ground := Ground.phase }, { on := 11, ground := Ground.phase }, { on := 12, ground := Ground.phase }, { on := 13, ground := Ground.phase }, { on := 14, ground := Ground.phase }, { on := 15, ground := Ground.phase }, { on := 16, ground := Ground.phase }, { on := 17, ground := Ground.phase }, { on := 18, ground := Ground.phase }, { on := 19, ground := Ground.phase }, { on := 20, ground := Ground.phase }, { on := 21, ground := Ground.phase }, { on := 22, ground := Ground.phase }], guard := Option.none }) (v := ?vc12) rfl rfl (by kernel_rfl) (by kernel_rfl) (by kernel_rfl) (by kernel_rfl) (by kernel_rfl) (fun _ _ _ h => h) (YieldsM.of_if (Or.inl ⟨by rfl, ?hc12⟩)) ?rc12
                        case hc12 => ((intro wz hSw; (try dsimp only at hSw); go_simp); try (with_reducible rfl))
                        try simp only [Act.put, List.setIfInBounds_toArray, List.set_cons_zero, List.set_cons_succ]
                        refine wpAnyZ_take (i := 13) (oi := { dst := Option.some 192, op := Op.load 39 (Operand.tmp 191), type := 39, pos := "law.go:191", after := #[{ on := 12, ground := Ground.data }, { on := 8, ground := Ground.guard }], guard := Option.some (8, Bool.false) }) (oz := { dst := Option.none, op := Op.store 4 (Operand.tmp 202) (Operand.tmp 201), type := 0, pos := "law.go:191", after := #[{ on := 23, ground := Ground.data }, { on := 22, ground := Ground.data }, { on := 8, ground := Ground.chain }, { on := 0, ground := Ground.phase }, { on := 1, ground := Ground.phase }, { on := 2, ground := Ground.phase }, { on := 3, ground := Ground.phase }, { on := 4, ground := Ground.phase }, { on := 5, ground := Ground.phase }, { on := 6, ground := Ground.phase }, { on := 7, ground := Ground.phase }, { on := 8, ground := Ground.phase }, { on := 9, ground := Ground.phase }, { on := 10, ground := Ground.phase }, { on := 11, ground := Ground.phase }, { on := 12, ground := Ground.phase }, { on := 13, ground := Ground.phase }, { on := 14, ground := Ground.phase }, { on := 15, ground := Ground.phase }, { on := 16, ground := Ground.phase }, { on := 17, ground := Ground.phase }, { on := 18, ground := Ground.phase }, { on := 19, ground := Ground.phase }, { on := 20, ground := Ground.phase }, { on := 21, ground := Ground.phase }, { on := 22, ground := Ground.phase }], guard := Option.none }) (v := ?vc13) rfl rfl (by kernel_rfl) (by kernel_rfl) (by kernel_rfl) (by kernel_rfl) (by kernel_rfl) (fun _ _ _ h => h) (YieldsM.of_if (Or.inl ⟨by rfl, ?hc13⟩)) ?rc13
                        case hc13 => ((intro wz hSw; (try dsimp only at hSw); go_simp); try (with_reducible rfl))
                        try simp only [Act.put, List.setIfInBounds_toArray, List.set_cons_zero, List.set_cons_succ]
                        refine wpAnyZ_take (i := 14) (oi := { dst := Option.some 193, op := Op.move (Operand.tmp 8), type := 38, pos := "law.go:191", after := #[{ on := 8, ground := Ground.guard }], guard := Option.some (8, Bool.false) }) (oz := { dst := Option.none, op := Op.store 4 (Operand.tmp 202) (Operand.tmp 201), type := 0, pos := "law.go:191", after := #[{ on := 23, ground := Ground.data }, { on := 22, ground := Ground.data }, { on := 8, ground := Ground.chain }, { on := 0, ground := Ground.phase }, { on := 1, ground := Ground.phase }, { on := 2, ground := Ground.phase }, { on := 3, ground := Ground.phase }, { on := 4, ground := Ground.phase }, { on := 5, ground := Ground.phase }, { on := 6, ground := Ground.phase }, { on := 7, ground := Ground.phase }, { on := 8, ground := Ground.phase }, { on := 9, ground := Ground.phase }, { on := 10, ground := Ground.phase }, { on := 11, ground := Ground.phase }, { on := 12, ground := Ground.phase }, { on := 13, ground := Ground.phase }, { on := 14, ground := Ground.phase }, { on := 15, ground := Ground.phase }, { on := 16, ground := Ground.phase }, { on := 17, ground := Ground.phase }, { on := 18, ground := Ground.phase }, { on := 19, ground := Ground.phase }, { on := 20, ground := Ground.phase }, { on := 21, ground := Ground.phase }, { on := 22, ground := Ground.phase }], guard := Option.none }) (v := ?vc14) rfl rfl (by kernel_rfl) (by kernel_rfl) (by kernel_rfl) (by kernel_rfl) (by kernel_rfl) (fun _ _ _ h => h) (YieldsM.of_if (Or.inl ⟨by rfl, ?hc14⟩)) ?rc14
                        case hc14 => ((intro wz hSw; (try dsimp only at hSw); go_simp); try (with_reducible rfl))
                        try simp only [Act.put, List.setIfInBounds_toArray, List.set_cons_zero, List.set_cons_succ]
                        refine wpAnyZ_take (i := 15) (oi := { dst := Option.some 194, op := Op.move (Operand.tmp 13), type := 3, pos := "law.go:191", after := #[{ on := 8, ground := Ground.guard }], guard := Option.some (8, Bool.false) }) (oz := { dst := Option.none, op := Op.store 4 (Operand.tmp 202) (Operand.tmp 201), type := 0, pos := "law.go:191", after := #[{ on := 23, ground := Ground.data }, { on := 22, ground := Ground.data }, { on := 8, ground := Ground.chain }, { on := 0, ground := Ground.phase }, { on := 1, ground := Ground.phase }, { on := 2, ground := Ground.phase }, { on := 3, ground := Ground.phase }, { on := 4, ground := Ground.phase }, { on := 5, ground := Ground.phase }, { on := 6, ground := Ground.phase }, { on := 7, ground := Ground.phase }, { on := 8, ground := Ground.phase }, { on := 9, ground := Ground.phase }, { on := 10, ground := Ground.phase }, { on := 11, ground := Ground.phase }, { on := 12, ground := Ground.phase }, { on := 13, ground := Ground.phase }, { on := 14, ground := Ground.phase }, { on := 15, ground := Ground.phase }, { on := 16, ground := Ground.phase }, { on := 17, ground := Ground.phase }, { on := 18, ground := Ground.phase }, { on := 19, ground := Ground.phase }, { on := 20, ground := Ground.phase }, { on := 21, ground := Ground.phase }, { on := 22, ground := Ground.phase }], guard := Option.none }) (v := ?vc15) rfl rfl (by kernel_rfl) (by kernel_rfl) (by kernel_rfl) (by kernel_rfl) (by kernel_rfl) (fun _ _ _ h => h) (YieldsM.of_if (Or.inl ⟨by rfl, ?hc15⟩)) ?rc15
                        case hc15 => ((intro wz hSw; (try dsimp only at hSw); go_simp); try (with_reducible rfl))
                        try simp only [Act.put, List.setIfInBounds_toArray, List.set_cons_zero, List.set_cons_succ]
                        refine wpAnyZ_take (i := 16) (oi := { dst := Option.some 195, op := Op.indexAddr 38 (Operand.tmp 193) (Operand.tmp 194), type := 0, pos := "law.go:191", after := #[{ on := 14, ground := Ground.data }, { on := 15, ground := Ground.data }, { on := 8, ground := Ground.guard }], guard := Option.some (8, Bool.false) }) (oz := { dst := Option.none, op := Op.store 4 (Operand.tmp 202) (Operand.tmp 201), type := 0, pos := "law.go:191", after := #[{ on := 23, ground := Ground.data }, { on := 22, ground := Ground.data }, { on := 8, ground := Ground.chain }, { on := 0, ground := Ground.phase }, { on := 1, ground := Ground.phase }, { on := 2, ground := Ground.phase }, { on := 3, ground := Ground.phase }, { on := 4, ground := Ground.phase }, { on := 5, ground := Ground.phase }, { on := 6, ground := Ground.phase }, { on := 7, ground := Ground.phase }, { on := 8, ground := Ground.phase }, { on := 9, ground := Ground.phase }, { on := 10, ground := Ground.phase }, { on := 11, ground := Ground.phase }, { on := 12, ground := Ground.phase }, { on := 13, ground := Ground.phase }, { on := 14, ground := Ground.phase }, { on := 15, ground := Ground.phase }, { on := 16, ground := Ground.phase }, { on := 17, ground := Ground.phase }, { on := 18, ground := Ground.phase }, { on := 19, ground := Ground.phase }, { on := 20, ground := Ground.phase }, { on := 21, ground := Ground.phase }, { on := 22, ground := Ground.phase }], guard := Option.none }) (v := ?vc16) rfl rfl (by kernel_rfl) (by kernel_rfl) (by kernel_rfl) (by kernel_rfl) (by kernel_rfl) (fun _ _ _ h => h) (YieldsM.of_if (Or.inl ⟨by rfl, ?hc16⟩)) ?rc16
                        case hc16 => ((intro wz hSw; (try dsimp only at hSw); go_simp); try (with_reducible rfl))
                        try simp only [Act.put, List.setIfInBounds_toArray, List.set_cons_zero, List.set_cons_succ]
                        refine wpAnyZ_take (i := 17) (oi := { dst := Option.some 196, op := Op.load 39 (Operand.tmp 195), type := 39, pos := "law.go:191", after := #[{ on := 16, ground := Ground.data }, { on := 8, ground := Ground.guard }], guard := Option.some (8, Bool.false) }) (oz := { dst := Option.none, op := Op.store 4 (Operand.tmp 202) (Operand.tmp 201), type := 0, pos := "law.go:191", after := #[{ on := 23, ground := Ground.data }, { on := 22, ground := Ground.data }, { on := 8, ground := Ground.chain }, { on := 0, ground := Ground.phase }, { on := 1, ground := Ground.phase }, { on := 2, ground := Ground.phase }, { on := 3, ground := Ground.phase }, { on := 4, ground := Ground.phase }, { on := 5, ground := Ground.phase }, { on := 6, ground := Ground.phase }, { on := 7, ground := Ground.phase }, { on := 8, ground := Ground.phase }, { on := 9, ground := Ground.phase }, { on := 10, ground := Ground.phase }, { on := 11, ground := Ground.phase }, { on := 12, ground := Ground.phase }, { on := 13, ground := Ground.phase }, { on := 14, ground := Ground.phase }, { on := 15, ground := Ground.phase }, { on := 16, ground := Ground.phase }, { on := 17, ground := Ground.phase }, { on := 18, ground := Ground.phase }, { on := 19, ground := Ground.phase }, { on := 20, ground := Ground.phase }, { on := 21, ground := Ground.phase }, { on := 22, ground := Ground.phase }], guard := Option.none }) (v := ?vc17) rfl rfl (by kernel_rfl) (by kernel_rfl) (by kernel_rfl) (by kernel_rfl) (by kernel_rfl) (fun _ _ _ h => h) (YieldsM.of_if (Or.inl ⟨by rfl, ?hc17⟩)) ?rc17
                        case hc17 => ((intro wz hSw; (try dsimp only at hSw); go_simp); try (with_reducible rfl))
                        try simp only [Act.put, List.setIfInBounds_toArray, List.set_cons_zero, List.set_cons_succ]
                        refine wpAnyZ_take (i := 18) (oi := { dst := Option.some 197, op := Op.fieldAddr 45 (Operand.tmp 15) 1, type := 0, pos := "law.go:191", after := #[{ on := 8, ground := Ground.guard }], guard := Option.some (8, Bool.false) }) (oz := { dst := Option.none, op := Op.store 4 (Operand.tmp 202) (Operand.tmp 201), type := 0, pos := "law.go:191", after := #[{ on := 23, ground := Ground.data }, { on := 22, ground := Ground.data }, { on := 8, ground := Ground.chain }, { on := 0, ground := Ground.phase }, { on := 1, ground := Ground.phase }, { on := 2, ground := Ground.phase }, { on := 3, ground := Ground.phase }, { on := 4, ground := Ground.phase }, { on := 5, ground := Ground.phase }, { on := 6, ground := Ground.phase }, { on := 7, ground := Ground.phase }, { on := 8, ground := Ground.phase }, { on := 9, ground := Ground.phase }, { on := 10, ground := Ground.phase }, { on := 11, ground := Ground.phase }, { on := 12, ground := Ground.phase }, { on := 13, ground := Ground.phase }, { on := 14, ground := Ground.phase }, { on := 15, ground := Ground.phase }, { on := 16, ground := Ground.phase }, { on := 17, ground := Ground.phase }, { on := 18, ground := Ground.phase }, { on := 19, ground := Ground.phase }, { on := 20, ground := Ground.phase }, { on := 21, ground := Ground.phase }, { on := 22, ground := Ground.phase }], guard := Option.none }) (v := ?vc18) rfl rfl (by kernel_rfl) (by kernel_rfl) (by kernel_rfl) (by kernel_rfl) (by kernel_rfl) (fun _ _ _ h => h) (YieldsM.of_if (Or.inl ⟨by rfl, ?hc18⟩)) ?rc18
                        case hc18 => ((intro wz hSw; (try dsimp only at hSw); go_simp); try (with_reducible rfl))
                        try simp only [Act.put, List.setIfInBounds_toArray, List.set_cons_zero, List.set_cons_succ]
                        refine wpAnyZ_take (i := 19) (oi := { dst := Option.some 198, op := Op.load 39 (Operand.tmp 197), type := 39, pos := "law.go:191", after := #[{ on := 18, ground := Ground.data }, { on := 8, ground := Ground.guard }], guard := Option.some (8, Bool.false) }) (oz := { dst := Option.none, op := Op.store 4 (Operand.tmp 202) (Operand.tmp 201), type := 0, pos := "law.go:191", after := #[{ on := 23, ground := Ground.data }, { on := 22, ground := Ground.data }, { on := 8, ground := Ground.chain }, { on := 0, ground := Ground.phase }, { on := 1, ground := Ground.phase }, { on := 2, ground := Ground.phase }, { on := 3, ground := Ground.phase }, { on := 4, ground := Ground.phase }, { on := 5, ground := Ground.phase }, { on := 6, ground := Ground.phase }, { on := 7, ground := Ground.phase }, { on := 8, ground := Ground.phase }, { on := 9, ground := Ground.phase }, { on := 10, ground := Ground.phase }, { on := 11, ground := Ground.phase }, { on := 12, ground := Ground.phase }, { on := 13, ground := Ground.phase }, { on := 14, ground := Ground.phase }, { on := 15, ground := Ground.phase }, { on := 16, ground := Ground.phase }, { on := 17, ground := Ground.phase }, { on := 18, ground := Ground.phase }, { on := 19, ground := Ground.phase }, { on := 20, ground := Ground.phase }, { on := 21, ground := Ground.phase }, { on := 22, ground := Ground.phase }], guard := Option.none }) (v := ?vc19) rfl rfl (by kernel_rfl) (by kernel_rfl) (by kernel_rfl) (by kernel_rfl) (by kernel_rfl) (fun _ _ _ h => h) (YieldsM.of_if (Or.inl ⟨by rfl, ?hc19⟩)) ?rc19
                        case hc19 => ((intro wz hSw; (try dsimp only at hSw); go_simp); try (with_reducible rfl))
                        try simp only [Act.put, List.setIfInBounds_toArray, List.set_cons_zero, List.set_cons_succ]
                        refine wpAnyZ_take (i := 20) (oi := { dst := Option.some 199, op := Op.binOp BinOp.add 39 (Operand.tmp 196) (Operand.tmp 198) 39, type := 39, pos := "law.go:191", after := #[{ on := 17, ground := Ground.data }, { on := 19, ground := Ground.data }, { on := 8, ground := Ground.guard }], guard := Option.some (8, Bool.false) }) (oz := { dst := Option.none, op := Op.store 4 (Operand.tmp 202) (Operand.tmp 201), type := 0, pos := "law.go:191", after := #[{ on := 23, ground := Ground.data }, { on := 22, ground := Ground.data }, { on := 8, ground := Ground.chain }, { on := 0, ground := Ground.phase }, { on := 1, ground := Ground.phase }, { on := 2, ground := Ground.phase }, { on := 3, ground := Ground.phase }, { on := 4, ground := Ground.phase }, { on := 5, ground := Ground.phase }, { on := 6, ground := Ground.phase }, { on := 7, ground := Ground.phase }, { on := 8, ground := Ground.phase }, { on := 9, ground := Ground.phase }, { on := 10, ground := Ground.phase }, { on := 11, ground := Ground.phase }, { on := 12, ground := Ground.phase }, { on := 13, ground := Ground.phase }, { on := 14, ground := Ground.phase }, { on := 15, ground := Ground.phase }, { on := 16, ground := Ground.phase }, { on := 17, ground := Ground.phase }, { on := 18, ground := Ground.phase }, { on := 19, ground := Ground.phase }, { on := 20, ground := Ground.phase }, { on := 21, ground := Ground.phase }, { on := 22, ground := Ground.phase }], guard := Option.none }) (v := ?vc20) rfl rfl (by kernel_rfl) (by kernel_rfl) (by kernel_rfl) (by kernel_rfl) (by kernel_rfl) (fun _ _ _ h => h) (YieldsM.of_if (Or.inl ⟨by rfl, ?hc20⟩)) ?rc20
                        case hc20 => ((intro wz hSw; (try dsimp only at hSw); go_simp); try (with_reducible rfl))
                        try simp only [Act.put, List.setIfInBounds_toArray, List.set_cons_zero, List.set_cons_succ]
                        refine wpAnyZ_take (i := 21) (oi := { dst := Option.some 200, op := Op.binOp BinOp.eql 39 (Operand.tmp 192) (Operand.tmp 199) 39, type := 4, pos := "law.go:191", after := #[{ on := 13, ground := Ground.data }, { on := 20, ground := Ground.data }, { on := 8, ground := Ground.guard }], guard := Option.some (8, Bool.false) }) (oz := { dst := Option.none, op := Op.store 4 (Operand.tmp 202) (Operand.tmp 201), type := 0, pos := "law.go:191", after := #[{ on := 23, ground := Ground.data }, { on := 22, ground := Ground.data }, { on := 8, ground := Ground.chain }, { on := 0, ground := Ground.phase }, { on := 1, ground := Ground.phase }, { on := 2, ground := Ground.phase }, { on := 3, ground := Ground.phase }, { on := 4, ground := Ground.phase }, { on := 5, ground := Ground.phase }, { on := 6, ground := Ground.phase }, { on := 7, ground := Ground.phase }, { on := 8, ground := Ground.phase }, { on := 9, ground := Ground.phase }, { on := 10, ground := Ground.phase }, { on := 11, ground := Ground.phase }, { on := 12, ground := Ground.phase }, { on := 13, ground := Ground.phase }, { on := 14, ground := Ground.phase }, { on := 15, ground := Ground.phase }, { on := 16, ground := Ground.phase }, { on := 17, ground := Ground.phase }, { on := 18, ground := Ground.phase }, { on := 19, ground := Ground.phase }, { on := 20, ground := Ground.phase }, { on := 21, ground := Ground.phase }, { on := 22, ground := Ground.phase }], guard := Option.none }) (v := ?vc21) rfl rfl (by kernel_rfl) (by kernel_rfl) (by kernel_rfl) (by kernel_rfl) (by kernel_rfl) (fun _ _ _ h => h) (YieldsM.of_if (Or.inl ⟨by rfl, ?hc21⟩)) ?rc21
                        case hc21 => ((intro wz hSw; (try dsimp only at hSw); go_simp); try (with_reducible rfl))
                        try simp only [Act.put, List.setIfInBounds_toArray, List.set_cons_zero, List.set_cons_succ]
                        refine wpAnyZ_take (i := 22) (oi := { dst := Option.some 201, op := Op.pick (Operand.tmp 187) (Operand.const (Value.bool Bool.true)) (Operand.tmp 200), type := 4, pos := "law.go:191", after := #[{ on := 8, ground := Ground.data }, { on := 21, ground := Ground.data }], guard := Option.none }) (oz := { dst := Option.none, op := Op.store 4 (Operand.tmp 202) (Operand.tmp 201), type := 0, pos := "law.go:191", after := #[{ on := 23, ground := Ground.data }, { on := 22, ground := Ground.data }, { on := 8, ground := Ground.chain }, { on := 0, ground := Ground.phase }, { on := 1, ground := Ground.phase }, { on := 2, ground := Ground.phase }, { on := 3, ground := Ground.phase }, { on := 4, ground := Ground.phase }, { on := 5, ground := Ground.phase }, { on := 6, ground := Ground.phase }, { on := 7, ground := Ground.phase }, { on := 8, ground := Ground.phase }, { on := 9, ground := Ground.phase }, { on := 10, ground := Ground.phase }, { on := 11, ground := Ground.phase }, { on := 12, ground := Ground.phase }, { on := 13, ground := Ground.phase }, { on := 14, ground := Ground.phase }, { on := 15, ground := Ground.phase }, { on := 16, ground := Ground.phase }, { on := 17, ground := Ground.phase }, { on := 18, ground := Ground.phase }, { on := 19, ground := Ground.phase }, { on := 20, ground := Ground.phase }, { on := 21, ground := Ground.phase }, { on := 22, ground := Ground.phase }], guard := Option.none }) (v := ?vc22) rfl rfl (by kernel_rfl) (by kernel_rfl) (by kernel_rfl) (by kernel_rfl) (by kernel_rfl) (fun _ _ _ h => h) (YieldsM.of_if (Or.inl ⟨by rfl, ?hc22⟩)) ?rc22
                        case hc22 => ((intro wz hSw; (try dsimp only at hSw); go_simp); try (with_reducible rfl))
                        try simp only [Act.put, List.setIfInBounds_toArray, List.set_cons_zero, List.set_cons_succ]
                        refine wpAnyZ_take (i := 23) (oi := { dst := Option.some 202, op := Op.indexAddr 42 (Operand.tmp 179) (Operand.tmp 181), type := 0, pos := "law.go:191", after := #[{ on := 0, ground := Ground.data }, { on := 2, ground := Ground.data }, { on := 0, ground := Ground.phase }, { on := 1, ground := Ground.phase }, { on := 2, ground := Ground.phase }, { on := 3, ground := Ground.phase }, { on := 4, ground := Ground.phase }, { on := 5, ground := Ground.phase }, { on := 6, ground := Ground.phase }, { on := 7, ground := Ground.phase }, { on := 8, ground := Ground.phase }, { on := 9, ground := Ground.phase }, { on := 10, ground := Ground.phase }, { on := 11, ground := Ground.phase }, { on := 12, ground := Ground.phase }, { on := 13, ground := Ground.phase }, { on := 14, ground := Ground.phase }, { on := 15, ground := Ground.phase }, { on := 16, ground := Ground.phase }, { on := 17, ground := Ground.phase }, { on := 18, ground := Ground.phase }, { on := 19, ground := Ground.phase }, { on := 20, ground := Ground.phase }, { on := 21, ground := Ground.phase }, { on := 22, ground := Ground.phase }], guard := Option.none }) (oz := { dst := Option.none, op := Op.store 4 (Operand.tmp 202) (Operand.tmp 201), type := 0, pos := "law.go:191", after := #[{ on := 23, ground := Ground.data }, { on := 22, ground := Ground.data }, { on := 8, ground := Ground.chain }, { on := 0, ground := Ground.phase }, { on := 1, ground := Ground.phase }, { on := 2, ground := Ground.phase }, { on := 3, ground := Ground.phase }, { on := 4, ground := Ground.phase }, { on := 5, ground := Ground.phase }, { on := 6, ground := Ground.phase }, { on := 7, ground := Ground.phase }, { on := 8, ground := Ground.phase }, { on := 9, ground := Ground.phase }, { on := 10, ground := Ground.phase }, { on := 11, ground := Ground.phase }, { on := 12, ground := Ground.phase }, { on := 13, ground := Ground.phase }, { on := 14, ground := Ground.phase }, { on := 15, ground := Ground.phase }, { on := 16, ground := Ground.phase }, { on := 17, ground := Ground.phase }, { on := 18, ground := Ground.phase }, { on := 19, ground := Ground.phase }, { on := 20, ground := Ground.phase }, { on := 21, ground := Ground.phase }, { on := 22, ground := Ground.phase }], guard := Option.none }) (v := ?vc23) rfl rfl (by kernel_rfl) (by kernel_rfl) (by kernel_rfl) (by kernel_rfl) (by kernel_rfl) (fun _ _ _ h => h) (YieldsM.of_if (Or.inl ⟨by rfl, ?hc23⟩)) ?rc23
                        case hc23 => ((intro wz hSw; (try dsimp only at hSw); go_simp); try (with_reducible rfl))
                        try simp only [Act.put, List.setIfInBounds_toArray, List.set_cons_zero, List.set_cons_succ]
                        refine lastZ (o := { dst := Option.none, op := Op.store 4 (Operand.tmp 202) (Operand.tmp 201), type := 0, pos := "law.go:191", after := #[{ on := 23, ground := Ground.data }, { on := 22, ground := Ground.data }, { on := 8, ground := Ground.chain }, { on := 0, ground := Ground.phase }, { on := 1, ground := Ground.phase }, { on := 2, ground := Ground.phase }, { on := 3, ground := Ground.phase }, { on := 4, ground := Ground.phase }, { on := 5, ground := Ground.phase }, { on := 6, ground := Ground.phase }, { on := 7, ground := Ground.phase }, { on := 8, ground := Ground.phase }, { on := 9, ground := Ground.phase }, { on := 10, ground := Ground.phase }, { on := 11, ground := Ground.phase }, { on := 12, ground := Ground.phase }, { on := 13, ground := Ground.phase }, { on := 14, ground := Ground.phase }, { on := 15, ground := Ground.phase }, { on := 16, ground := Ground.phase }, { on := 17, ground := Ground.phase }, { on := 18, ground := Ground.phase }, { on := 19, ground := Ground.phase }, { on := 20, ground := Ground.phase }, { on := 21, ground := Ground.phase }, { on := 22, ground := Ground.phase }], guard := Option.none }) rfl (by kernel_rfl) (by kernel_rfl) ?_
                        intro v7 hg7 hS7 K hK
                        obtain ⟨g1, g2, g3⟩ := HQQ.out v7 (btrH' (Below.refl _ _).drew hg7)
                        have a1 := g2.cell lh hlh
                        have f1 := g2.free lh
                        rw [HRV.out] at a1
                        have HF7 : Hid (RAt boolv (v7.setCell ⟨R, lh, none⟩ (.bool false)) R h.node.length (rchB V (rowL h.upF h.up) s' r (t + 1)) ∧ RAt u64v (v7.setCell ⟨R, lh, none⟩ (.bool false)) D h.node.length (dv V) ∧ Below w6.heap.size w6 (v7.setCell ⟨R, lh, none⟩ (.bool false))) := ⟨(g2.set false hlh).eq (fun j _ => by rw [HST.out j]), g3.far (Ne.symm HRD.out) _, (HQB.out v7 (btrH' (Below.refl _ _).drew hg7)).setCell (p := ⟨R, lh, none⟩) HRW.out _⟩
                        clear g1 g2 g3 hS7 hg7
                        go_simp
                        refine hK.out _ _ ?_
                        clear a1 f1 hK K
                        go_wp2
                        go_roundw
                        case rel => exact ⟨t + 1, by omega, by go_num, HF7.out.1, HF7.out.2.1, HF7.out.2.2⟩
                        case measure => simp [intOf]; omega
                  · have hvn : ∀ d, V[r]? ≠ some (some d) := fun d hd => hv ⟨d, hd⟩
                    have cdr := (H1.out W1 (Below.refl _ _)).2.2.1.cell r h1
                    rw [dv_none hvn] at cdr
                    have cdr' : W1.cell? ⟨D, r, none⟩ = some (.int .u64 18446744073709551615) := cdr
                    have HN7 : Hid (RAt boolv W1 R h.node.length (rchB V (rowL h.upF h.up) s' r (t + 1)) ∧ RAt u64v W1 D h.node.length (dv V) ∧ Below w6.heap.size w6 W1) := by
                      obtain ⟨_, g2, g3, g4⟩ := H1.out W1 (Below.refl _ _)
                      exact ⟨g2.eq (fun j _ => (rch_skip hvn j).symm), g3, g4⟩
                    clear cdr hv hvn
                    go_wp2
                    go_roundw
                    case rel => exact ⟨t + 1, by omega, by go_num, HN7.out.1, HN7.out.2.1, HN7.out.2.2⟩
                    case measure => simp [intOf]; omega
                · have HR5 : Hid (RAt boolv wr R h.node.length (rchB V (rowL h.upF h.up) s' (r + 1) 0)) := HR4.out.eq (fun j _ => by rw [h2, ← HTL.out]; exact rch_next V (rowL h.upF h.up) s' r j)
                  have q6 : decide ((t : Int) < (T : Int)) = false := by simp; omega
                  have q6n : decide (t < T) = false := by simp; omega
                  clear h2 ht HR4
                  go_wp2
                  go_roundw
                  case rel => exact ⟨r + 1, by omega, by go_num, HR5.out, HD6.out, HB4.out⟩
                  case measure => simp [intOf]; omega
            · have q6 : decide ((r : Int) < (h.node.length : Int)) = false := by simp; omega
              have q6n : decide (r < h.node.length) = false := by simp; omega
              have HR6 : Hid (∀ j, j < h.node.length → rchB V (rowL h.upF h.up) s' r 0 j = !(dv V j == far)) := fun j _ => by rw [h1]; exact rch_end HWAY.out.1 HWAY.out.2.1 HWAY.out.2.2 (fun y hy l hl => (HROW.out y hy l hl).2.2)
              clear h1 hr
              generalize hWW5 : wr = WE at *
              clear hWW5
              go_wp2_with fail
              go_loopw [207] (fun iv wr => ∃ j : Nat, j ≤ h.node.length ∧ iv = .int .i64 j ∧ Hid (RAt boolv wr R h.node.length (rchB V (rowL h.upF h.up) s' r 0)) ∧ Hid (RAt u64v wr D h.node.length (dv V)) ∧ Hid (Below w6.heap.size w6 wr)) (fun iv _ => h.node.length - (intOf iv).toNat)
              case atStart => exact ⟨0, Nat.zero_le _, rfl, HR3.out, HD5.out, HB5.out⟩
              case round =>
                obtain ⟨j, hj, rfl, HR7, HD7, HB7⟩ := hrel
                rcases Nat.lt_or_eq_of_le hj with h2 | h2
                · have a1 := HR7.out.cell j h2
                  rw [HR6.out j h2] at a1
                  have a2 := HD7.out.cell j h2
                  have i2 : (0 : Int) ≤ (j : Int) := by omega
                  have i3 : (j : Int) < (h.node.length : Int) := by omega
                  have q7 : decide ((j : Int) < (h.node.length : Int)) = true := by simp; omega
                  have q7n : decide (j < h.node.length) = true := by simp; omega
                  have HNX : Hid (∀ nq, RAt boolv (wr.drewN nq) R h.node.length (rchB V (rowL h.upF h.up) s' r 0) ∧ RAt u64v (wr.drewN nq) D h.node.length (dv V) ∧ Below w6.heap.size w6 (wr.drewN nq)) := fun nq => ⟨HR7.out.keep (bdrew (Below.refl _ _) nq), HD7.out.keep (bdrew (Below.refl _ _) nq), bdrew HB7.out nq⟩
                  obtain ⟨dd, hdd⟩ : ∃ x, dv V j = x := ⟨_, rfl⟩
                  rw [hdd] at a1 a2
                  clear hdd
                  by_cases hf : dd = far
                  · subst hf
                    have a1' : wr.cell? ⟨R, j, none⟩ = some (.bool false) := a1
                    have a2' : wr.cell? ⟨D, j, none⟩ = some (.int .u64 18446744073709551615) := a2
                    clear a1 a2
                    go_wp2_with fail
                    go_quiet (fail)
                    go_wp2
                    go_roundw
                    case rel => exact ⟨j + 1, by omega, by go_num, (HNX.out nq).1, (HNX.out nq).2.1, (HNX.out nq).2.2⟩
                    case measure => simp [intOf]; omega
                  · have e1 : (dd == far) = false := by simpa using hf
                    rw [e1] at a1
                    have a1' : wr.cell? ⟨R, j, none⟩ = some (.bool true) := a1
                    have a2' : wr.cell? ⟨D, j, none⟩ = some (.int .u64 dd) := a2
                    have e2 : (dd == 18446744073709551615) = false := e1
                    have e3 : (dd != 18446744073709551615) = true := by unfold bne; rw [e2]; rfl
                    clear a1 a2 e1 hf
                    go_wp2_with fail
                    go_quiet (fail)
                    go_wp2
                    go_roundw
                    case rel => exact ⟨j + 1, by omega, by go_num, (HNX.out nq).1, (HNX.out nq).2.1, (HNX.out nq).2.2⟩
                    case measure => simp [intOf]; omega
                · have q7 : decide ((j : Int) < (h.node.length : Int)) = false := by simp; omega
                  have q7n : decide (j < h.node.length) = false := by simp; omega
                  clear h2
                  go_wp2
                  go_ret
                  exact ⟨rfl, (H6.out wr HB7.out).1.2.2⟩

theorem steps_calls (v : HV) (h : Hr) (s : Int) (w : World) (hty : HasType w) (hH : HasH w v h) (hb1 : h.up.length ≤ 1152921504606846976) (hb2 : h.dn.length ≤ 1152921504606846976) (hb3 : h.node.length ≤ 1152921504606846976) :
    Calls Tryd.prog 3 #[hvl v h, .int .i64 s] w fun e w' => e = .returned (.bool true) ∧ Below w.heap.size w w' :=
  steps_aux v.no v.uo v.ul v.wo v.dl v.nc v.uc v.ulc v.wc v.dlc h s w hty hH hb1 hb2 hb3
end Go.Proofs.YtocgbgjpafdhmaaDoor.Cb
