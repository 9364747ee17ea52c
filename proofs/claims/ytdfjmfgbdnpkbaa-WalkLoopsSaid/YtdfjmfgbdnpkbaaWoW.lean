/- the law WalkLoops. -/
import Derived.Test.YtdfjmfgbdnpkbaaWoF
import Derived.Deep.RegionHeld3
import Derived.BigQuiet
namespace Go.Proofs.Ytdfjmfgbdnpkbaa
open Go.RowKit Go.Extern

attribute [local go_sem] Oper.semAt_some

/-- were neighbours alike so far? -/
def nearB (xs S : List Int) (k : Nat) : Nat → Bool
  | 0 => k == 0
  | t + 1 => nearB xs S k t || (xs[t]? == S[k - 1]? && xs[t + 1]? == S[k]?)
theorem nearB_zero (xs S : List Int) : ∀ t, nearB xs S 0 t = true
  | 0 => rfl
  | t + 1 => by rw [nearB, nearB_zero xs S t]; rfl
theorem nearB_up {xs S : List Int} {k t : Nat} (h : nearB xs S k t = true) : ∀ u, t ≤ u → nearB xs S k u = true := by
  intro u hu
  induction u with
  | zero => rw [show t = 0 by omega] at h; exact h
  | succ u ih =>
    rcases Nat.lt_or_ge u t with h1 | h1
    · rw [show u + 1 = t by omega]; exact h
    · rw [nearB, ih h1]; rfl
theorem nearB_all {zs : List (Int × Int × Int)} {xs S : List Int} {m : Nat} (h : SimpI zs xs m S) {k q : Nat} (hk : k < S.length) (hq : xs.length = q + 1) : nearB xs S k q = true := by
  rcases k with _ | k
  · exact nearB_zero xs S q
  · obtain ⟨j, h1, h2⟩ := h.near k S[k] S[k + 1] (List.getElem?_eq_getElem (by omega)) (List.getElem?_eq_getElem hk)
    have hl := (List.getElem?_eq_some_iff.1 h2).1
    refine nearB_up (t := j + 1) ?_ q (by omega)
    rw [nearB, Nat.add_sub_cancel, h1, h2, List.getElem?_eq_getElem (show k < S.length by omega), List.getElem?_eq_getElem hk]
    simp

set_option maxRecDepth 100000 in
set_option maxHeartbeats 8000000 in
theorem loops9_near (fo uo wo : Option Addr) (fc tc wc : Nat) (F T W : List Int) (C : Int × List (Int × Int)) (hC : ChkIs F T W C) (mF : F.length * 8 ≤ 140737488351232) (mT : T.length * 8 ≤ 140737488351232) (mW : W.length * 8 ≤ 140737488351232) (w : World) (hA : Arr w F T W fo uo wo fc tc wc) (lb lof lc q : Nat) (xs : List Int) (hx : HasInts w (.slice (some ⟨lb, lof, none⟩) (q + 1) lc) xs) (hq : xs.length = q + 1) (hq2 : q < 200) (hwx : ∀ x ∈ xs, (Lit.int .i64 x).wf = true) :
    Calls Try.prog 3 #[.agg #[.slice fo F.length fc, .slice uo T.length tc, .slice wo W.length wc], .slice (some ⟨lb, lof, none⟩) (q + 1) lc] w fun e w' => e = .returned (.bool true) ∧ Below w.heap.size w w' := by
  obtain ⟨W0, hW0⟩ : ∃ W0, w.alloc (.cells #[.slice fo F.length fc, .slice uo T.length tc, .slice wo W.length wc] 24) = W0 := ⟨_, rfl⟩
  have HW0 : Hid (w.alloc (.cells #[.slice fo F.length fc, .slice uo T.length tc, .slice wo W.length wc] 24) = W0) := hW0
  have hB0 : Below w.heap.size w W0 := by rw [← hW0]; exact (Below.refl _ w).alloc (Nat.le_refl _) _
  have hbx : W0.heap[w.heap.size]? = some (.cells #[.slice fo F.length fc, .slice uo T.length tc, .slice wo W.length wc] 24) := by rw [← hW0]; exact heap_new _ _
  have hmF : F.length ≤ maxLen := by unfold maxLen; omega
  have h0 : xs ≠ [] := List.length_pos_iff.1 (by omega)
  obtain ⟨S, hS⟩ : ∃ S, S = simpS xs := ⟨_, rfl⟩
  obtain ⟨p, hp⟩ : ∃ p, S.length = p + 1 := ⟨S.length - 1, by have := (simp_all [] h0).pos; rw [hS]; omega⟩
  have hpq : p ≤ q := by have := simpS_len xs; rw [← hS] at this; omega
  obtain ⟨a0, ha0⟩ : ∃ a, xs[0]? = some a := ⟨xs[0], List.getElem?_eq_getElem (by omega)⟩
  obtain ⟨z0, hz0⟩ : ∃ a, xs[q]? = some a := ⟨xs[q], List.getElem?_eq_getElem (by omega)⟩
  have hsa : S[0]? = some a0 := by rw [hS, (simp_all [] h0).head]; exact ha0
  have hsz : S[p]? = some z0 := by
    have h := (simp_all [] h0).last
    rw [← hS, hp, hq, Nat.add_sub_cancel, Nat.add_sub_cancel, hz0] at h
    exact h
  obtain ⟨L, E, hL⟩ := wlen_total hC xs
  have HK : Hid (∀ wx, Below W0.heap.size W0 wx → (wx.cell? ⟨w.heap.size, 0, none⟩ = some (.slice fo F.length fc) ∧ wx.cell? ⟨w.heap.size, 1, none⟩ = some (.slice uo T.length tc) ∧ wx.cell? ⟨w.heap.size, 2, none⟩ = some (.slice wo W.length wc)) ∧ w.heap.size < wx.heap.size ∧ Below w.heap.size w wx) := fun wx hwx => by
    have hg := (hwx.block _ (lt_of_get hbx)).trans hbx
    exact ⟨box3 hg, lt_of_get hg, hB0.trans (hwx.mono hB0.size)⟩
  have HX : Hid (∀ wx, Below W0.heap.size W0 wx → HasInts wx (.slice (some ⟨lb, lof, none⟩) (q + 1) lc) xs ∧ Arr wx F T W fo uo wo fc tc wc) := fun wx hwx => ⟨hx.keep (HK.out wx hwx).2.2, hA.keep (HK.out wx hwx).2.2⟩
  have HCX : Hid (∀ wx, Below W0.heap.size W0 wx → ∀ (j : Nat) (x : Int), xs[j]? = some x → wx.cell? ⟨lb, lof + j, none⟩ = some (.int .i64 x) ∧ lb < wx.heap.size) := fun wx hwx j x hj => by
    obtain ⟨b, off, e, hbl, c⟩ := (HX.out wx hwx).1.at hj
    cases e
    exact ⟨c, hbl⟩
  have HFW : Hid (∀ wx, Below W0.heap.size W0 wx → Calls Try.prog 6 #[.agg #[.slice fo F.length fc, .slice uo T.length tc, .slice wo W.length wc], .slice (some ⟨lb, lof, none⟩) (q + 1) lc] wx fun e w' => SomeB e ∧ Below wx.heap.size wx w') := fun wx hwx => few9_calls fo uo wo fc tc wc F T W C hC hmF wx (HX.out wx hwx).2 _ lc (q + 1) (by unfold maxLen; omega)
  have HTX : Hid (∀ wx, Below W0.heap.size W0 wx → Calls Try.prog 8 #[.slice (some ⟨lb, lof, none⟩) (q + 1) lc] wx fun e w' => ∃ mo mc, e = .returned (.slice mo (q + 1) mc) ∧ Tw w' mo mc xs ∧ Below wx.heap.size wx w') := fun wx hwx => by
    rw [← hq]
    refine (twinInts_calls _ lc xs wx (by rw [hq]; exact (HX.out wx hwx).1) (by omega)).mono ?_
    rintro e w' ⟨mo, mc, he, ho, hb'⟩
    exact ⟨mo, mc, he, tw_of ho, hb'⟩
  have HSX : Hid (∀ wx mo mc, Tw wx mo mc xs → Calls Try.prog 7 #[.slice mo (q + 1) mc] wx fun e w' => ∃ sb sc, e = .returned (.slice (some ⟨sb, 0, none⟩) (p + 1) sc) ∧ Tw w' (some ⟨sb, 0, none⟩) sc S ∧ Below wx.heap.size wx w') := fun wx mo mc h => by
    rw [← hq]
    refine (simple_calls mo mc xs wx h.1 hwx (by omega)).mono ?_
    rintro e w' ⟨so, sc, he, ho, hb⟩
    rw [← hS] at he ho
    have ht := tw_of ho
    rcases ht.2.2 with rfl | ⟨g, rfl⟩
    · obtain ⟨b, off, e, _, _⟩ := ht.1.at hsa
      cases e
    · rw [hp] at he
      exact ⟨g, sc, he, ht, hb⟩
  have HTS : Hid (∀ wx so sc, Tw wx so sc S → Calls Try.prog 8 #[.slice so (p + 1) sc] wx fun e w' => ∃ mo mc, e = .returned (.slice mo (p + 1) mc) ∧ Tw w' mo mc S ∧ Below wx.heap.size wx w') := fun wx so sc h => by
    rw [← hp]
    refine (twinInts_calls _ sc S wx h.1 (by omega)).mono ?_
    rintro e w' ⟨mo, mc, he, ho, hb'⟩
    exact ⟨mo, mc, he, tw_of ho, hb'⟩
  have HSS : Hid (∀ wx mo mc, Tw wx mo mc S → Calls Try.prog 7 #[.slice mo (p + 1) mc] wx fun e w' => ∃ sb sc, e = .returned (.slice sb (p + 1) sc) ∧ Tw w' sb sc S ∧ Below wx.heap.size wx w') := fun wx mo mc h => by
    rw [← hp]
    refine (simple_calls mo mc S wx h.1 (fun x hx => hwx x (simpS_mem (by rw [← hS]; exact hx))) (by omega)).mono ?_
    rintro e w' ⟨so, sc, he, ho, hb⟩
    rw [hS, simp_simp, ← hS] at he ho
    exact ⟨so, sc, he, tw_of ho, hb⟩
  have HSM : Hid (∀ wx mo mc no nc, Tw wx mo mc S → Tw wx no nc S → Calls Try.prog 9 #[.slice mo (p + 1) mc, .slice no (p + 1) nc] wx fun e w' => e = .returned (.bool true) ∧ Below wx.heap.size wx w') := fun wx mo mc no nc h k => by
    rw [← hp]
    exact sameInts_yes _ _ S wx h.1 k.1 (by unfold maxLen; omega)
  have HOF : Hid (∀ wx, Below W0.heap.size W0 wx → Calls Try.prog 11 #[.agg #[.slice fo F.length fc, .slice uo T.length tc, .slice wo W.length wc]] wx fun e w' => ∃ fo2 fc2 uo2 tc2 wo2 wc2, e = .returned (.agg #[.slice fo2 F.length fc2, .slice uo2 T.length tc2, .slice wo2 W.length wc2]) ∧ (Arr w' F T W fo2 uo2 wo2 fc2 tc2 wc2 ∧ T.length ≤ tc2) ∧ Below wx.heap.size wx w') := fun wx hwx => by
    have hA2 := (HX.out wx hwx).2
    refine (of9_calls fo uo wo fc tc wc F T W wx hA2.f hA2.t hA2.w mF mT mW).mono ?_
    rintro e w' ⟨fo2, fc2, uo2, tc2, wo2, wc2, he, ho, hb⟩
    exact ⟨fo2, fc2, uo2, tc2, wo2, wc2, he, ⟨Own3.arr ho, (tw_of ho.2.1).2.1⟩, hb⟩
  have HLX : Hid (∀ wx fo2 fc2 uo2 tc2 wo2 wc2 mo mc, (Arr wx F T W fo2 uo2 wo2 fc2 tc2 wc2 ∧ T.length ≤ tc2) → Tw wx mo mc xs → Calls Try.prog 10 #[.agg #[.slice fo2 F.length fc2, .slice uo2 T.length tc2, .slice wo2 W.length wc2], .slice mo (q + 1) mc] wx fun e w' => ∃ v, e = .returned (.tuple #[.int .u64 L, v]) ∧ IsTold w' E v ∧ Below wx.heap.size wx w') := fun wx fo2 fc2 uo2 tc2 wo2 wc2 mo mc h k => by
    rw [← hq]
    exact length_any fo2 uo2 wo2 fc2 tc2 wc2 F T W C hC hmF wx h.1 h.2 mo mc xs k.1 k.2.1 (by omega) L E hL
  have HLE : Hid ((E.1 ≠ 0 ∧ L = 0) ∨ (E = (0, []) ∧ ∃ M, M ≤ L ∧ ∀ wx fo2 fc2 uo2 tc2 wo2 wc2 mo mc, (Arr wx F T W fo2 uo2 wo2 fc2 tc2 wc2 ∧ T.length ≤ tc2) → Tw wx mo mc S → Calls Try.prog 10 #[.agg #[.slice fo2 F.length fc2, .slice uo2 T.length tc2, .slice wo2 W.length wc2], .slice mo (p + 1) mc] wx fun e w' => e = .returned (.tuple #[.int .u64 M, .nilIface]) ∧ Below wx.heap.size wx w')) := by
    rcases hL with ⟨h1, rfl, rfl⟩ | ⟨hC0, n, m, zs, g1, hz, g3, g4, g5, g6, ⟨e, _⟩ | ⟨k, v, _, _, _, rfl, rfl⟩ | ⟨hn, k, v, u, ws, hv, hu, hno, hw, rfl, rfl⟩ | ⟨hn, _, ws, hw, rfl, rfl⟩⟩
    · exact Or.inl ⟨h1, rfl⟩
    · exact absurd e h0
    · exact Or.inl ⟨by simp, rfl⟩
    · exact Or.inl ⟨by simp, rfl⟩
    · obtain ⟨k1, k2, ws', k3, k4⟩ := simp_len hz hn h0 hw
      rw [← hS] at k1 k2 k3
      refine Or.inr ⟨rfl, ws'.sum, k4, fun wx fo2 fc2 uo2 tc2 wo2 wc2 mo mc h k => ?_⟩
      rw [← hp]
      refine (length_any fo2 uo2 wo2 fc2 tc2 wc2 F T W C hC hmF wx h.1 h.2 mo mc S k.1 k.2.1 (by omega) ws'.sum (0, []) (Or.inr ⟨hC0, n, m, zs, g1, hz, g3, g4, g5, g6, Or.inr (Or.inr (Or.inr ⟨k1, k2, ws', k3, rfl, rfl⟩))⟩)).mono ?_
      rintro e w' ⟨v, he, ht, hb⟩
      rcases ht with ⟨_, rfl⟩ | ⟨h, _⟩
      · exact ⟨he, hb⟩
      · exact absurd rfl h
  have HND : Hid (S.Nodup) := by show S.Nodup; rw [hS]; exact simpS_nodup xs
  have HNR : Hid (∀ k, k < p + 1 → nearB xs S k q = true) := fun k hk => nearB_all (by rw [hS]; exact simp_all [] h0) (by omega) hq
  have HSL : Hid (S.length = p + 1 ∧ xs.length = q + 1 ∧ xs[0]? = some a0 ∧ xs[q]? = some z0 ∧ S[0]? = some a0 ∧ S[p]? = some z0) := ⟨hp, hq, ha0, hz0, hsa, hsz⟩
  clear hW0 hB0 hbx hA hx hwx hC hmF h0 hS hp hq ha0 hz0 hsa hsz hL mF mT mW
  have e1 : ¬ (200 : Int) < (q : Int) + 1 := by omega
  have e2 : ((q : Int) + 1 == 0) = false := by rw [beq_eq_false_iff_ne]; omega
  have e3 : ((p : Int) + 1 == 0) = false := by rw [beq_eq_false_iff_ne]; omega
  have e4 : decide (q < p) = false := decide_eq_false (by omega)
  have e5 : IntKind.i64.wrap ((q : Int) + 1 - 1) = (q : Int) := by rw [IntKind.wrap_i64] <;> omega
  have e6 : IntKind.i64.wrap ((p : Int) + 1 - 1) = (p : Int) := by rw [IntKind.wrap_i64] <;> omega
  have e5b : IntKind.i64.wrap (q : Int) = (q : Int) := by rw [IntKind.wrap_i64] <;> omega
  have e6b : IntKind.i64.wrap (p : Int) = (p : Int) := by rw [IntKind.wrap_i64] <;> omega
  have e7 : (q : Int) < (q : Int) + 1 := by omega
  have e8 : (p : Int) < (p : Int) + 1 := by omega
  have e9 : (0 : Int) ≤ (q : Int) := by omega
  have e10 : (0 : Int) ≤ (p : Int) := by omega
  have e11 : (0 : Int) < (q : Int) + 1 := by omega
  have e12 : (0 : Int) < (p : Int) + 1 := by omega
  go_enter Try.func3, Try.ntmps3
  go_wp2_with fail
  rw [HW0.out]
  refine (awake9_calls W0).mono ?_
  rintro e w1 ⟨rfl, hb⟩
  have HB1 : Hid (Below W0.heap.size W0 w1) := hb
  clear hb
  obtain ⟨⟨c0, c1, c2⟩, cs, _⟩ := HK.out w1 HB1.out
  go_wp2_with fail
  refine (HFW.out w1 HB1.out).mono ?_
  rintro e w2 ⟨⟨bb, rfl⟩, hb⟩
  have HB2 : Hid (Below W0.heap.size W0 w2) := btr HB1.out hb
  clear hb HB1 c0 c1 c2 cs
  cases bb
  · have HBZ : Hid (Below w.heap.size w w2) := (HK.out w2 HB2.out).2.2
    go_wp2
    go_ret
    exact ⟨rfl, HBZ.out⟩
  go_wp2_with fail
  refine (HTX.out w2 HB2.out).mono ?_
  rintro e w3 ⟨mo, mc, rfl, ht, hb⟩
  have H3 : Hid (Below W0.heap.size W0 w3 ∧ Tw w3 mo mc xs) := ⟨btr HB2.out hb, ht⟩
  clear hb ht HB2
  go_wp2_with fail
  refine (HSX.out w3 _ _ H3.out.2).mono ?_
  rintro e w4 ⟨sb, sc, rfl, ht, hb⟩
  have H4 : Hid (Below W0.heap.size W0 w4 ∧ Tw w4 (some ⟨sb, 0, none⟩) sc S) := ⟨btr H3.out.1 hb, ht⟩
  clear hb ht H3
  have HCS : Hid (∀ wx, Below w4.heap.size w4 wx → ∀ (j : Nat) (x : Int), S[j]? = some x → wx.cell? ⟨sb, j, none⟩ = some (.int .i64 x) ∧ sb < wx.heap.size) := fun wx hwx j x hj => by
    obtain ⟨b, off, e, hbl, c⟩ := (H4.out.2.1.keep hwx).at (ao := some ⟨sb, 0, none⟩) (n := S.length) (cap := sc) hj
    cases e
    rw [Nat.zero_add] at c
    exact ⟨c, hbl⟩
  have HC4 : Hid (∀ wx, Below w4.heap.size w4 wx → (wx.cell? ⟨sb, 0, none⟩ = some (.int .i64 a0) ∧ wx.cell? ⟨lb, lof, none⟩ = some (.int .i64 a0)) ∧ (wx.cell? ⟨sb, p, none⟩ = some (.int .i64 z0) ∧ wx.cell? ⟨lb, lof + q, none⟩ = some (.int .i64 z0)) ∧ sb < wx.heap.size ∧ lb < wx.heap.size) := fun wx hwx => by
    have hw := btr H4.out.1 hwx
    exact ⟨⟨(HCS.out wx hwx 0 a0 HSL.out.2.2.2.2.1).1, (HCX.out wx hw 0 a0 HSL.out.2.2.1).1⟩, ⟨(HCS.out wx hwx p z0 HSL.out.2.2.2.2.2).1, (HCX.out wx hw q z0 HSL.out.2.2.2.1).1⟩, (HCS.out wx hwx p z0 HSL.out.2.2.2.2.2).2, (HCX.out wx hw q z0 HSL.out.2.2.2.1).2⟩
  obtain ⟨⟨k0, k1⟩, ⟨k2, k3⟩, k4, k5⟩ := HC4.out w4 (Below.refl _ _)
  go_wp2_with fail
  go_region_held3 (fun w' => (w'.cell? ⟨sb, 0, none⟩ = some (.int .i64 a0) ∧ w'.cell? ⟨lb, lof, none⟩ = some (.int .i64 a0)) ∧ (w'.cell? ⟨sb, p, none⟩ = some (.int .i64 z0) ∧ w'.cell? ⟨lb, lof + q, none⟩ = some (.int .i64 z0))) (go_keep) (first
    | (go_at_call 9; refine (HSM.out _ _ _ _ _ H6.out.2.1 H6.out.2.2).mono ?_; rintro e w7 ⟨rfl, hb⟩; have H7 : Hid (Below w4.heap.size w4 w7) := btr H6.out.1 hb; clear hb; obtain ⟨⟨d0, d1⟩, ⟨d2, d3⟩, d4, d5⟩ := HC4.out w7 H7.out)
    | (go_at_call 7; refine (HSS.out _ _ _ H5.out.2.1).mono ?_; rintro e w6 ⟨so6, sc6, rfl, ht, hb⟩; have H6 : Hid (Below w4.heap.size w4 w6 ∧ Tw w6 so6 sc6 S ∧ Tw w6 (some ⟨sb, 0, none⟩) sc S) := ⟨btr H5.out.1 hb, ht, H5.out.2.2.keep hb⟩; clear ht hb; obtain ⟨⟨d0, d1⟩, ⟨d2, d3⟩, d4, d5⟩ := HC4.out w6 H6.out.1)
    | (go_at_call 8; refine (HTS.out _ _ _ (H4.out.2.keep (Below.refl _ _).drew)).mono ?_; rintro e w5 ⟨so5, sc5, rfl, ht, hb⟩; have H5 : Hid (Below w4.heap.size w4 w5 ∧ Tw w5 so5 sc5 S ∧ Tw w5 (some ⟨sb, 0, none⟩) sc S) := ⟨btr (Below.refl _ _).drew hb, ht, (H4.out.2.keep (Below.refl _ _).drew).keep hb⟩; clear ht hb; obtain ⟨⟨d0, d1⟩, ⟨d2, d3⟩, d4, d5⟩ := HC4.out w5 H5.out.1))
  have HSC : Hid (p + 1 ≤ sc) := by show p + 1 ≤ sc; rw [← HSL.out.1]; exact H4.out.2.2.1
  go_wp2_with fail
  clear k0 k1 k2 k3 k4 k5 d0 d1 d2 d3 d4 d5
  go_loopw [79] (fun iv wr => ∃ k : Nat, k ≤ p + 1 ∧ iv = .int .i64 k ∧ Below w4.heap.size w4 wr) (fun iv _ => p + 1 - (intOf iv).toNat)
  case atStart => exact ⟨0, by omega, rfl, H7.out⟩
  case round =>
    obtain ⟨k, hk, rfl, hb⟩ := hrel
    have HBR : Hid (Below w4.heap.size w4 wr) := hb
    clear hb
    by_cases hlt : k < p + 1
    · obtain ⟨x, hx⟩ : ∃ x, S[k]? = some x := ⟨S[k]'(by rw [HSL.out.1]; exact hlt), List.getElem?_eq_getElem (by rw [HSL.out.1]; exact hlt)⟩
      have HXK : Hid (S[k]? = some x) := hx
      have i1 : (k : Int) < (p : Int) + 1 := by omega
      have i2 : (0 : Int) ≤ (k : Int) := by omega
      have hsl : ∀ wx, (Instr.slice 22 (.slice (some ⟨sb, 0, none⟩) (p + 1) sc) none (some (.int .i64 (k : Int))) none).run Try.prog wx = .ok (.slice (some ⟨sb, 0, none⟩) k sc) wx := fun wx => isl_to sb (p + 1) sc k HSC.out (by omega) wx
      generalize hWr : wr = W1 at *
      clear hWr hx
      obtain ⟨b0, hb0⟩ : ∃ b0, nearB xs S k 0 = b0 := ⟨_, rfl⟩
      have hb1 : ((k : Int) == 0) = b0 := by rw [← hb0, nearB, Bool.eq_iff_iff, beq_iff_eq, beq_iff_eq]; omega
      have HB0' : Hid (nearB xs S k 0 = b0) := hb0
      clear hb0
      go_wp2_with fail
      go_loopw [86] (fun iv wx => ∃ i : Nat, i ≤ k ∧ iv = .int .i64 i ∧ wx = W1) (fun iv _ => k - (intOf iv).toNat)
      case atStart => exact ⟨0, by omega, rfl, rfl⟩
      case round =>
        obtain ⟨i, hi, rfl, rfl⟩ := hrel
        have c2 := (HCS.out wr HBR.out k x HXK.out).1
        have c3 := (HCS.out wr HBR.out k x HXK.out).2
        by_cases hil : i < k
        · obtain ⟨y, hy⟩ : ∃ y, S[i]? = some y := ⟨S[i]'(by rw [HSL.out.1]; omega), List.getElem?_eq_getElem (by rw [HSL.out.1]; omega)⟩
          have hne : (y == x) = false := by rw [beq_eq_false_iff_ne]; exact nodup_at HND.out hy HXK.out hil
          have c1 := (HCS.out wr HBR.out i y hy).1
          have j1 : (i : Int) < (k : Int) := by omega
          have j2 : (0 : Int) ≤ (i : Int) := by omega
          clear hy
          go_wp2
          go_roundw
          case rel => exact ⟨i + 1, by omega, by go_num, trivial⟩
          case measure => simp [intOf]; omega
        · obtain rfl : k = i := by omega
          clear c2 c3
          go_wp2_with fail
          generalize hWr : wr = W2 at *
          clear hWr
          go_loopw [9, 10] (fun nv jv wx => ∃ j t : Nat, j = t + 1 ∧ t ≤ q ∧ jv = .int .i64 j ∧ nv = .bool (nearB xs S k t) ∧ Below w4.heap.size w4 wx) (fun _ jv _ => q + 1 - (intOf jv).toNat)
          case atStart => exact ⟨1, 0, rfl, by omega, rfl, by rw [HB0'.out], HBR.out⟩
          case round =>
            obtain ⟨j, t, hj, ht, rfl, rfl, hb⟩ := hrel
            have HBS : Hid (Below w4.heap.size w4 wr) := hb
            have HJ : Hid (j = t + 1) := hj
            have hj3 : j < 300 := by omega
            by_cases htq : t < q
            · have j1 : (j : Int) < (q : Int) + 1 := by omega
              have j2 : (0 : Int) ≤ (j : Int) := by omega
              have j3 : IntKind.i64.wrap ((j : Int) - 1) = (t : Int) := by rw [IntKind.wrap_i64] <;> omega
              have j4 : (t : Int) < (q : Int) + 1 := by omega
              have j5 : (0 : Int) ≤ (t : Int) := by omega
              obtain ⟨u, hu⟩ : ∃ u, xs[t]? = some u := ⟨xs[t]'(by rw [HSL.out.2.1]; omega), List.getElem?_eq_getElem (by rw [HSL.out.2.1]; omega)⟩
              obtain ⟨v, hv⟩ : ∃ v, xs[t + 1]? = some v := ⟨xs[t + 1]'(by rw [HSL.out.2.1]; omega), List.getElem?_eq_getElem (by rw [HSL.out.2.1]; omega)⟩
              have hw4 := btr H4.out.1 HBS.out
              have c1 := (HCX.out wr hw4 t u hu).1
              have c2 : wr.cell? ⟨lb, lof + j, none⟩ = some (.int .i64 v) := by rw [hj]; exact (HCX.out wr hw4 (t + 1) v hv).1
              have c3 := (HCX.out wr hw4 t u hu).2
              have c4 := (HCS.out wr HBS.out k x HXK.out).1
              have c5 := (HCS.out wr HBS.out k x HXK.out).2
              have HUV : Hid (xs[t]? = some u ∧ xs[t + 1]? = some v) := ⟨hu, hv⟩
              clear hw4 hu hv hj hb
              by_cases hnb : nearB xs S k t = true
              · have HNB : Hid (nearB xs S k t = true) := hnb
                rw [hnb]
                clear hnb
                go_wp2_with fail
                go_quiet (fail)
                have HBQ : Hid (Below w4.heap.size w4 (wr.drewN nq)) := below_drewN HBS.out nq
                go_wp2
                go_roundw
                case rel => exact ⟨j + 1, t + 1, by have := HJ.out; omega, by omega, by go_num, by rw [nearB, HNB.out]; rfl, HBQ.out⟩
                case measure => simp [intOf]; omega
              · have hk0 : k ≠ 0 := fun e => hnb (by rw [e]; exact nearB_zero xs S t)
                have hnb' : nearB xs S k t = false := by simpa using hnb
                obtain ⟨r, hr⟩ : ∃ r, k = r + 1 := ⟨k - 1, by omega⟩
                have HR : Hid (k = r + 1 ∧ nearB xs S k t = false) := ⟨hr, hnb'⟩
                have j6 : IntKind.i64.wrap ((k : Int) - 1) = (r : Int) := by rw [IntKind.wrap_i64] <;> omega
                have j7 : (r : Int) < (p : Int) + 1 := by omega
                have j8 : (0 : Int) ≤ (r : Int) := by omega
                obtain ⟨y, hy⟩ : ∃ y, S[r]? = some y := ⟨S[r]'(by rw [HSL.out.1]; omega), List.getElem?_eq_getElem (by rw [HSL.out.1]; omega)⟩
                have c6 := (HCS.out wr HBS.out r y hy).1
                have HY : Hid (S[k - 1]? = some y) := by show S[k - 1]? = some y; rw [hr, Nat.add_sub_cancel]; exact hy
                rw [hnb']
                clear hnb hnb' hr hk0 hy
                by_cases g1 : u = y
                · have g1' : (u == y) = true := beq_iff_eq.2 g1
                  have HG1 : Hid (u = y) := g1
                  clear g1
                  obtain ⟨bv, hbv⟩ : ∃ bv, (v == x) = bv := ⟨_, rfl⟩
                  have HBV : Hid ((v == x) = bv) := hbv
                  go_wp2_with fail
                  go_quiet (fail)
                  have HBQ : Hid (Below w4.heap.size w4 (wr.drewN nq)) := below_drewN HBS.out nq
                  go_wp2
                  go_roundw
                  case rel => exact ⟨j + 1, t + 1, by have := HJ.out; omega, by omega, by go_num, by rw [nearB, HR.out.2, HUV.out.1, HUV.out.2, HY.out, HXK.out, HG1.out, ← HBV.out]; simp, HBQ.out⟩
                  case measure => simp [intOf]; omega
                · have g1' : (u == y) = false := beq_eq_false_iff_ne.2 g1
                  have HG1 : Hid (¬ u = y) := g1
                  clear g1
                  go_wp2_with fail
                  go_quiet (fail)
                  have HBQ : Hid (Below w4.heap.size w4 (wr.drewN nq)) := below_drewN HBS.out nq
                  go_wp2
                  go_roundw
                  case rel => exact ⟨j + 1, t + 1, by have := HJ.out; omega, by omega, by go_num, by rw [nearB, HR.out.2, HUV.out.1, HUV.out.2, HY.out, HXK.out]; simp [HG1.out], HBQ.out⟩
                  case measure => simp [intOf]; omega
            · obtain rfl : q = t := by omega
              rw [HNR.out k hlt]
              have j1 : ¬ (j : Int) < (q : Int) + 1 := by omega
              clear hj hb
              go_wp2
              exact ⟨⟨k + 1, by omega, by go_num, HBS.out⟩, by simp [intOf]; omega⟩
    · obtain rfl : k = p + 1 := by omega
      have HBW : Hid (Below W0.heap.size W0 wr) := btr H4.out.1 HBR.out
      obtain ⟨⟨c0, c1, c2⟩, cs, _⟩ := HK.out wr HBW.out
      go_wp2_with fail
      refine (HOF.out wr HBW.out).mono ?_
      rintro e w8 ⟨fo2, fc2, uo2, tc2, wo2, wc2, rfl, hA, hb⟩
      have H8 : Hid (Below W0.heap.size W0 w8 ∧ (Arr w8 F T W fo2 uo2 wo2 fc2 tc2 wc2 ∧ T.length ≤ tc2) ∧ Tw w8 (some ⟨sb, 0, none⟩) sc S) := ⟨btr HBW.out hb, hA, (H4.out.2.keep HBR.out).keep hb⟩
      clear hb hA c0 c1 c2 cs
      go_wp2_with fail
      refine (HTX.out w8 H8.out.1).mono ?_
      rintro e w9 ⟨mo2, mc2, rfl, ht, hb⟩
      have H9 : Hid (Below W0.heap.size W0 w9 ∧ (Arr w9 F T W fo2 uo2 wo2 fc2 tc2 wc2 ∧ T.length ≤ tc2) ∧ Tw w9 (some ⟨sb, 0, none⟩) sc S ∧ Tw w9 mo2 mc2 xs) := ⟨btr H8.out.1 hb, ⟨H8.out.2.1.1.keep hb, H8.out.2.1.2⟩, H8.out.2.2.keep hb, ht⟩
      clear hb ht H8
      go_wp2_with fail
      refine (HLX.out w9 _ _ _ _ _ _ _ _ H9.out.2.1 H9.out.2.2.2).mono ?_
      rintro e w10 ⟨v, rfl, hv, hb⟩
      have H10 : Hid (Below W0.heap.size W0 w10 ∧ Tw w10 (some ⟨sb, 0, none⟩) sc S) := ⟨btr H9.out.1 hb, H9.out.2.2.1.keep hb⟩
      have HBZ : Hid (Below w.heap.size w w10) := (HK.out w10 H10.out.1).2.2
      clear hb H9
      rcases HLE.out with ⟨hE, hL0⟩ | ⟨hE, M, hM, hHM⟩
      · obtain ⟨Ty, xv, rfl⟩ := told_iface9 hv hE
        subst hL0
        clear hv hE
        go_wp2
        go_ret
        exact ⟨rfl, HBZ.out⟩
      · obtain rfl : v = .nilIface := by
          rcases hv with ⟨_, h⟩ | ⟨h, _⟩
          · exact h
          · rw [hE] at h; exact absurd rfl h
        have HHM : Hid (type_of% hHM) := hHM
        clear hv hHM hE
        obtain ⟨⟨c0, c1, c2⟩, cs, _⟩ := HK.out w10 H10.out.1
        go_wp2_with fail
        refine (HOF.out w10 H10.out.1).mono ?_
        rintro e w11 ⟨fo3, fc3, uo3, tc3, wo3, wc3, rfl, hA, hb⟩
        have H11 : Hid (Below W0.heap.size W0 w11 ∧ (Arr w11 F T W fo3 uo3 wo3 fc3 tc3 wc3 ∧ T.length ≤ tc3) ∧ Tw w11 (some ⟨sb, 0, none⟩) sc S) := ⟨btr H10.out.1 hb, hA, H10.out.2.keep hb⟩
        clear hb hA c0 c1 c2 cs H10
        go_wp2_with fail
        refine (HHM.out w11 _ _ _ _ _ _ _ _ H11.out.2.1 H11.out.2.2).mono ?_
        rintro e w12 ⟨rfl, hb⟩
        have HBY : Hid (Below w.heap.size w w12) := (HK.out w12 (btr H11.out.1 hb)).2.2
        clear hb H11
        go_wp2
        go_ret
        exact ⟨rfl, HBY.out⟩
end Go.Proofs.Ytdfjmfgbdnpkbaa
