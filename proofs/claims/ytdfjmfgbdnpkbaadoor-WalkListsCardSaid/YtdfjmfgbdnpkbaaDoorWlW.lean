/- the law WalkLists. -/
import Derived.Test.YtdfjmfgbdnpkbaaDoorWkV
import Derived.Test.YtdfjmfgbdnpkbaaDoorWkE
import Derived.Test.YtdfjmfgbdnpkbaaDoorSeen
namespace Go.Proofs.YtdfjmfgbdnpkbaaDoor
open Go.RowKit Go.Extern

attribute [local go_sem] Oper.semAt_some

/-- a list of its own, as it may be handed on. -/
def Tw (w : World) (mo : Option Addr) (mc : Nat) (l : List Int) : Prop := HasInts w (.slice mo l.length mc) l ∧ l.length ≤ mc ∧ ∀ a, mo = some a → a.spot = none
theorem tw_of {w : World} {B mc : Nat} {mo : Option Addr} {l : List Int} (h : w.ownsRow B 3 1 (.slice mo l.length mc) l.length (iv l)) : Tw w mo mc l := by
  refine ⟨ints_of_iown h, ?_, ?_⟩
  · rcases h.2 with ⟨e, h0⟩ | ⟨g, cap, cur, e, _, hh, hle, _⟩
    · omega
    · injection e with e1 e2 e3
      omega
  · intro a ha
    rcases h.2 with ⟨e, h0⟩ | ⟨g, cap, cur, e, _, hh, hle, _⟩
    · injection e with e1 e2 e3
      rw [e1] at ha
      cases ha
    · injection e with e1 e2 e3
      rw [e1] at ha
      cases ha
      rfl
theorem Tw.keep {w w' : World} {mo : Option Addr} {mc : Nat} {l : List Int} (h : Tw w mo mc l) (hb : Below w.heap.size w w') : Tw w' mo mc l := ⟨h.1.keep hb, h.2⟩
theorem jErr_told (w : World) (n : Int) : IsTold w (n, []) (jErr n) := by
  by_cases h : n = 0
  · subst h; exact Or.inl ⟨rfl, rfl⟩
  · exact Or.inr ⟨h, by unfold jErr; rw [if_neg h]; rfl⟩
theorem places_none (w : World) : HasPlaces w (.slice none 0 0) [] := ⟨none, 0, rfl, fun j p hj => by simp at hj⟩
theorem jErr_seen (n : Int) (w : World) (hg : HasType w) : Calls Tryd.prog 12 #[jErr n, .agg #[.int .i64 n, .slice none 0 0]] w fun r w' => r = .returned (.bool true) ∧ Below w.heap.size w w' := seen_told (n, []) (jErr n) none 0 w (jErr_told w n) (places_none w) (Nat.zero_le _) hg

set_option maxRecDepth 100000 in
set_option maxHeartbeats 4000000 in
theorem lists9_far (ao bo : Option Addr) (ac bc : Nat) (xs ys : List Int) (w : World) (hx : xs.length * 8 ≤ 140737488351232) (hy : ys.length * 8 ≤ 140737488351232) (h : 3000 < xs.length ∨ 3000 < ys.length) :
    Calls Tryd.prog 4 #[.slice ao xs.length ac, .slice bo ys.length bc] w fun e w' => e = .returned (.bool true) ∧ Below w.heap.size w w' := by
  by_cases h1 : 3000 < xs.length
  · have e1 : (3000 : Int) < (xs.length : Int) := by omega
    go_enter Tryd.func4, Tryd.ntmps4
    go_wp2_with fail
    refine (awake9_calls w).mono ?_
    rintro e w1 ⟨rfl, hb⟩
    have HB : Hid (Below w.heap.size w w1) := hb
    clear hb
    go_wp2
    go_ret
    exact ⟨rfl, HB.out⟩
  · have e1 : ¬ (3000 : Int) < (xs.length : Int) := by omega
    have e2 : (3000 : Int) < (ys.length : Int) := by omega
    go_enter Tryd.func4, Tryd.ntmps4
    go_wp2_with fail
    refine (awake9_calls w).mono ?_
    rintro e w1 ⟨rfl, hb⟩
    have HB : Hid (Below w.heap.size w w1) := hb
    clear hb
    go_wp2
    go_ret
    exact ⟨rfl, HB.out⟩

set_option maxRecDepth 100000 in
set_option maxHeartbeats 4000000 in
theorem lists9_near (ao bo : Option Addr) (ac bc : Nat) (xs ys : List Int) (w : World) (hx : HasInts w (.slice ao xs.length ac) xs) (hy : HasInts w (.slice bo ys.length bc) ys) (h1 : xs.length ≤ 3000) (h2 : ys.length ≤ 3000) (hc : ys.length ≤ bc) (hwx : ∀ x ∈ xs, (Lit.int .i64 x).wf = true) (hg : HasType w) :
    Calls Tryd.prog 4 #[.slice ao xs.length ac, .slice bo ys.length bc] w fun e w' => e = .returned (.bool true) ∧ Below w.heap.size w w' := by
  have e1 : ¬ (3000 : Int) < (xs.length : Int) := by omega
  have e2 : ¬ (3000 : Int) < (ys.length : Int) := by omega
  obtain ⟨S, hS⟩ : ∃ S, S = simpS xs := ⟨_, rfl⟩
  obtain ⟨R, hR⟩ : ∃ R, R = xs.reverse := ⟨_, rfl⟩
  obtain ⟨J, hJ⟩ : ∃ J, J = joinL xs ys := ⟨_, rfl⟩
  obtain ⟨n, hn⟩ : ∃ n, n = joinN xs ys := ⟨_, rfl⟩
  have HX : Hid (∀ wx, Below w.heap.size w wx → HasInts wx (.slice ao xs.length ac) xs) := fun wx hb => hx.keep hb
  have HY : Hid (∀ wx, Below w.heap.size w wx → HasInts wx (.slice bo ys.length bc) ys) := fun wx hb => hy.keep hb
  have HG : Hid (∀ wx, Below w.heap.size w wx → HasType wx) := fun wx h => hg.keep h hg.pos
  have HTX : Hid (∀ wx, Below w.heap.size w wx → Calls Tryd.prog 10 #[.slice ao xs.length ac] wx fun e w' => ∃ mo mc, e = .returned (.slice mo xs.length mc) ∧ Tw w' mo mc xs ∧ Below wx.heap.size wx w') := fun wx hb => by
    refine (twinInts_calls ao ac xs wx (HX.out wx hb) (by omega)).mono ?_
    rintro e w' ⟨mo, mc, he, ho, hb'⟩
    exact ⟨mo, mc, he, tw_of ho, hb'⟩
  have HTY : Hid (∀ wx, Below w.heap.size w wx → Calls Tryd.prog 10 #[.slice bo ys.length bc] wx fun e w' => ∃ mo mc, e = .returned (.slice mo ys.length mc) ∧ Tw w' mo mc ys ∧ Below wx.heap.size wx w') := fun wx hb => by
    refine (twinInts_calls bo bc ys wx (HY.out wx hb) (by omega)).mono ?_
    rintro e w' ⟨mo, mc, he, ho, hb'⟩
    exact ⟨mo, mc, he, tw_of ho, hb'⟩
  have HSI : Hid (∀ (wx : World) mo mc, Tw wx mo mc xs → Calls Tryd.prog 18 #[.slice mo xs.length mc] wx fun e w' => ∃ so sc, e = .returned (.slice so S.length sc) ∧ HasInts w' (.slice so S.length sc) S ∧ Below wx.heap.size wx w') := fun wx mo mc h => by
    refine (simple_calls _ _ xs wx h.1 hwx (by omega)).mono ?_
    rintro e w' ⟨so, sc, he, ho, hb⟩
    rw [← hS] at he ho
    exact ⟨so, sc, he, ints_of_iown ho, hb⟩
  have HBK : Hid (∀ (wx : World) mo mc, Tw wx mo mc xs → Calls Tryd.prog 20 #[.slice mo xs.length mc] wx fun e w' => ∃ so sc, e = .returned (.slice so R.length sc) ∧ HasInts w' (.slice so R.length sc) R ∧ Below wx.heap.size wx w') := fun wx mo mc h => by
    refine (back_calls _ _ xs wx h.1 h.2.2 (by omega)).mono ?_
    rintro e w' ⟨so, sc, he, ho, hb⟩
    rw [← hR] at he ho
    exact ⟨so, sc, he, ints_of_iown ho, hb⟩
  have HJN : Hid (∀ (wx : World) mo mc no nc, Tw wx mo mc xs → Tw wx no nc ys → Calls Tryd.prog 15 #[.slice mo xs.length mc, .slice no ys.length nc] wx fun e w' => ∃ so sc, e = .returned (.tuple #[.slice so J.length sc, jErr n]) ∧ HasInts w' (.slice so J.length sc) J ∧ Below wx.heap.size wx w') := fun wx mo mc no nc h k => by
    refine (join_any _ _ _ _ xs ys wx h.1 k.1 k.2.1 (by omega)).mono ?_
    rintro e w' ⟨so, sc, he, ho, hb⟩
    rw [← hJ, ← hn] at he
    rw [← hJ] at ho
    exact ⟨so, sc, he, ints_of_iown ho, hb⟩
  have HDJ : Hid (∀ wx, Below w.heap.size w wx → Calls Tryd.prog 16 #[.slice ao xs.length ac, .slice bo ys.length bc] wx fun e w' => ∃ no nc, e = .returned (.tuple #[.slice no J.length nc, .agg #[.int .i64 n, .slice none 0 0]]) ∧ HasInts w' (.slice no J.length nc) J ∧ Below wx.heap.size wx w') := fun wx hb => by
    refine (docJoin_any ao bo ac bc xs ys wx (HX.out wx hb) (HY.out wx hb) hc (by omega)).mono ?_
    rintro e w' ⟨so, sc, he, ho, hb'⟩
    rw [← hJ, ← hn] at he
    rw [← hJ] at ho
    exact ⟨so, sc, he, ints_of_iown ho, hb'⟩
  have HRS : Hid (∀ wx, Below w.heap.size w wx → Calls Tryd.prog 19 #[.slice ao xs.length ac] wx fun e w' => ∃ no nc, e = .returned (.slice no S.length nc) ∧ HasInts w' (.slice no S.length nc) S ∧ Below wx.heap.size wx w') := fun wx hb => by
    refine (rSimple_calls ao ac xs wx (HX.out wx hb) (by omega)).mono ?_
    rintro e w' ⟨so, sc, he, ho, hb'⟩
    rw [← hS] at he ho
    exact ⟨so, sc, he, ints_of_iown ho, hb'⟩
  have HRB : Hid (∀ wx, Below w.heap.size w wx → Calls Tryd.prog 21 #[.slice ao xs.length ac] wx fun e w' => ∃ no nc, e = .returned (.slice no R.length nc) ∧ HasInts w' (.slice no R.length nc) R ∧ Below wx.heap.size wx w') := fun wx hb => by
    refine (rBack_calls ao ac xs wx (HX.out wx hb) (by omega)).mono ?_
    rintro e w' ⟨so, sc, he, ho, hb'⟩
    rw [← hR] at he ho
    exact ⟨so, sc, he, ints_of_iown ho, hb'⟩
  have HLE : Hid (S.length ≤ maxLen ∧ R.length ≤ maxLen ∧ J.length ≤ maxLen) := by
    have hs : S.length ≤ xs.length := by rw [hS]; exact simpS_len xs
    have hr : R.length = xs.length := by rw [hR]; exact List.length_reverse
    have hj : J.length ≤ xs.length + ys.length := by
      rw [hJ]
      unfold joinL
      split
      · simp
      · split
        · rw [List.length_append, List.length_tail]; omega
        · simp
    refine ⟨?_, ?_, ?_⟩ <;> (unfold maxLen; omega)
  have HSE : Hid (∀ wx, Below w.heap.size w wx → Calls Tryd.prog 12 #[jErr n, .agg #[.int .i64 n, .slice none 0 0]] wx fun r w' => r = .returned (.bool true) ∧ Below wx.heap.size wx w') := fun wx hb => jErr_seen n wx (HG.out wx hb)
  obtain ⟨ev, hev⟩ : ∃ ev, ev = jErr n := ⟨_, rfl⟩
  rw [← hev] at HSE HJN
  clear hx hy hc hwx hS hR hJ hn hg hev
  go_enter Tryd.func4, Tryd.ntmps4
  go_wp2_with fail
  refine (awake9_calls w).mono ?_
  rintro e w1 ⟨rfl, hb⟩
  have HB : Hid (Below w.heap.size w w1) := hb
  clear hb
  go_wp2_with fail
  refine (HTX.out w1 HB.out).mono ?_
  rintro e w2 ⟨ao2, ac2, rfl, ho, hb⟩
  have H2 : Hid (Tw w2 ao2 ac2 xs ∧ Below w.heap.size w w2) := ⟨ho, btr HB.out hb⟩
  clear ho hb HB
  go_wp2_with fail
  refine (HTY.out w2 H2.out.2).mono ?_
  rintro e w3 ⟨bo2, bc2, rfl, ho, hb⟩
  have H3 : Hid (Tw w3 ao2 ac2 xs ∧ Tw w3 bo2 bc2 ys ∧ Below w.heap.size w w3) := ⟨H2.out.1.keep hb, ho, btr H2.out.2 hb⟩
  clear ho hb H2
  go_wp2_with fail
  refine (HJN.out w3 _ _ _ _ H3.out.1 H3.out.2.1).mono ?_
  rintro e w4 ⟨lo, lc, rfl, ho, hb⟩
  have H4 : Hid (HasInts w4 (.slice lo J.length lc) J ∧ Below w.heap.size w w4) := ⟨ho, btr H3.out.2.2 hb⟩
  clear ho hb H3
  go_wp2_with fail
  refine (HDJ.out w4 H4.out.2).mono ?_
  rintro e w5 ⟨mo, mc, rfl, ho, hb⟩
  have H5 : Hid (HasInts w5 (.slice lo J.length lc) J ∧ HasInts w5 (.slice mo J.length mc) J ∧ Below w.heap.size w w5) := ⟨H4.out.1.keep hb, ho, btr H4.out.2 hb⟩
  clear ho hb H4
  go_wp2_with fail
  have hb : Below w5.heap.size w5 (w5.alloc (.cells #[.int .i64 n, .slice none 0 0] 37)) := (Below.refl _ _).alloc (Nat.le_refl _) _
  have hN : (w5.alloc (.cells #[.int .i64 n, .slice none 0 0] 37)).heap[w5.heap.size]? = some (.cells #[.int .i64 n, .slice none 0 0] 37) := heap_new _ _
  generalize w5.alloc (.cells #[.int .i64 n, .slice none 0 0] 37) = w6 at *
  have H6 : Hid (HasInts w6 (.slice lo J.length lc) J ∧ HasInts w6 (.slice mo J.length mc) J ∧ Below w.heap.size w w6 ∧ w6.heap[w5.heap.size]? = some (.cells #[.int .i64 n, .slice none 0 0] 37)) := ⟨H5.out.1.keep hb, H5.out.2.1.keep hb, btr H5.out.2.2 hb, hN⟩
  clear hb hN H5
  generalize w5.heap.size = bx at *
  refine (sameInts_yes _ _ J w6 H6.out.1 H6.out.2.1 HLE.out.2.2).mono ?_
  rintro e w7 ⟨rfl, hb⟩
  have H7 : Hid (Below w.heap.size w w7) := btr H6.out.2.2.1 hb
  obtain ⟨q0, q1⟩ := cell_two ((hb.block _ (lt_of_get H6.out.2.2.2)).trans H6.out.2.2.2)
  have hl : bx < w7.heap.size := Nat.lt_of_lt_of_le (lt_of_get H6.out.2.2.2) hb.size
  clear hb H6
  go_wp2_with fail
  refine (HSE.out w7 H7.out).mono ?_
  rintro e w8 ⟨rfl, hb⟩
  have H8 : Hid (Below w.heap.size w w8) := btr H7.out hb
  clear hb H7 q0 q1 hl
  go_wp2_with fail
  refine (HTX.out w8 H8.out).mono ?_
  rintro e w9 ⟨ao3, ac3, rfl, ho, hb⟩
  have H9 : Hid (Tw w9 ao3 ac3 xs ∧ Below w.heap.size w w9) := ⟨ho, btr H8.out hb⟩
  clear ho hb H8
  go_wp2_with fail
  refine (HSI.out w9 _ _ H9.out.1).mono ?_
  rintro e w10 ⟨so, sc, rfl, ho, hb⟩
  have H10 : Hid (HasInts w10 (.slice so S.length sc) S ∧ Below w.heap.size w w10) := ⟨ho, btr H9.out.2 hb⟩
  clear ho hb H9
  go_wp2_with fail
  refine (HRS.out w10 H10.out.2).mono ?_
  rintro e w11 ⟨so2, sc2, rfl, ho, hb⟩
  have H11 : Hid (HasInts w11 (.slice so S.length sc) S ∧ HasInts w11 (.slice so2 S.length sc2) S ∧ Below w.heap.size w w11) := ⟨H10.out.1.keep hb, ho, btr H10.out.2 hb⟩
  clear ho hb H10
  go_wp2_with fail
  refine (sameInts_yes _ _ S w11 H11.out.1 H11.out.2.1 HLE.out.1).mono ?_
  rintro e w12 ⟨rfl, hb⟩
  have H12 : Hid (Below w.heap.size w w12) := btr H11.out.2.2 hb
  clear hb H11
  go_wp2_with fail
  refine (HTX.out w12 H12.out).mono ?_
  rintro e w13 ⟨ao4, ac4, rfl, ho, hb⟩
  have H13 : Hid (Tw w13 ao4 ac4 xs ∧ Below w.heap.size w w13) := ⟨ho, btr H12.out hb⟩
  clear ho hb H12
  go_wp2_with fail
  refine (HBK.out w13 _ _ H13.out.1).mono ?_
  rintro e w14 ⟨po, pc, rfl, ho, hb⟩
  have H14 : Hid (HasInts w14 (.slice po R.length pc) R ∧ Below w.heap.size w w14) := ⟨ho, btr H13.out.2 hb⟩
  clear ho hb H13
  go_wp2_with fail
  refine (HRB.out w14 H14.out.2).mono ?_
  rintro e w15 ⟨po2, pc2, rfl, ho, hb⟩
  have H15 : Hid (HasInts w15 (.slice po R.length pc) R ∧ HasInts w15 (.slice po2 R.length pc2) R ∧ Below w.heap.size w w15) := ⟨H14.out.1.keep hb, ho, btr H14.out.2 hb⟩
  clear ho hb H14
  go_wp2_with fail
  refine (sameInts_yes _ _ R w15 H15.out.1 H15.out.2.1 HLE.out.2.1).mono ?_
  rintro e w16 ⟨rfl, hb⟩
  have H16 : Hid (Below w.heap.size w w16) := btr H15.out.2.2 hb
  clear hb H15
  go_wp2
  go_ret
  exact ⟨rfl, H16.out⟩
/-- the law, whatever the lists. -/
theorem lists9_calls (ao bo : Option Addr) (ac bc : Nat) (xs ys : List Int) (w : World) (hx : HasInts w (.slice ao xs.length ac) xs) (hy : HasInts w (.slice bo ys.length bc) ys) (mx : xs.length * 8 ≤ 140737488351232) (my : ys.length * 8 ≤ 140737488351232) (hc : ys.length ≤ bc) (hwx : ∀ x ∈ xs, (Lit.int .i64 x).wf = true) (hg : HasType w) :
    Calls Tryd.prog 4 #[.slice ao xs.length ac, .slice bo ys.length bc] w fun e w' => e = .returned (.bool true) ∧ Below w.heap.size w w' := by
  by_cases h : 3000 < xs.length ∨ 3000 < ys.length
  · exact lists9_far ao bo ac bc xs ys w mx my h
  · exact lists9_near ao bo ac bc xs ys w hx hy (by omega) (by omega) hc hwx hg
end Go.Proofs.YtdfjmfgbdnpkbaaDoor
