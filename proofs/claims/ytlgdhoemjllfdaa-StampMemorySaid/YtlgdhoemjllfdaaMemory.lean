/- The law StampMemory, walked: All's lists are new memory. -/
import Derived.Test.YtlgdhoemjllfdaaPair
namespace Go.Proofs.Ytlgdhoemjllfdaa
open Go.RowKit

attribute [local go_sem] Oper.semAt_some

/-- numbers in a list in memory. -/
def HasNums (mk : Int → Value) (w : World) (v : Value) (xs : List Int) : Prop := ∃ ao cap, v = .slice ao xs.length cap ∧ ∀ j x, xs[j]? = some x → ∃ b off, ao = some ⟨b, off, none⟩ ∧ b < w.heap.size ∧ w.cell? ⟨b, off + j, none⟩ = some (mk x)
theorem HasNums.at {mk : Int → Value} {w : World} {ao : Option Addr} {n cap : Nat} {xs : List Int} (h : HasNums mk w (.slice ao n cap) xs) {j : Nat} {x : Int} (hj : xs[j]? = some x) : ∃ b off, ao = some ⟨b, off, none⟩ ∧ b < w.heap.size ∧ w.cell? ⟨b, off + j, none⟩ = some (mk x) := by
  obtain ⟨ao', cap', e, hc⟩ := h
  injection e with e1 e2 e3
  subst e1
  exact hc j x hj

set_option maxRecDepth 100000 in
set_option maxHeartbeats 4000000 in
theorem memory_calls (ao : Option Addr) (cap : Nat) (xs : List Int) (w : World) (hl : HasNums (Value.int .u8) w (.slice ao xs.length cap) xs) (hx : ∀ x ∈ xs, 0 ≤ x ∧ x ≤ 255) (hm : xs.length ≤ maxLen) : Calls Try.prog 5 #[.slice ao xs.length cap] w fun e w' => e = .returned (.bool true) ∧ Below w.heap.size w w' := by
  unfold maxLen at hm
  have HAW : Hid (type_of% (awake_calls w)) := awake_calls w
  have HN : Hid (∀ wx, Calls Try.prog 7 #[.int .i64 256, .int .u32 4294967295] wx fun e w' => e = .returned (.tuple #[.pointer (some ⟨wx.heap.size + 1, 0, none⟩), .nilIface]) ∧ IsStamp w' (wx.heap.size + 1) wx.heap.size 256 (List.replicate 256 none) ∧ Below wx.heap.size wx w') := fun wx => new_calls 256 (by omega) 4294967295 (by omega) (by omega) wx
  have HD : Hid (∀ wx, Calls Try.prog 14 #[.int .i64 256] wx fun e w' => ∃ kb ib, e = .returned (.tuple #[.agg #[.slice (some ⟨kb, 0, none⟩) 256 256, .slice (some ⟨ib, 0, none⟩) 256 256], .agg #[.int .i64 0, .slice none 0 0]]) ∧ RM w' kb ib 256 (List.replicate 256 0) (List.replicate 256 false) ∧ wx.heap.size ≤ kb ∧ wx.heap.size ≤ ib ∧ Below wx.heap.size wx w') := fun wx => docNew_calls 256 (by omega) wx
  have HL : Hid (HasNums (Value.int .u8) w (.slice ao xs.length cap) xs ∧ ∀ x ∈ xs, 0 ≤ x ∧ x ≤ 255) := ⟨hl, hx⟩
  clear hl hx
  go_enter Try.func5, Try.ntmps5
  go_wp2_with fail
  refine HAW.out.mono ?_
  rintro e w1 ⟨rfl, hb1⟩
  have BW1 : Hid (Below w.heap.size w w1) := hb1
  clear hb1
  go_wp2_with fail
  refine (HN.out _).mono ?_
  rintro e w2 ⟨rfl, hI2, hb2⟩
  obtain ⟨pb, hpb⟩ : ∃ pb, w1.heap.size = pb := ⟨_, rfl⟩
  rw [hpb] at hI2 ⊢
  have PB : Hid (w.heap.size ≤ pb) := by rw [← hpb]; exact BW1.out.size
  have I2 : Hid (IsStamp w2 (pb + 1) pb 256 (List.replicate 256 none) ∧ Below w.heap.size w w2) := ⟨hI2, BW1.out.trans (hb2.mono BW1.out.size)⟩
  clear hpb hI2 hb2
  go_wp2_with fail
  refine (HD.out _).mono ?_
  rintro e w3 ⟨kb, ib, rfl, hR3, hk3, hi3, hb3⟩
  have HI4 : Hid (∀ W4, (w3.alloc (.cells #[.slice (some ⟨kb, 0, none⟩) 256 256, .slice (some ⟨ib, 0, none⟩) 256 256] 46)).alloc (.cells #[.int .i64 0, .slice none 0 0] 49) = W4 → PI w W4 (pb + 1) pb kb ib w3.heap.size 256 (List.replicate 256 none) (List.replicate 256 0)) := fun W4 e => by
    rw [← e]
    exact PI.new I2.out.1 hR3 hk3 hi3 hb3 I2.out.2 (by have := PB.out; omega) PB.out
  clear hR3 hk3 hi3 hb3
  go_wp2_with fail
  generalize hW4 : (w3.alloc (.cells #[.slice (some ⟨kb, 0, none⟩) 256 256, .slice (some ⟨ib, 0, none⟩) 256 256] 46)).alloc (.cells #[.int .i64 0, .slice none 0 0] 49) = W4
  have I4 : Hid (PI w W4 (pb + 1) pb kb ib w3.heap.size 256 (List.replicate 256 none) (List.replicate 256 0)) := HI4.out W4 hW4
  clear hW4 HI4
  generalize w3.heap.size = mb at *
  go_loopw [27] (fun iv wr => ∃ (k : Nat) (vs : List (Option Int)) (ls : List Int), k ≤ xs.length ∧ iv = .int .i64 k ∧ PI w wr (pb + 1) pb kb ib mb 256 vs ls) (fun iv _ => xs.length - (intOf iv).toNat)
  case atStart => exact ⟨0, _, _, Nat.zero_le _, rfl, I4.out⟩
  case round =>
    obtain ⟨k, vs, ls, hk, rfl, hI⟩ := hrel
    have HI : Hid (PI w wr (pb + 1) pb kb ib mb 256 vs ls) := hI
    clear hI
    by_cases hlt : k < xs.length
    · obtain ⟨x, hx⟩ : ∃ x, xs[k]? = some x := ⟨xs[k], List.getElem?_eq_getElem hlt⟩
      obtain ⟨x0, x1⟩ := HL.out.2 x (List.mem_of_getElem? hx)
      obtain ⟨i, hi⟩ : ∃ i : Nat, x = i := ⟨x.toNat, by omega⟩
      subst hi
      obtain ⟨b, off, hao, hbl, q0⟩ := HL.out.1.at hx
      subst hao
      have e0 := (HI.out.below.cell (p := ⟨b, off + k, none⟩) hbl).trans q0
      have hi256 : i < 256 := by omega
      have hw1 : IntKind.i64.wrap (i : Int) = i := by rw [IntKind.wrap_i64]; omega
      have hw2 : IntKind.u64.wrap (i : Int) = i := by rw [IntKind.wrap_u64]; omega
      have S1 : Hid (type_of% (set_calls HI.out.st i hi256 (i : Int))) := set_calls HI.out.st i hi256 (i : Int)
      have b0 : (0 : Int) ≤ (k : Int) := by omega
      have b1 : (k : Int) < (xs.length : Int) := by omega
      clear hx q0
      go_wp2_with fail
      refine S1.out.mono ?_
      rintro e w5 ⟨rfl, h5⟩
      have I5 : Hid (IsStamp w5 (pb + 1) pb 256 (vs.set i (some (i : Int))) ∧ Fr (pb + 1) pb wr w5) := h5
      obtain ⟨hR5, c0, c1, lm⟩ := HI.out.rmAt h5.2
      have S2 : Hid (type_of% (rset_in hR5 i hi256 (i : Int))) := rset_in hR5 i hi256 (i : Int)
      clear h5 hR5 e0
      go_wp2_with fail
      refine S2.out.mono ?_
      rintro e w6 ⟨rfl, h6⟩
      have I6 : Hid (PI w w6 (pb + 1) pb kb ib mb 256 (vs.set i (some (i : Int))) (ls.set i (i : Int))) := HI.out.both I5.out h6
      clear h6 c0 c1 lm
      go_wp2
      go_roundw
      case rel => exact ⟨k + 1, _, _, by omega, by go_num, I6.out⟩
      case measure => simp [intOf]; omega
    · obtain rfl : k = xs.length := by omega
      have S1 : Hid (type_of% (all_calls HI.out.st)) := all_calls HI.out.st
      go_wp2_with fail
      refine S1.out.mono ?_
      rintro e w5 ⟨av, rfl, ha5, hb5⟩
      have hI5 := HI.out.later hb5
      have S2 : Hid (type_of% (all_calls hI5.st)) := all_calls hI5.st
      obtain ⟨T, hT⟩ : ∃ T, wr.heap.size = T := ⟨_, rfl⟩
      obtain ⟨T5, hT5⟩ : ∃ T5, w5.heap.size = T5 := ⟨_, rfl⟩
      have hAL : (allB 0 (vs.map Option.isSome)).length ≤ 256 := by
        have h1 := allB_len 0 (vs.map Option.isSome)
        rw [HI.out.rm.il] at h1
        exact h1
      obtain ⟨A, hA⟩ : ∃ A, allB 0 (vs.map Option.isSome) = A := ⟨_, rfl⟩
      have HA : Hid (allB 0 (vs.map Option.isSome) = A) := hA
      rw [hA] at ha5 S2 hAL
      rw [hT] at ha5 hb5
      rw [hT5] at S2
      obtain ⟨ao', ac, hav⟩ := row_slice ha5
      subst hav
      have HA5 : Hid (w5.ownsRow T 3 1 (.slice ao' A.length ac) A.length (intsV A) ∧ Below T wr w5) := ⟨ha5, hb5⟩
      have HTT : Hid (T ≤ T5 ∧ wr.heap.size = T ∧ w5.heap.size = T5) := ⟨by have := hb5.size; omega, hT, hT5⟩
      clear hI5 ha5 hb5 hA hT hT5
      go_wp2_with fail
      refine S2.out.mono ?_
      rintro e w6 ⟨bv, rfl, hb6r, hb6⟩
      obtain ⟨bo, bc, hbv⟩ := row_slice hb6r
      subst hbv
      have HX : Hid (∀ g c, (Value.slice ao' A.length ac) = .slice (some ⟨g, 0, none⟩) A.length c → T ≤ g ∧ g < T5) := fun g c e => by
        rcases HA5.out.1.2 with ⟨h, _⟩ | ⟨g', cap', cur, h, hg, hh, _⟩
        · rw [h] at e; cases e
        · rw [h] at e; cases e
          have := lt_of_get hh
          have := HTT.out.2.2
          exact ⟨hg, by omega⟩
      have I6 : Hid (w6.ownsRow T 3 1 (.slice ao' A.length ac) A.length (intsV A) ∧ w6.ownsRow T5 3 1 (.slice bo A.length bc) A.length (intsV A) ∧ Below T wr w6) := by
        have h1 := HTT.out
        exact ⟨row_keep HA5.out.1 (fun g _ hg => hb6.block g (by omega)), hb6r, HA5.out.2.trans (hb6.mono (by omega))⟩
      clear hb6r hb6 S1 S2
      generalize hW1 : wr = W1 at *
      clear hW1
      obtain ⟨i0, hi, hz0, hz1, hz2⟩ := infoInt
      go_wp2_with fail
      go_loopw [51] (fun iv wx => ∃ (j : Nat) (zs : List Value), j ≤ A.length ∧ iv = .int .i64 j ∧ wx.ownsRow T 3 1 (.slice ao' A.length ac) A.length zs ∧ wx.ownsRow T5 3 1 (.slice bo A.length bc) A.length (intsV A) ∧ Below T W1 wx) (fun iv _ => A.length - (intOf iv).toNat)
      case atStart => exact ⟨0, _, Nat.zero_le _, rfl, I6.out⟩
      case round =>
        obtain ⟨j, zs, hj, rfl, hza, hzb, hzw⟩ := hrel
        have HZ : Hid (wr.ownsRow T5 3 1 (.slice bo A.length bc) A.length (intsV A) ∧ Below T W1 wr) := ⟨hzb, hzw⟩
        by_cases hjl : j < A.length
        · rcases hza.2 with ⟨_, h0⟩ | ⟨g, cap', cur, h, hg, hh, hc, hmx, hsz, ht⟩
          · omega
          · obtain ⟨hg0, hg1⟩ := HX.out g _ h
            cases h
            have hzl : zs.length = A.length := by have := hza.1; omega
            have c0 : wr.cell? ⟨g, j, none⟩ = some (cur[j]'(by omega)) := (cells_at hh j).1.trans (Array.getElem?_eq_getElem _)
            have c1 : wr.frozen? ⟨g, j, none⟩ = false := (cells_at hh j).2
            generalize cur[j]'(by omega) = y at c0
            have HS : Hid (type_of% (hza.stored j (.int .i64 (-5)))) := hza.stored j (.int .i64 (-5))
            have b0 : (0 : Int) ≤ (j : Int) := by omega
            have b1 : (j : Int) < (A.length : Int) := by omega
            have HG : Hid (T ≤ g ∧ g < T5) := ⟨hg0, hg1⟩
            clear hza hzb hzw hh ht hsz hg hg0 hg1
            go_wp2
            go_roundw
            case rel => exact ⟨j + 1, _, by omega, by go_num, HS.out.1, row_keep HZ.out.1 (fun k hk _ => heap_setCell_other _ _ _ _ (by have := HG.out; show k ≠ g; omega)), HZ.out.2.setCell (p := ⟨g, j, none⟩) HG.out.1 _⟩
            case measure => simp [intOf]; omega
        · obtain rfl : j = A.length := by omega
          have HZA : Hid (wr.ownsRow T 3 1 (.slice ao' A.length ac) A.length zs) := hza
          have hTw : T ≤ wr.heap.size := by have := hzw.size; have := HTT.out; omega
          clear hza hzb hzw
          go_wp2_with (at_builtin; refine wpList_append_own _ rfl _ _ 37 rfl T 3 i0 (.int .i64 0) 1 8 Try.underlying37 hi hz0 hz1 hz2 rfl (by decide) (.slice ao' A.length ac) A.length zs rfl ?hown ⟨wr.heap.size, 0, none⟩ 2 2 [.int .i64 1, .int .i64 2] rfl rfl ?hnews ?hone ?h63 ?hby ?hbase ?_; (case hown => exact HZA.out.alloc _); (case hnews => intro j x hx; rcases j with _ | _ | j <;> simp at hx <;> subst hx <;> simp [Addr.add]); (case hone => intro x hx; simp at hx; rcases hx with rfl | rfl <;> rfl); (case h63 => unfold maxLen; omega); (case hby => omega); (case hbase => simp; omega); intro v' w7 hown7 hgrow7 hnil7; obtain ⟨vo, vc, hv'⟩ := row_slice hown7; subst hv')
          have hB7 : Below T W1 w7 ∧ T ≤ w7.heap.size := by
            have h1 := hgrow7.size
            simp at h1
            have hnb : ∀ j, j < T → some j ≠ (Value.slice ao' A.length ac).ownBlock := fun j hj e => by
              rcases HZA.out.2 with ⟨h, _⟩ | ⟨g, cap', cur, h, hg, _⟩
              · injection h with h1; subst h1; cases e
              · injection h with h1; subst h1
                have : j = g := Option.some.inj e
                omega
            exact ⟨HZ.out.2.trans ⟨hgrow7.os, hgrow7.tape, hgrow7.output, by omega, fun j hj => (hgrow7.block j (by simp; omega) (hnb j hj)).trans (Below.heap_alloc _ _ _ (by omega))⟩, by omega⟩
          have HI7 : Hid (HasInts w7 (.slice bo A.length bc) A) := by
            refine ints_of_row (base := T5) (row_keep HZ.out.1 fun k hk hk2 => (hgrow7.block k (by simp; omega) fun e => ?_).trans (Below.heap_alloc _ _ _ hk2))
            rcases HZA.out.2 with ⟨h, _⟩ | ⟨g, cap', cur, h, hg, _⟩
            · injection h with h1; subst h1; cases e
            · have := HX.out g _ h
              injection h with h1; subst h1
              have : k = g := Option.some.inj e
              omega
          have hP7 : PI w w7 (pb + 1) pb kb ib mb 256 vs ls := HI.out.later (by have := HTT.out.2.1; rw [this]; exact hB7.1)
          have HP7 : Hid (PI w w7 (pb + 1) pb kb ib mb 256 vs ls) := hP7
          have HK : Hid (∀ wx, Below w7.heap.size w7 wx → wx.cell? ⟨mb, 0, none⟩ = some (.slice (some ⟨kb, 0, none⟩) 256 256) ∧ wx.cell? ⟨mb, 1, none⟩ = some (.slice (some ⟨ib, 0, none⟩) 256 256)) := fun wx h => by
            obtain ⟨_, c0, c1, _⟩ := (HP7.out.later h).rmAt (Fr.refl _ _ _)
            exact ⟨c0, c1⟩
          have HR16 : Hid (∀ wx, Below w7.heap.size w7 wx → Calls Try.prog 16 #[.agg #[.slice (some ⟨kb, 0, none⟩) 256 256, .slice (some ⟨ib, 0, none⟩) 256 256]] wx fun e w' => ∃ ro rc, e = .returned (.slice ro A.length rc) ∧ HasInts w' (.slice ro A.length rc) A ∧ Below wx.heap.size wx w' ∧ Below w7.heap.size w7 w') := fun wx h => by
            refine (rall_calls (HP7.out.later h).rm (by omega)).mono ?_
            rintro e w' ⟨sv, rfl, hr, hb⟩
            rw [HA.out] at hr
            obtain ⟨so, sc, rfl⟩ := row_slice hr
            exact ⟨so, sc, rfl, ints_of_row hr, hb, h.trans (hb.mono h.size)⟩
          have HA12 : Hid (∀ wx, Below w7.heap.size w7 wx → Calls Try.prog 12 #[.pointer (some ⟨pb + 1, 0, none⟩)] wx fun e w' => ∃ ro rc, e = .returned (.slice ro A.length rc) ∧ HasInts w' (.slice ro A.length rc) A ∧ Below wx.heap.size wx w' ∧ Below w7.heap.size w7 w') := fun wx h => by
            refine (all_calls (HP7.out.later h).st).mono ?_
            rintro e w' ⟨sv, rfl, hr, hb⟩
            rw [HA.out] at hr
            obtain ⟨so, sc, rfl⟩ := row_slice hr
            exact ⟨so, sc, rfl, ints_of_row hr, hb, h.trans (hb.mono h.size)⟩
          have HS11 : Hid (∀ wx av bv, Below w7.heap.size w7 wx → HasInts wx av A → HasInts wx bv A → Calls Try.prog 11 #[av, bv] wx fun e w' => e = .returned (.bool true) ∧ Below wx.heap.size wx w' ∧ Below w7.heap.size w7 w') := fun wx av bv h h1 h2 => (sameInts_yes av bv A wx h1 h2 (by unfold maxLen; omega)).mono fun e w' ⟨he, hb⟩ => ⟨he, hb, h.trans (hb.mono h.size)⟩
          obtain ⟨c0, c1⟩ := HK.out w7 (Below.refl _ _)
          have HW7 : Hid (Below w.heap.size w w7) := hP7.below
          have tok1 : True := trivial
          have tok2 : True := trivial
          have tok3 : True := trivial
          have tok4 : True := trivial
          have tok5 : True := trivial
          clear hB7 hP7 hgrow7 hown7 hnil7 HZA HZ HX I6 HA5 HI HTT
          go_region_with (first
            | (go_at_call 16; have _t := tok1; clear _t tok1; refine (HR16.out _ (Below.refl _ _).drew).mono ?_; rintro e w8 ⟨ro, rc, rfl, h8, hb8, hl8⟩; have I8 : Hid (HasInts w8 (.slice ro A.length rc) A ∧ HasInts w8 (.slice bo A.length bc) A ∧ Below w7.heap.size w7 w8) := ⟨h8, HI7.out.keep hl8, hl8⟩; clear h8 hb8 hl8)
            | (go_at_call 11; have _t := tok2; clear _t tok2; refine (HS11.out _ _ _ I8.out.2.2 I8.out.2.1 I8.out.1).mono ?_; rintro e w9 ⟨rfl, hb9, hl9⟩; have I9 : Hid (Below w7.heap.size w7 w9) := hl9; obtain ⟨d0, d1⟩ := HK.out w9 hl9; clear hb9 hl9)
            | (go_at_call 12; have _t := tok3; clear _t tok3; refine (HA12.out _ I9.out).mono ?_; rintro e w10 ⟨so, sc, rfl, h10, hb10, hl10⟩; have I10 : Hid (HasInts w10 (.slice so A.length sc) A ∧ Below w7.heap.size w7 w10) := ⟨h10, hl10⟩; obtain ⟨f0, f1⟩ := HK.out w10 hl10; clear h10 hb10 hl10)
            | (go_at_call 16; have _t := tok4; clear _t tok4; refine (HR16.out _ I10.out.2).mono ?_; rintro e w11 ⟨qo, qc, rfl, h11, hb11, hl11⟩; have I11 : Hid (HasInts w11 (.slice qo A.length qc) A ∧ HasInts w11 (.slice so A.length sc) A ∧ Below w7.heap.size w7 w11) := ⟨h11, I10.out.1.keep hb11, hl11⟩; clear h11 hb11 hl11)
            | (go_at_call 11; have _t := tok5; clear _t tok5; refine (HS11.out _ _ _ I11.out.2.2 I11.out.2.1 I11.out.1).mono ?_; rintro e w12 ⟨rfl, hb12, hl12⟩; have I12 : Hid (Below w.heap.size w w12) := HW7.out.trans (hl12.mono HW7.out.size); clear hb12 hl12))
          all_goals
            go_wp2
            go_ret
            exact ⟨rfl, I12.out⟩
end Go.Proofs.Ytlgdhoemjllfdaa
