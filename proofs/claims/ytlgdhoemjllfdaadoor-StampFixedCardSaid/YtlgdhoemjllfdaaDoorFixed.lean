/- The law StampFixed, walked: the document's examples; nil; the limits; the first age 0 and its neighbours. -/
import Derived.Test.YtlgdhoemjllfdaaDoorSeenE
namespace Go.Proofs.YtlgdhoemjllfdaaDoor
open Go.RowKit

attribute [local go_sem] Oper.semAt_some

def z3 : List (Option Int) := List.replicate 3 none

set_option maxRecDepth 100000 in
set_option maxHeartbeats 8000000 in
theorem fixed_calls (w : World) (hg : HasType w) : Calls Tryd.prog 4 #[] w fun e w' => e = .returned (.bool true) ∧ Below w.heap.size w w' := by
  have HG : Hid (∀ wx, Below w.heap.size w wx → HasType wx) := fun wx h => hg.keep h hg.pos
  have HAW : Hid (type_of% (awake_calls w)) := awake_calls w
  have HN3 : Hid (∀ (age : Int) wx, 0 ≤ age → age ≤ 4294967295 → Calls Tryd.prog 6 #[.int .i64 3, .int .u32 age] wx fun e w' => e = .returned (.tuple #[.pointer (some ⟨wx.heap.size + 1, 0, none⟩), .nilIface]) ∧ IsStamp w' (wx.heap.size + 1) wx.heap.size 3 z3 ∧ Below wx.heap.size wx w') := fun age wx h0 h1 => new_calls 3 (by omega) age h0 h1 wx
  have HNG : Hid (∀ wx, Calls Tryd.prog 6 #[.int .i64 65536, .int .u32 5] wx fun e w' => e = .returned (.tuple #[.pointer (some ⟨wx.heap.size + 1, 0, none⟩), .nilIface]) ∧ IsStamp w' (wx.heap.size + 1) wx.heap.size 65536 (List.replicate 65536 none) ∧ Below wx.heap.size wx w') := fun wx => new_calls 65536 (by omega) 5 (by omega) (by omega) wx
  have HB1 : Hid (∀ wx, Calls Tryd.prog 6 #[.int .i64 (-1), .int .u32 0] wx fun e w' => e = .returned (.tuple #[.pointer none, .iface 49 (.int .i64 1)]) ∧ w' = wx) := fun wx => new_bad (-1) 0 (Or.inl (by omega)) wx
  have HB2 : Hid (∀ wx, Calls Tryd.prog 6 #[.int .i64 65537, .int .u32 0] wx fun e w' => e = .returned (.tuple #[.pointer none, .iface 49 (.int .i64 1)]) ∧ w' = wx) := fun wx => new_bad 65537 0 (Or.inr (by omega)) wx
  have HE : Hid (∀ n wx, Calls Tryd.prog 14 #[.int .i64 n] wx fun e w' => e = .returned (.agg #[.int .i64 n, .slice none 0 0]) ∧ Below wx.heap.size wx w') := fun n wx => E_calls n wx
  have HSE : Hid (∀ (c : Int) wx, c ≠ 0 → Below w.heap.size w wx → Calls Tryd.prog 8 #[.iface 49 (.int .i64 c), .agg #[.int .i64 c, .slice none 0 0]] wx fun r w' => r = .returned (.bool true) ∧ Below wx.heap.size wx w') := fun c wx hc h => seenE c hc wx (HG.out wx h)
  clear hg
  go_enter Tryd.func4, Tryd.ntmps4
  go_wp2_with fail
  refine HAW.out.mono ?_
  rintro e w1 ⟨rfl, hb1⟩
  have BW1 : Hid (Below w.heap.size w w1) := hb1
  clear hb1
  have HI4 : Hid (∀ W4, w1.alloc (.cells #[.int .u32 0, .int .u32 1, .int .u32 4294967295, .int .u32 4294967294] 22) = W4 → W4.heap[w1.heap.size]? = some (.cells #[.int .u32 0, .int .u32 1, .int .u32 4294967295, .int .u32 4294967294] 22) ∧ Below w.heap.size w W4) := fun W4 e => by
    rw [← e]
    exact ⟨heap_new _ _, BW1.out.alloc BW1.out.size _⟩
  go_wp2_with fail
  generalize hW4 : w1.alloc (.cells #[.int .u32 0, .int .u32 1, .int .u32 4294967295, .int .u32 4294967294] 22) = W4
  obtain ⟨h4, hb4⟩ := HI4.out W4 hW4
  have I4 : Hid (W4.heap[w1.heap.size]? = some (.cells #[.int .u32 0, .int .u32 1, .int .u32 4294967295, .int .u32 4294967294] 22) ∧ Below w.heap.size w W4 ∧ w.heap.size ≤ w1.heap.size) := ⟨h4, hb4, BW1.out.size⟩
  clear h4 hb4 hW4 HI4 BW1
  generalize w1.heap.size = ab at *
  go_loopw [21] (fun iv wr => ∃ k : Nat, k ≤ 4 ∧ iv = .int .i64 k ∧ wr.heap[ab]? = some (.cells #[.int .u32 0, .int .u32 1, .int .u32 4294967295, .int .u32 4294967294] 22) ∧ Below w.heap.size w wr) (fun iv _ => 4 - (intOf iv).toNat)
  case atStart => exact ⟨0, Nat.zero_le _, rfl, I4.out.1, I4.out.2.1⟩
  case round =>
    obtain ⟨k, hk, rfl, hA, hB⟩ := hrel
    have HB : Hid (wr.heap[ab]? = some (.cells #[.int .u32 0, .int .u32 1, .int .u32 4294967295, .int .u32 4294967294] 22) ∧ Below w.heap.size w wr) := ⟨hA, hB⟩
    by_cases hlt : k < 4
    · obtain ⟨age, hc, ha0, ha1⟩ : ∃ age : Int, wr.cell? ⟨ab, k, none⟩ = some (.int .u32 age) ∧ 0 ≤ age ∧ age ≤ 4294967295 := by
        rw [(cells_at hA k).1]
        rcases (show k = 0 ∨ k = 1 ∨ k = 2 ∨ k = 3 by omega) with rfl | rfl | rfl | rfl
        · exact ⟨0, rfl, by omega, by omega⟩
        · exact ⟨1, rfl, by omega, by omega⟩
        · exact ⟨4294967295, rfl, by omega, by omega⟩
        · exact ⟨4294967294, rfl, by omega, by omega⟩
      have b0 : (0 : Int) ≤ (k : Int) := by omega
      have b1 : (k : Int) < 4 := by omega
      clear hA hB
      go_wp2_with fail
      refine (HN3.out age _ ha0 ha1).mono ?_
      rintro e w2 ⟨rfl, hI2, hb2⟩
      obtain ⟨pb, hpb⟩ : ∃ pb, wr.heap.size = pb := ⟨_, rfl⟩
      rw [hpb] at hI2 ⊢
      have I2 : Hid (IsStamp w2 (pb + 1) pb 3 z3 ∧ Below wr.heap.size wr w2) := ⟨hI2, hb2⟩
      clear hpb hI2 hb2 hc
      have S2 : Hid (Calls Tryd.prog 11 #[.pointer (some ⟨pb + 1, 0, none⟩)] w2 fun e w' => e = .returned (.int .i64 0) ∧ w' = w2) := len_calls I2.out.1
      go_wp2_with fail
      refine S2.out.mono ?_
      rintro e w2' ⟨rfl, h⟩
      subst h
      clear S2
      generalize hW1 : wr = W1 at *
      clear hW1
      go_wp2_with fail
      go_loopw [37] (fun iv wx => ∃ j : Nat, j ≤ 3 ∧ iv = .int .i64 j ∧ IsStamp wx (pb + 1) pb 3 z3 ∧ Below W1.heap.size W1 wx) (fun iv _ => 3 - (intOf iv).toNat)
      case atStart => exact ⟨0, Nat.zero_le _, rfl, I2.out⟩
      case round =>
        obtain ⟨j, hj, rfl, hI, hB⟩ := hrel
        have HJ : Hid (IsStamp wr (pb + 1) pb 3 z3 ∧ Below W1.heap.size W1 wr) := ⟨hI, hB⟩
        clear hI hB
        by_cases hj3 : j < 3
        · have S8 : Hid (Calls Tryd.prog 12 #[.pointer (some ⟨pb + 1, 0, none⟩), .int .i64 j] wr fun e w' => e = .returned (.tuple #[.int .u64 0, .bool false]) ∧ Below wr.heap.size wr w') := get_in HJ.out.1 j none (by unfold z3; rw [List.getElem?_replicate, if_pos hj3])
          have b2 : (j : Int) < 3 := by omega
          go_wp2_with fail
          refine S8.out.mono ?_
          rintro e w8 ⟨rfl, h8⟩
          have I8 : Hid (IsStamp w8 (pb + 1) pb 3 z3 ∧ Below W1.heap.size W1 w8) := ⟨HJ.out.1.below h8, HJ.out.2.trans (h8.mono HJ.out.2.size)⟩
          clear h8
          go_wp2
          go_roundw
          case rel => exact ⟨j + 1, by omega, by go_num, I8.out⟩
          case measure => simp [intOf]; omega
        · obtain rfl : j = 3 := by omega
          have BJ : Hid (Below w.heap.size w wr) := HB.out.2.trans (HJ.out.2.mono HB.out.2.size)
          have T1 : Hid (Calls Tryd.prog 13 #[.pointer (some ⟨pb + 1, 0, none⟩), .int .i64 3, .int .u64 1] wr fun e w' => e = .returned (.iface 49 (.int .i64 7)) ∧ w' = wr) := set_far HJ.out.1 3 (Or.inr (by omega)) 1
          go_wp2_with fail
          refine T1.out.mono ?_
          rintro e wr' ⟨rfl, h⟩
          subst h
          go_wp2_with fail
          refine (HE.out 7 _).mono ?_
          rintro e w9 ⟨rfl, h9⟩
          have I9 : Hid (IsStamp w9 (pb + 1) pb 3 z3 ∧ Below W1.heap.size W1 w9 ∧ Below w.heap.size w w9) := ⟨HJ.out.1.below h9, HJ.out.2.trans (h9.mono HJ.out.2.size), BJ.out.trans (h9.mono BJ.out.size)⟩
          clear h9
          go_wp2_with fail
          refine (HSE.out 7 _ (by omega) I9.out.2.2).mono ?_
          rintro e w10 ⟨rfl, h10⟩
          have I10 : Hid (IsStamp w10 (pb + 1) pb 3 z3 ∧ Below W1.heap.size W1 w10 ∧ Below w.heap.size w w10) := ⟨I9.out.1.below h10, I9.out.2.1.trans (h10.mono I9.out.2.1.size), I9.out.2.2.trans (h10.mono I9.out.2.2.size)⟩
          clear h10
          have T2 : Hid (Calls Tryd.prog 13 #[.pointer (some ⟨pb + 1, 0, none⟩), .int .i64 (-1), .int .u64 1] w10 fun e w' => e = .returned (.iface 49 (.int .i64 7)) ∧ w' = w10) := set_far I10.out.1 (-1) (Or.inl (by omega)) 1
          go_wp2_with fail
          refine T2.out.mono ?_
          rintro e w10' ⟨rfl, h⟩
          subst h
          go_wp2_with fail
          refine (HE.out 7 _).mono ?_
          rintro e w11 ⟨rfl, h11⟩
          have I11 : Hid (Below W1.heap.size W1 w11 ∧ Below w.heap.size w w11) := ⟨I10.out.2.1.trans (h11.mono I10.out.2.1.size), I10.out.2.2.trans (h11.mono I10.out.2.2.size)⟩
          clear h11
          go_wp2_with fail
          refine (HSE.out 7 _ (by omega) I11.out.2).mono ?_
          rintro e w12 ⟨rfl, h12⟩
          have I12 : Hid (Below W1.heap.size W1 w12 ∧ Below w.heap.size w w12) := ⟨I11.out.1.trans (h12.mono I11.out.1.size), I11.out.2.trans (h12.mono I11.out.2.size)⟩
          clear h12
          go_wp2
          exact ⟨⟨k + 1, by omega, by go_num, (I12.out.1.block _ (lt_of_get HB.out.1)).trans HB.out.1, I12.out.2⟩, by simp [intOf]; omega⟩
    · obtain rfl : k = 4 := by omega
      clear hA hB
      go_wp2_with fail
      refine (HB2.out _).mono ?_
      rintro e w2 ⟨rfl, h⟩
      subst h
      go_wp2_with fail
      refine (HB1.out _).mono ?_
      rintro e w2 ⟨rfl, h⟩
      subst h
      go_wp2_with fail
      refine (HNG.out _).mono ?_
      rintro e w3 ⟨rfl, hI3, hb3⟩
      obtain ⟨pb, hpb⟩ : ∃ pb, w2.heap.size = pb := ⟨_, rfl⟩
      rw [hpb] at hI3 ⊢
      have I3 : Hid (IsStamp w3 (pb + 1) pb 65536 (List.replicate 65536 none) ∧ Below w.heap.size w w3 ∧ w.heap.size ≤ pb) := ⟨hI3, HB.out.2.trans (hb3.mono HB.out.2.size), by rw [← hpb]; exact HB.out.2.size⟩
      clear hpb hI3 hb3
      go_wp2_with fail
      refine (reset_nil _).mono ?_
      rintro e w4 ⟨rfl, h⟩
      subst h
      go_wp2_with fail
      refine (get_nil _ _).mono ?_
      rintro e w5 ⟨rfl, h⟩
      subst h
      go_wp2_with fail
      refine (HE.out 1 _).mono ?_
      rintro e w6 ⟨rfl, h6⟩
      have I6 : Hid (IsStamp w6 (pb + 1) pb 65536 (List.replicate 65536 none) ∧ Below w.heap.size w w6) := ⟨I3.out.1.below h6, I3.out.2.1.trans (h6.mono I3.out.2.1.size)⟩
      clear h6
      go_wp2_with fail
      refine (HSE.out 1 _ (by omega) I6.out.2).mono ?_
      rintro e w7 ⟨rfl, h7⟩
      have I7 : Hid (IsStamp w7 (pb + 1) pb 65536 (List.replicate 65536 none) ∧ Below w.heap.size w w7) := ⟨I6.out.1.below h7, I6.out.2.trans (h7.mono I6.out.2.size)⟩
      clear h7
      go_wp2_with fail
      refine (HE.out 1 _).mono ?_
      rintro e w8 ⟨rfl, h8⟩
      have I8 : Hid (IsStamp w8 (pb + 1) pb 65536 (List.replicate 65536 none) ∧ Below w.heap.size w w8) := ⟨I7.out.1.below h8, I7.out.2.trans (h8.mono I7.out.2.size)⟩
      clear h8
      go_wp2_with fail
      refine (HSE.out 1 _ (by omega) I8.out.2).mono ?_
      rintro e w9 ⟨rfl, h9⟩
      have I9 : Hid (IsStamp w9 (pb + 1) pb 65536 (List.replicate 65536 none) ∧ Below w.heap.size w w9) := ⟨I8.out.1.below h9, I8.out.2.trans (h9.mono I8.out.2.size)⟩
      clear h9
      have T1 : Hid (type_of% (set_big I9.out.1)) := set_big I9.out.1
      go_wp2_with fail
      refine T1.out.mono ?_
      rintro e w10 ⟨rfl, h10⟩
      have I10 : Hid (IsStamp w10 (pb + 1) pb 65536 ((List.replicate 65536 none).set 65535 (some 3)) ∧ Below w.heap.size w w10) := ⟨h10.1, I9.out.2.trans (h10.2.below I9.out.2.size (by have := I3.out.2.2; omega) I3.out.2.2)⟩
      clear h10
      have T2 : Hid (type_of% (all_big I10.out.1)) := all_big I10.out.1
      go_wp2_with fail
      refine T2.out.mono ?_
      rintro e w11 ⟨so, sc, rfl, h11, hb11⟩
      have I11 : Hid (HasInts w11 (.slice so 1 sc) [65535] ∧ Below w.heap.size w w11) := ⟨h11, I10.out.2.trans (hb11.mono I10.out.2.size)⟩
      clear h11 hb11
      have T3 : Hid (Calls Tryd.prog 16 #[.slice so 1 sc, .slice (some ⟨w11.heap.size, 0, none⟩) 1 1] (w11.alloc (.cells #[.int .i64 65535] 3)) fun e w' => e = .returned (.bool true) ∧ Below w.heap.size w w') := by
        obtain ⟨hl, hb⟩ := ints_lit w11 65535
        refine (sameInts_yes _ _ [65535] _ (I11.out.1.keep hb) hl (by unfold maxLen; simp)).mono fun e w' ⟨he, hb'⟩ => ⟨he, ?_⟩
        exact (I11.out.2.trans (hb.mono I11.out.2.size)).trans (hb'.mono (by have := I11.out.2.size; have := hb.size; omega))
      go_wp2_with fail
      refine T3.out.mono ?_
      rintro e w12 ⟨rfl, h12⟩
      have I12 : Hid (Below w.heap.size w w12) := h12
      clear h12
      go_wp2_with fail
      refine (len_nil _).mono ?_
      rintro e x1 ⟨rfl, h⟩
      subst h
      go_wp2_with fail
      refine (all_nil _).mono ?_
      rintro e x2 ⟨rfl, h⟩
      subst h
      go_wp2_with fail
      refine (set_nil _ _ _).mono ?_
      rintro e x3 ⟨rfl, h⟩
      subst h
      go_wp2_with fail
      refine (HE.out 19 _).mono ?_
      rintro e w13 ⟨rfl, h13⟩
      have I13 : Hid (Below w.heap.size w w13) := I12.out.trans (h13.mono I12.out.size)
      clear h13
      go_wp2_with fail
      refine (HSE.out 19 _ (by omega) I13.out).mono ?_
      rintro e w14 ⟨rfl, h14⟩
      have I14 : Hid (Below w.heap.size w w14) := I13.out.trans (h14.mono I13.out.size)
      clear h14
      go_wp2
      go_ret
      exact ⟨rfl, I14.out⟩
end Go.Proofs.YtlgdhoemjllfdaaDoor
