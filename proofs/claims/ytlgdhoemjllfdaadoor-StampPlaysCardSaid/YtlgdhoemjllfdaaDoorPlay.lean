/- play: each call of a script is answered as by the lists. -/
import Derived.Test.YtlgdhoemjllfdaaDoorSeenE
import Derived.Test.YtlgdhoemjllfdaaDoorOpsM
namespace Go.Proofs.YtlgdhoemjllfdaaDoor
open Go.RowKit

attribute [local go_sem] Oper.semAt_some

theorem PI.rebox {w0 w : World} {sb pb kb ib mb n : Nat} {vs : List (Option Int)} {ls : List Int} (h : PI w0 w sb pb kb ib mb n vs ls) : PI w0 (w.alloc (.cells #[.slice (some ⟨kb, 0, none⟩) n n, .slice (some ⟨ib, 0, none⟩) n n] 33)) sb pb kb ib w.heap.size n vs ls := by
  have hb : Below w.heap.size w (w.alloc (.cells #[.slice (some ⟨kb, 0, none⟩) n n, .slice (some ⟨ib, 0, none⟩) n n] 33)) := (Below.refl _ w).alloc (Nat.le_refl _) _
  have h' := h.later hb
  obtain ⟨l0, l1, _, _, _⟩ := h.st.lt
  have l2 := lt_of_get h.rm.krow
  have l3 := lt_of_get h.rm.irow
  exact ⟨h'.st, h'.rm, heap_new _ _, h'.vals, h'.ap, ⟨by omega, by omega, by omega, by omega⟩, h'.base, h'.below⟩

set_option maxRecDepth 100000 in
set_option maxHeartbeats 8000000 in
theorem play_calls {w0 w : World} {sb pb kb ib mb0 n : Nat} {vs0 : List (Option Int)} {ls0 : List Int} (hP : PI w0 w sb pb kb ib mb0 n vs0 ls0) (hg : HasType w0) (hn : n ≤ 65536) (so : Option Addr) (m sc : Nat) (L : List Op3) (ho : HasOps w0 (.slice so m sc) L) (hlen : L.length = m) (hm : m ≤ maxLen) : Calls Tryd.prog 10 #[.pointer (some ⟨sb, 0, none⟩), .agg #[.slice (some ⟨kb, 0, none⟩) n n, .slice (some ⟨ib, 0, none⟩) n n], .slice so m sc] w fun e w' => e = .returned (.bool true) ∧ Below w0.heap.size w0 w' := by
  unfold maxLen at hm
  have HO : Hid (HasOps w0 (.slice so m sc) L ∧ L.length = m) := ⟨ho, hlen⟩
  have HG : Hid (∀ wx, Below w0.heap.size w0 wx → HasType wx) := fun wx h => hg.keep h hg.pos
  have HP0 : Hid (∀ W0, w.alloc (.cells #[.slice (some ⟨kb, 0, none⟩) n n, .slice (some ⟨ib, 0, none⟩) n n] 33) = W0 → PI w0 W0 sb pb kb ib w.heap.size n vs0 ls0) := fun W0 e => by rw [← e]; exact hP.rebox
  clear ho hlen hg hP
  go_enter Tryd.func10, Tryd.ntmps10
  go_wp2_with fail
  generalize hW0 : w.alloc (.cells #[.slice (some ⟨kb, 0, none⟩) n n, .slice (some ⟨ib, 0, none⟩) n n] 33) = W0
  have I0 : Hid (PI w0 W0 sb pb kb ib w.heap.size n vs0 ls0) := HP0.out W0 hW0
  clear hW0 HP0
  generalize w.heap.size = mb at *
  go_loopw [15] (fun iv wr => ∃ (k : Nat) (vs : List (Option Int)) (ls : List Int), k ≤ m ∧ iv = .int .i64 k ∧ PI w0 wr sb pb kb ib mb n vs ls) (fun iv _ => m - (intOf iv).toNat)
  case atStart => exact ⟨0, _, _, Nat.zero_le _, rfl, I0.out⟩
  case round =>
    obtain ⟨k, vs, ls, hk, rfl, hI⟩ := hrel
    have HI : Hid (PI w0 wr sb pb kb ib mb n vs ls) := hI
    clear hI
    by_cases hlt : k < m
    · obtain ⟨o, hx⟩ : ∃ o, L[k]? = some o := ⟨L[k]'(by have := HO.out.2; omega), List.getElem?_eq_getElem _⟩
      obtain ⟨kd, i, x⟩ := o
      obtain ⟨b, off, hao, hbl, q0, q1, q2⟩ := HO.out.1.at hx
      subst hao
      have e0 := (HI.out.below.cell (p := ⟨b, off + k * 3, none⟩) hbl).trans q0
      have e1 := (HI.out.below.cell (p := ⟨b, off + k * 3 + 1, none⟩) hbl).trans q1
      have e2 := (HI.out.below.cell (p := ⟨b, off + k * 3 + 2, none⟩) hbl).trans q2
      simp only at e0 e1 e2
      have b0 : (0 : Int) ≤ (k : Int) := by omega
      have b1 : (k : Int) < (m : Int) := by omega
      clear hx q0 q1 q2
      have HP5 : Hid (∀ W5, wr.alloc (.cells #[.int .u8 kd, .int .i64 i, .int .u64 x] 67) = W5 → PI w0 W5 sb pb kb ib mb n vs ls ∧ W5.heap[wr.heap.size]? = some (.cells #[.int .u8 kd, .int .i64 i, .int .u64 x] 67) ∧ wr.heap.size ≠ sb ∧ wr.heap.size ≠ pb ∧ wr.heap.size ≠ kb ∧ wr.heap.size ≠ ib) := fun W5 e => by
        obtain ⟨k0, hB⟩ := one_new wr (.cells #[.int .u8 kd, .int .i64 i, .int .u64 x] 67)
        rw [e] at k0 hB
        obtain ⟨l0, l1, _, _, _⟩ := HI.out.st.lt
        have l2 := lt_of_get HI.out.rm.krow
        have l3 := lt_of_get HI.out.rm.irow
        exact ⟨HI.out.later hB, k0, by omega, by omega, by omega, by omega⟩
      go_upto_region 4 with fail
      generalize hW5 : wr.alloc (.cells #[.int .u8 kd, .int .i64 i, .int .u64 x] 67) = W5
      have hP5 := HP5.out W5 hW5
      clear hW5 HP5
      generalize wr.heap.size = ob at *
      have P5 : Hid (PI w0 W5 sb pb kb ib mb n vs ls ∧ W5.heap[ob]? = some (.cells #[.int .u8 kd, .int .i64 i, .int .u64 x] 67) ∧ ob ≠ sb ∧ ob ≠ pb ∧ ob ≠ kb ∧ ob ≠ ib) := hP5
      clear hP5 e0 e1 e2 HI
      have HF : Hid (∀ wx, Fr sb pb W5 wx → RM wx kb ib n ls (vs.map Option.isSome) ∧ wx.cell? ⟨ob, 0, none⟩ = some (.int .u8 kd) ∧ wx.cell? ⟨ob, 1, none⟩ = some (.int .i64 i) ∧ wx.cell? ⟨ob, 2, none⟩ = some (.int .u64 x) ∧ wx.cell? ⟨mb, 0, none⟩ = some (.slice (some ⟨kb, 0, none⟩) n n) ∧ wx.cell? ⟨mb, 1, none⟩ = some (.slice (some ⟨ib, 0, none⟩) n n)) := fun wx hf => by
        obtain ⟨hP, ho5, n0, n1, n2, n3⟩ := P5.out
        obtain ⟨hR, m0, m1, _⟩ := hP.rmAt hf
        obtain ⟨o0, o1, o2, _⟩ := trip_cells ((hf.block ob (lt_of_get ho5) n0 n1).trans ho5)
        exact ⟨hR, o0, o1, o2, m0, m1⟩
      obtain ⟨_, o0, o1, o2, m0, m1⟩ := HF.out W5 (Fr.refl _ _ _)
      have HB5 : Hid (Below w0.heap.size w0 W5) := P5.out.1.below
      rcases (show kd = 1 ∨ (¬ kd = 1 ∧ kd = 2) ∨ (¬ kd = 1 ∧ ¬ kd = 2 ∧ kd = 3) ∨ (¬ kd = 1 ∧ ¬ kd = 2 ∧ ¬ kd = 3 ∧ kd = 4) ∨ (¬ kd = 1 ∧ ¬ kd = 2 ∧ ¬ kd = 3 ∧ ¬ kd = 4 ∧ kd = 5) ∨ (¬ kd = 1 ∧ ¬ kd = 2 ∧ ¬ kd = 3 ∧ ¬ kd = 4 ∧ ¬ kd = 5) by omega) with rfl | ⟨hk1, rfl⟩ | ⟨hk1, hk2, rfl⟩ | ⟨hk1, hk2, hk3, rfl⟩ | ⟨hk1, hk2, hk3, hk4, rfl⟩ | ⟨hk1, hk2, hk3, hk4, hk5⟩
      · by_cases hr : 0 ≤ i ∧ i < n
        · obtain ⟨i, rfl⟩ : ∃ q : Nat, i = q := ⟨i.toNat, by omega⟩
          have hin : i < n := by omega
          have S1 : Hid (∀ wx, Below W5.heap.size W5 wx → Calls Tryd.prog 13 #[.pointer (some ⟨sb, 0, none⟩), .int .i64 i, .int .u64 x] wx fun e w' => e = .returned .nilIface ∧ (IsStamp w' sb pb n (vs.set i (some x)) ∧ Fr sb pb wx w') ∧ Fr sb pb W5 w') := fun wx h => (set_calls (P5.out.1.later h).st i hin x).mono fun e w' ⟨he, h1, h2⟩ => ⟨he, ⟨h1, h2⟩, (Fr.of_below h).trans h2⟩
          have S2 : Hid (∀ w6, IsStamp w6 sb pb n (vs.set i (some x)) → Fr sb pb W5 w6 → Calls Tryd.prog 20 #[.agg #[.slice (some ⟨kb, 0, none⟩) n n, .slice (some ⟨ib, 0, none⟩) n n], .int .i64 i, .int .u64 x] w6 fun e w' => e = .returned (.agg #[.int .i64 0, .slice none 0 0]) ∧ PI w0 w' sb pb kb ib mb n (vs.set i (some x)) (ls.set i x) ∧ w'.heap[ob]? = some (.cells #[.int .u8 1, .int .i64 i, .int .u64 x] 67)) := fun w6 h1 h2 => (rset_in (HF.out w6 h2).1 i hin x).mono fun e w' ⟨he, h3⟩ => ⟨he, P5.out.1.both ⟨h1, h2⟩ h3, (h3.block ob (Nat.lt_of_lt_of_le (lt_of_get P5.out.2.1) h2.size) P5.out.2.2.2.2.1 P5.out.2.2.2.2.2).trans ((h2.block ob (lt_of_get P5.out.2.1) P5.out.2.2.1 P5.out.2.2.2.1).trans P5.out.2.1)⟩
          have S3 : Hid (∀ wx, Calls Tryd.prog 8 #[.nilIface, .agg #[.int .i64 0, .slice none 0 0]] wx fun r w' => r = .returned (.bool true) ∧ Below wx.heap.size wx w') := fun wx => seen_none none 0 wx
          have tok1 : True := trivial
          have tok2 : True := trivial
          have tok3 : True := trivial
          have b2 : (0 : Int) ≤ (i : Int) := by omega
          go_wp2_with fail
          go_region_held3 (fun w' => w'.cell? ⟨ob, 1, none⟩ = some (.int .i64 i) ∧ w'.cell? ⟨ob, 2, none⟩ = some (.int .u64 x) ∧ w'.cell? ⟨mb, 0, none⟩ = some (.slice (some ⟨kb, 0, none⟩) n n) ∧ w'.cell? ⟨mb, 1, none⟩ = some (.slice (some ⟨ib, 0, none⟩) n n)) (go_keep) (first
            | (go_at_call 13; have _t := tok1; clear _t tok1; refine (S1.out _ (Below.refl _ _).drew).mono ?_; rintro e w6 ⟨rfl, h6, hf6⟩; have I6 : Hid (IsStamp w6 sb pb n (vs.set i (some x)) ∧ Fr sb pb W5 w6) := ⟨h6.1, hf6⟩; obtain ⟨_, _, d1, d2, d3, d4⟩ := HF.out w6 hf6; clear h6 hf6)
            | (go_at_call 20; have _t := tok2; clear _t tok2; refine (S2.out _ I6.out.1 I6.out.2).mono ?_; rintro e w7 ⟨rfl, h7, ho7⟩; have I7 : Hid (PI w0 w7 sb pb kb ib mb n (vs.set i (some x)) (ls.set i x) ∧ w7.heap[ob]? = some (.cells #[.int .u8 1, .int .i64 i, .int .u64 x] 67)) := ⟨h7, ho7⟩; obtain ⟨_, f3, f4, _⟩ := h7.rmAt (Fr.refl _ _ _); obtain ⟨_, f1, f2, _⟩ := trip_cells ho7; clear h7 ho7)
            | (go_at_call 8; have _t := tok3; clear _t tok3; refine (S3.out _).mono ?_; rintro e w8 ⟨rfl, h8⟩; have I8 : Hid (PI w0 w8 sb pb kb ib mb n (vs.set i (some x)) (ls.set i x)) := I7.out.1.later h8; obtain ⟨_, t3, t4, _⟩ := I8.out.rmAt (Fr.refl _ _ _); obtain ⟨_, t1, t2, _⟩ := trip_cells ((h8.block ob (lt_of_get I7.out.2)).trans I7.out.2); clear h8))
          go_wp2
          go_roundw
          case rel => exact ⟨k + 1, _, _, by omega, by go_num, I8.out⟩
          case measure => simp [intOf]; omega
        · have hfar : i < 0 ∨ (n : Int) ≤ i := by omega
          have S1 : Hid (∀ wx, Below W5.heap.size W5 wx → Calls Tryd.prog 13 #[.pointer (some ⟨sb, 0, none⟩), .int .i64 i, .int .u64 x] wx fun e w' => e = .returned (.iface 49 (.int .i64 7)) ∧ w' = wx) := fun wx h => set_far (P5.out.1.later h).st i hfar x
          have S2 : Hid (∀ wx, Calls Tryd.prog 20 #[.agg #[.slice (some ⟨kb, 0, none⟩) n n, .slice (some ⟨ib, 0, none⟩) n n], .int .i64 i, .int .u64 x] wx fun e w' => e = .returned (.agg #[.int .i64 7, .slice none 0 0]) ∧ Below wx.heap.size wx w') := fun wx => rset_far i hfar x wx
          have S3 : Hid (∀ wx, Below w0.heap.size w0 wx → Calls Tryd.prog 8 #[.iface 49 (.int .i64 7), .agg #[.int .i64 7, .slice none 0 0]] wx fun r w' => r = .returned (.bool true) ∧ Below wx.heap.size wx w') := fun wx h => seenE 7 (by omega) wx (HG.out wx h)
          have tok1 : True := trivial
          have tok2 : True := trivial
          have tok3 : True := trivial
          go_wp2_with fail
          go_region_held3 (fun w' => w'.cell? ⟨ob, 1, none⟩ = some (.int .i64 i) ∧ w'.cell? ⟨ob, 2, none⟩ = some (.int .u64 x) ∧ w'.cell? ⟨mb, 0, none⟩ = some (.slice (some ⟨kb, 0, none⟩) n n) ∧ w'.cell? ⟨mb, 1, none⟩ = some (.slice (some ⟨ib, 0, none⟩) n n)) (go_keep) (first
            | (go_at_call 13; have _t := tok1; clear _t tok1; refine (S1.out _ (Below.refl _ _).drew).mono ?_; rintro e w6 ⟨rfl, h6⟩; have I6 : Hid (Below W5.heap.size W5 w6) := (by rw [h6]; exact (Below.refl _ _).drew); obtain ⟨_, _, d1, d2, d3, d4⟩ := HF.out w6 (Fr.of_below I6.out); clear h6)
            | (go_at_call 20; have _t := tok2; clear _t tok2; refine (S2.out _).mono ?_; rintro e w7 ⟨rfl, h7⟩; have I7 : Hid (Below W5.heap.size W5 w7) := I6.out.trans (h7.mono I6.out.size); obtain ⟨_, _, f1, f2, f3, f4⟩ := HF.out w7 (Fr.of_below I7.out); clear h7)
            | (go_at_call 8; have _t := tok3; clear _t tok3; refine (S3.out _ (HB5.out.trans (I7.out.mono HB5.out.size))).mono ?_; rintro e w8 ⟨rfl, h8⟩; have I8 : Hid (PI w0 w8 sb pb kb ib mb n vs ls) := P5.out.1.later (I7.out.trans (h8.mono I7.out.size)); obtain ⟨_, _, t1, t2, t3, t4⟩ := HF.out w8 (Fr.of_below (I7.out.trans (h8.mono I7.out.size))); clear h8))
          go_wp2
          go_roundw
          case rel => exact ⟨k + 1, _, _, by omega, by go_num, I8.out⟩
          case measure => simp [intOf]; omega
      · by_cases hr : 0 ≤ i ∧ i < n
        · obtain ⟨i, rfl⟩ : ∃ q : Nat, i = q := ⟨i.toNat, by omega⟩
          have hvl : vs.length = n := P5.out.1.st.lt.2.2.2.1
          have hll : ls.length = n := P5.out.1.rm.ll
          obtain ⟨o, ho⟩ : ∃ o, vs[i]? = some o := ⟨vs[i]'(by omega), List.getElem?_eq_getElem _⟩
          obtain ⟨y, hy⟩ : ∃ y, ls[i]? = some y := ⟨ls[i]'(by omega), List.getElem?_eq_getElem _⟩
          have hb : (vs.map Option.isSome)[i]? = some o.isSome := by rw [List.getElem?_map, ho]; rfl
          have b2 : (0 : Int) ≤ (i : Int) := by omega
          cases o with
          | some z =>
            obtain rfl : y = z := by have := P5.out.1.vals i z ho; rw [hy] at this; exact Option.some.inj this
            have S1 : Hid (Calls Tryd.prog 12 #[.pointer (some ⟨sb, 0, none⟩), .int .i64 i] W5 fun e w' => e = .returned (.tuple #[.int .u64 y, .bool true]) ∧ Below W5.heap.size W5 w') := get_in P5.out.1.st i (some y) ho
            have S2 : Hid (∀ wx, Below W5.heap.size W5 wx → Calls Tryd.prog 21 #[.agg #[.slice (some ⟨kb, 0, none⟩) n n, .slice (some ⟨ib, 0, none⟩) n n], .int .i64 i] wx fun e w' => e = .returned (.tuple #[.int .u64 y, .bool true]) ∧ Below wx.heap.size wx w') := fun wx h => rget_in (P5.out.1.later h).rm i true y hb hy
            go_wp2_with fail
            refine S1.out.mono ?_
            rintro e w6 ⟨rfl, h6⟩
            have I6 : Hid (Below W5.heap.size W5 w6) := h6
            clear o0 o1 o2 m0 m1
            obtain ⟨_, _, d1, d2, d3, d4⟩ := HF.out w6 (Fr.of_below h6)
            clear h6
            go_wp2_with fail
            refine (S2.out _ I6.out).mono ?_
            rintro e w7 ⟨rfl, h7⟩
            have I7 : Hid (PI w0 w7 sb pb kb ib mb n vs ls) := P5.out.1.later (I6.out.trans (h7.mono I6.out.size))
            clear h7
            go_wp2
            go_roundw
            case rel => exact ⟨k + 1, _, _, by omega, by go_num, I7.out⟩
            case measure => simp [intOf]; omega
          | none =>
            have S1 : Hid (Calls Tryd.prog 12 #[.pointer (some ⟨sb, 0, none⟩), .int .i64 i] W5 fun e w' => e = .returned (.tuple #[.int .u64 0, .bool false]) ∧ Below W5.heap.size W5 w') := get_in P5.out.1.st i none ho
            have S2 : Hid (∀ wx, Below W5.heap.size W5 wx → Calls Tryd.prog 21 #[.agg #[.slice (some ⟨kb, 0, none⟩) n n, .slice (some ⟨ib, 0, none⟩) n n], .int .i64 i] wx fun e w' => e = .returned (.tuple #[.int .u64 0, .bool false]) ∧ Below wx.heap.size wx w') := fun wx h => rget_in (P5.out.1.later h).rm i false y hb hy
            go_wp2_with fail
            refine S1.out.mono ?_
            rintro e w6 ⟨rfl, h6⟩
            have I6 : Hid (Below W5.heap.size W5 w6) := h6
            clear o0 o1 o2 m0 m1
            obtain ⟨_, _, d1, d2, d3, d4⟩ := HF.out w6 (Fr.of_below h6)
            clear h6
            go_wp2_with fail
            refine (S2.out _ I6.out).mono ?_
            rintro e w7 ⟨rfl, h7⟩
            have I7 : Hid (PI w0 w7 sb pb kb ib mb n vs ls) := P5.out.1.later (I6.out.trans (h7.mono I6.out.size))
            clear h7
            go_wp2
            go_roundw
            case rel => exact ⟨k + 1, _, _, by omega, by go_num, I7.out⟩
            case measure => simp [intOf]; omega
        · have hfar : i < 0 ∨ (n : Int) ≤ i := by omega
          have S1 : Hid (Calls Tryd.prog 12 #[.pointer (some ⟨sb, 0, none⟩), .int .i64 i] W5 fun e w' => e = .returned (.tuple #[.int .u64 0, .bool false]) ∧ Below W5.heap.size W5 w') := (get_far P5.out.1.st i hfar).mono fun e w' ⟨he, hw⟩ => ⟨he, by rw [hw]; exact Below.refl _ _⟩
          have S2 : Hid (∀ wx, Below W5.heap.size W5 wx → Calls Tryd.prog 21 #[.agg #[.slice (some ⟨kb, 0, none⟩) n n, .slice (some ⟨ib, 0, none⟩) n n], .int .i64 i] wx fun e w' => e = .returned (.tuple #[.int .u64 0, .bool false]) ∧ Below wx.heap.size wx w') := fun wx _ => rget_far i hfar wx
          go_wp2_with fail
          refine S1.out.mono ?_
          rintro e w6 ⟨rfl, h6⟩
          have I6 : Hid (Below W5.heap.size W5 w6) := h6
          clear o0 o1 o2 m0 m1
          obtain ⟨_, _, d1, d2, d3, d4⟩ := HF.out w6 (Fr.of_below h6)
          clear h6
          go_wp2_with fail
          refine (S2.out _ I6.out).mono ?_
          rintro e w7 ⟨rfl, h7⟩
          have I7 : Hid (PI w0 w7 sb pb kb ib mb n vs ls) := P5.out.1.later (I6.out.trans (h7.mono I6.out.size))
          clear h7
          go_wp2
          go_roundw
          case rel => exact ⟨k + 1, _, _, by omega, by go_num, I7.out⟩
          case measure => simp [intOf]; omega
      · have S1 : Hid (type_of% (reset_calls P5.out.1.st)) := reset_calls P5.out.1.st
        go_wp2_with fail
        refine S1.out.mono ?_
        rintro e w6 ⟨rfl, h6⟩
        have I6 : Hid (IsStamp w6 sb pb n (List.replicate n none) ∧ Fr sb pb W5 w6) := h6
        clear o0 o1 o2 m0 m1
        obtain ⟨hR6, _, d1, d2, d3, d4⟩ := HF.out w6 h6.2
        have S2 : Hid (type_of% (rreset_calls hR6 hn)) := rreset_calls hR6 hn
        clear h6 hR6
        go_wp2_with fail
        refine S2.out.mono ?_
        rintro e w7 ⟨rfl, h7⟩
        have I7 : Hid (PI w0 w7 sb pb kb ib mb n (List.replicate n none) ls) := P5.out.1.pair I6.out (by rw [List.map_replicate]; exact h7) (fun j y hj => by rw [List.getElem?_replicate] at hj; split at hj <;> cases hj)
        clear h7
        go_wp2
        go_roundw
        case rel => exact ⟨k + 1, _, _, by omega, by go_num, I7.out⟩
        case measure => simp [intOf]; omega
      · have S1 : Hid (∀ wx, Below W5.heap.size W5 wx → Calls Tryd.prog 11 #[.pointer (some ⟨sb, 0, none⟩)] wx fun e w' => e = .returned (.int .i64 (cnt vs : Nat)) ∧ w' = wx) := fun wx h => len_calls (P5.out.1.later h).st
        have S2 : Hid (∀ wx, Below W5.heap.size W5 wx → Calls Tryd.prog 23 #[.agg #[.slice (some ⟨kb, 0, none⟩) n n, .slice (some ⟨ib, 0, none⟩) n n]] wx fun e w' => ∃ so sc, e = .returned (.slice so (cnt vs) sc) ∧ Below wx.heap.size wx w') := fun wx h => by
          refine (rall_calls (P5.out.1.later h).rm hn).mono ?_
          rintro e w' ⟨sv, rfl, hr, hb⟩
          rw [allB_cnt] at hr
          obtain ⟨so, sc, rfl⟩ := row_slice hr
          exact ⟨so, sc, rfl, hb⟩
        have tok1 : True := trivial
        have tok2 : True := trivial
        have tok3 : True := trivial
        go_wp2_with fail
        go_region_held3 (fun w' => w'.cell? ⟨mb, 0, none⟩ = some (.slice (some ⟨kb, 0, none⟩) n n) ∧ w'.cell? ⟨mb, 1, none⟩ = some (.slice (some ⟨ib, 0, none⟩) n n)) (go_keep) (first
          | (go_at_call 11; have _t := tok1; clear _t tok1; refine (S1.out _ (Below.refl _ _).drew).mono ?_; rintro e w6 ⟨rfl, h6⟩; have I6 : Hid (Below W5.heap.size W5 w6) := (by rw [h6]; exact (Below.refl _ _).drew); obtain ⟨_, _, d1, d2, d3, d4⟩ := HF.out w6 (Fr.of_below I6.out); clear h6)
          | (go_at_call 23; have _t := tok2; clear _t tok2; refine (S2.out _ I6.out).mono ?_; rintro e w7 ⟨ro, rc, rfl, h7⟩; have I7 : Hid (Below W5.heap.size W5 w7) := I6.out.trans (h7.mono I6.out.size); obtain ⟨_, _, f1, f2, f3, f4⟩ := HF.out w7 (Fr.of_below I7.out); clear h7))
        have I8 : Hid (PI w0 w7 sb pb kb ib mb n vs ls) := P5.out.1.later I7.out
        go_wp2
        go_roundw
        case rel => exact ⟨k + 1, _, _, by omega, by go_num, I8.out⟩
        case measure => simp [intOf]; omega
      · obtain ⟨A, hA⟩ : ∃ A, allB 0 (vs.map Option.isSome) = A := ⟨_, rfl⟩
        have hAl : A.length ≤ 65536 := by have h1 := allB_len 0 (vs.map Option.isSome); rw [hA, P5.out.1.rm.il] at h1; omega
        have HA : Hid (allB 0 (vs.map Option.isSome) = A) := hA
        clear hA
        have S1 : Hid (∀ wx, Below W5.heap.size W5 wx → Calls Tryd.prog 17 #[.pointer (some ⟨sb, 0, none⟩)] wx fun e w' => ∃ so sc, e = .returned (.slice so A.length sc) ∧ HasInts w' (.slice so A.length sc) A ∧ Below wx.heap.size wx w') := fun wx h => by
          refine (all_calls (P5.out.1.later h).st).mono ?_
          rintro e w' ⟨sv, rfl, hr, hb⟩
          rw [HA.out] at hr
          obtain ⟨so, sc, rfl⟩ := row_slice hr
          exact ⟨so, sc, rfl, ints_of_row hr, hb⟩
        have S2 : Hid (∀ wx, Below W5.heap.size W5 wx → Calls Tryd.prog 23 #[.agg #[.slice (some ⟨kb, 0, none⟩) n n, .slice (some ⟨ib, 0, none⟩) n n]] wx fun e w' => ∃ so sc, e = .returned (.slice so A.length sc) ∧ HasInts w' (.slice so A.length sc) A ∧ Below wx.heap.size wx w') := fun wx h => by
          refine (rall_calls (P5.out.1.later h).rm hn).mono ?_
          rintro e w' ⟨sv, rfl, hr, hb⟩
          rw [HA.out] at hr
          obtain ⟨so, sc, rfl⟩ := row_slice hr
          exact ⟨so, sc, rfl, ints_of_row hr, hb⟩
        have S3 : Hid (∀ wx av bv, HasInts wx av A → HasInts wx bv A → Calls Tryd.prog 16 #[av, bv] wx fun e w' => e = .returned (.bool true) ∧ Below wx.heap.size wx w') := fun wx av bv h1 h2 => sameInts_yes av bv A wx h1 h2 (by unfold maxLen; omega)
        have tok1 : True := trivial
        have tok2 : True := trivial
        have tok3 : True := trivial
        go_wp2_with fail
        go_region_held3 (fun w' => w'.cell? ⟨mb, 0, none⟩ = some (.slice (some ⟨kb, 0, none⟩) n n) ∧ w'.cell? ⟨mb, 1, none⟩ = some (.slice (some ⟨ib, 0, none⟩) n n)) (go_keep) (first
          | (go_at_call 17; have _t := tok1; clear _t tok1; refine (S1.out _ (Below.refl _ _).drew).mono ?_; rintro e w6 ⟨po, pc, rfl, hp6, h6⟩; have I6 : Hid (Below W5.heap.size W5 w6 ∧ HasInts w6 (.slice po A.length pc) A) := ⟨(Below.refl _ _).drew.trans h6, hp6⟩; obtain ⟨_, _, d1, d2, d3, d4⟩ := HF.out w6 (Fr.of_below I6.out.1); clear h6 hp6)
          | (go_at_call 23; have _t := tok2; clear _t tok2; refine (S2.out _ I6.out.1).mono ?_; rintro e w7 ⟨ro, rc, rfl, hr7, h7⟩; have I7 : Hid (Below W5.heap.size W5 w7 ∧ HasInts w7 (.slice po A.length pc) A ∧ HasInts w7 (.slice ro A.length rc) A) := ⟨I6.out.1.trans (h7.mono I6.out.1.size), I6.out.2.keep h7, hr7⟩; obtain ⟨_, _, f1, f2, f3, f4⟩ := HF.out w7 (Fr.of_below I7.out.1); clear h7 hr7)
          | (go_at_call 16; have _t := tok3; clear _t tok3; refine (S3.out _ _ _ I7.out.2.1 I7.out.2.2).mono ?_; rintro e w8 ⟨rfl, h8⟩; have I8 : Hid (PI w0 w8 sb pb kb ib mb n vs ls) := P5.out.1.later (I7.out.1.trans (h8.mono I7.out.1.size)); obtain ⟨_, _, t1, t2, t3, t4⟩ := HF.out w8 (Fr.of_below (I7.out.1.trans (h8.mono I7.out.1.size))); clear h8))
        go_wp2
        go_roundw
        case rel => exact ⟨k + 1, _, _, by omega, by go_num, I8.out⟩
        case measure => simp [intOf]; omega
      · have g1 : (kd == 1) = false := by simpa using hk1
        have g2 : (kd == 2) = false := by simpa using hk2
        have g3 : (kd == 3) = false := by simpa using hk3
        have g4 : (kd == 4) = false := by simpa using hk4
        have g5 : (kd == 5) = false := by simpa using hk5
        go_wp2
        go_roundw
        case rel => exact ⟨k + 1, _, _, by omega, by go_num, P5.out.1⟩
        case measure => simp [intOf]; omega
    · obtain rfl : k = m := by omega
      go_wp2
      go_ret
      exact ⟨rfl, HI.out.below⟩
end Go.Proofs.YtlgdhoemjllfdaaDoor
