/- The closed law FaultFixed, walked. -/
import Derived.Test.YtkmbffdjgpjojabDoorSame
import Derived.Test.YtkmbffdjgpjojabDoorFirst
import Derived.Test.YtkmbffdjgpjojabDoorHas
import Derived.Test.YtkmbffdjgpjojabDoorGen
import Derived.Test.YtkmbffdjgpjojabDoorAwake
namespace Go.Proofs.YtkmbffdjgpjojabDoor
open Go.RowKit Go.Extern

attribute [local go_sem] Oper.semAt_some

theorem first_three (w : World) : Calls Tryd.prog 10 #[.slice (some ⟨w.heap.size, 0, none⟩) 3 3] (w.alloc (.cells #[.nilIface, .iface 27 (.int .i64 2), .iface 27 (.int .i64 1)] 24)) fun e w' => e = .returned (.iface 27 (.int .i64 2)) ∧ Below w.heap.size w w' := by
  refine (first_calls w.heap.size 3 [.nilIface, .iface 27 (.int .i64 2), .iface 27 (.int .i64 1)] _ (by simp) (by simp) (fun j v h => ?_)).mono ?_
  · simp only [World.cell?, heap_new]
    rw [← h]; simp
  · rintro e w' ⟨rfl, rfl⟩
    exact ⟨rfl, (Below.refl _ _).alloc (Nat.le_refl _) _⟩
theorem Tryd.ne22 (w : World) : (binOp .neq 24 (.iface 27 (.int .i64 2)) (.iface 27 (.int .i64 2))).run Tryd.prog w = .ok (.bool false) w := by kernel_rfl
theorem itoa4n : Lib.itoa (-4) = [45, 52] := by simp [Lib.itoa, Lib.decDigits]

/-- what the calls of the law answer, wherever they stand. -/
theorem text_num18 (w : World) (hg : HasType w) (hp : HasPow w) : Calls Tryd.prog 7 #[.iface 27 (.int .i64 18)] w fun e w' => e = .returned (.string ⟨#[110, 111, 32, 109, 111, 114, 101, 32, 114, 111, 111, 109]⟩) ∧ Below w.heap.size w w' := by
  have h := text_gen (tv := .iface 27 (.int .i64 18)) (Or.inr (Or.inl ⟨_, rfl⟩)) [] _ w rfl hg hp (by simp) (by simp [cutTail, codeOf, strip, in64])
  have e : Lib.join ((([] : List (Int × Int)).take 64).map wordOf ++ (if codeOf (cutTail (strip (.iface 27 (.int .i64 18))) [] 64) = 0 then [] else [numText (codeOf (cutTail (strip (.iface 27 (.int .i64 18))) [] 64))])) [58, 32] = [110, 111, 32, 109, 111, 114, 101, 32, 114, 111, 111, 109] := by
    simp [cutTail, codeOf, strip, numText, numWords, Lib.join, List.intercalate]
  rw [e] at h
  exact h
theorem text_nought {tv : Value} (h3 : Tail3 tv) (hc : codeOf (strip tv) = 0) (w : World) (hg : HasType w) (hp : HasPow w) : Calls Tryd.prog 7 #[tv] w fun e w' => e = .returned (.string ⟨#[]⟩) ∧ Below w.heap.size w w' := by
  have hc' : codeOf (cutTail (strip tv) [] 64) = 0 := by simp [cutTail, hc]
  have h := text_gen h3 [] _ w rfl hg hp (by simp) (by rw [hc']; simp [in64])
  have e : Lib.join ((([] : List (Int × Int)).take 64).map wordOf ++ (if codeOf (cutTail (strip tv) [] 64) = 0 then [] else [numText (codeOf (cutTail (strip tv) [] 64))])) [58, 32] = [] := by
    rw [hc']; simp [Lib.join, List.intercalate]
  rw [e] at h
  exact h
theorem code_nought {tv : Value} (h3 : Tail3 tv) (hc : codeOf (strip tv) = 0) (w : World) (hg : HasType w) : Calls Tryd.prog 8 #[tv] w fun e w' => e = .returned (.int .i64 0) ∧ Below w.heap.size w w' := by
  have h := code_gen [] h3 tv w rfl hg
  have hc' : codeOf (cutTail (strip tv) [] 64) = 0 := by simp [cutTail, hc]
  rw [hc'] at h
  exact h
theorem text_place (x v : Value) (w : World) (hv : IsErr w (.iface 46 x) [(9, -4)] v) (hg : HasType w) (hp : HasPow w) : Calls Tryd.prog 7 #[v] w fun e w' => e = .returned (.string ⟨#[112, 108, 97, 99, 101, 32, 45, 52]⟩) ∧ Below w.heap.size w w' := by
  have h := text_gen (Or.inr (Or.inr (Or.inl ⟨x, rfl⟩))) [(9, -4)] v w hv hg hp (by simp [in64]) (by simp [cutTail, codeOf, strip, in64])
  have e : Lib.join ((([(9, -4)] : List (Int × Int)).take 64).map wordOf ++ (if codeOf (cutTail (strip (.iface 46 x)) [(9, -4)] 64) = 0 then [] else [numText (codeOf (cutTail (strip (.iface 46 x)) [(9, -4)] 64))])) [58, 32] = [112, 108, 97, 99, 101, 32, 45, 52] := by
    simp [cutTail, codeOf, strip, wordOf, kindBytes, itoa4n, Lib.join, List.intercalate]
  rw [e] at h
  exact h
theorem places_len {tv : Value} (h3 : Tail3 tv) (ps : List (Int × Int)) (v : Value) (w : World) (hv : IsErr w tv ps v) (hg : HasType w) : Calls Tryd.prog 13 #[v] w fun e w' => ∃ po cap, e = .returned (.slice po (ps.take 64).length cap) ∧ Below w.heap.size w w' := by
  refine (places_gen h3 ps v w hv hg).mono ?_
  rintro e w' ⟨pl, rfl, hr, hb⟩
  obtain ⟨po, cap, rfl⟩ := row_slice hr
  exact ⟨po, cap, rfl, hb⟩
theorem same_num (v : Value) (w : World) (hv : IsErr w (.iface 27 (.int .i64 2)) [(2, 0)] v) (hg : HasType w) : Calls Tryd.prog 11 #[.iface 27 (.int .i64 2), v] w fun e w' => e = .returned (.bool false) ∧ Below w.heap.size w w' := by
  have h := same_calls (ta := .iface 27 (.int .i64 2)) (Or.inr (Or.inl ⟨_, rfl⟩)) (Or.inr (Or.inl ⟨_, rfl⟩)) [] [(2, 0)] _ v w rfl hv hg
  have e : bothB (codeOf (cutTail (strip (.iface 27 (.int .i64 2))) [] 64)) (codeOf (cutTail (strip (.iface 27 (.int .i64 2))) [(2, 0)] 64)) (([] : List (Int × Int)).take 64) (([(2, 0)] : List (Int × Int)).take 64) = false := by
    simp [bothB, sameB]
  rw [e] at h
  exact h
theorem same_none (x : Value) (w : World) (hg : HasType w) : Calls Tryd.prog 11 #[.nilIface, .iface 46 x] w fun e w' => e = .returned (.bool true) ∧ Below w.heap.size w w' := by
  have h := same_calls (ta := .nilIface) (tb := .iface 46 x) (Or.inl rfl) (Or.inr (Or.inr (Or.inl ⟨_, rfl⟩))) [] [] _ _ w rfl rfl hg
  have e : bothB (codeOf (cutTail (strip .nilIface) [] 64)) (codeOf (cutTail (strip (.iface 46 x)) [] 64)) (([] : List (Int × Int)).take 64) (([] : List (Int × Int)).take 64) = true := by
    simp [bothB, sameB, cutTail, strip]
  rw [e] at h
  exact h
theorem has_77 (v : Value) (w : World) (hv : IsErr w (.iface 27 (.int .i64 77)) [(2, 1)] v) : Calls Tryd.prog 12 #[v, .int .i64 77] w fun e w' => e = .returned (.bool true) ∧ Below w.heap.size w w' := by
  have h := has_calls [(2, 1)] (Or.inr (Or.inl ⟨_, rfl⟩)) v 77 w hv
  have e : hasNum (cutTail (strip (.iface 27 (.int .i64 77))) [(2, 1)] 64) 77 = true := by simp [hasNum, cutTail, strip]
  rw [e] at h
  exact h
theorem has_none (w : World) : Calls Tryd.prog 12 #[.nilIface, .int .i64 0] w fun e w' => e = .returned (.bool false) ∧ Below w.heap.size w w' := by
  have h := has_calls [] (Or.inl rfl) .nilIface 0 w rfl
  have e : hasNum (cutTail (strip .nilIface) [] 64) 0 = false := by simp [hasNum, cutTail, strip]
  rw [e] at h
  exact h
theorem shift_none (w : World) (hg : HasType w) : Calls Tryd.prog 14 #[.iface 34 (.pointer none), .int .i64 1, .int .i64 1] w fun e w' => e = .returned .nilIface ∧ Below w.heap.size w w' := by
  refine (shift_calls (tv := .iface 34 (.pointer none)) (Or.inr (Or.inr (Or.inr rfl))) [] _ 1 1 w rfl hg).mono ?_
  rintro e w' ⟨v', rfl, he, hb⟩
  have e : codeOf (cutTail (strip (.iface 34 (.pointer none))) [] 64) = 0 := by simp [cutTail, strip, codeOf]
  rw [e] at he
  obtain rfl : v' = numTail 0 := he
  exact ⟨rfl, hb⟩
/-- the places of a chain of k links. -/
def deepList : Nat → List (Int × Int)
  | 0 => []
  | k + 1 => (2, (k : Int)) :: deepList k
theorem deep_length : ∀ k, (deepList k).length = k
  | 0 => rfl
  | k + 1 => by simp [deepList, deep_length k]
def deepCode (k : Nat) : Int := if k < 64 then 13 else 0
theorem code_deep (k : Nat) (v : Value) (w : World) (hv : IsErr w (.iface 27 (.int .i64 13)) (deepList k) v) (hg : HasType w) : Calls Tryd.prog 8 #[v] w fun e w' => e = .returned (.int .i64 (deepCode k)) ∧ Below w.heap.size w w' := by
  have h := code_gen (deepList k) (Or.inr (Or.inl ⟨_, rfl⟩)) v w hv hg
  have e : codeOf (cutTail (strip (.iface 27 (.int .i64 13))) (deepList k) 64) = deepCode k := by
    unfold cutTail deepCode
    rw [deep_length]
    split <;> rfl
  rw [e] at h
  exact h
theorem places_deep (k : Nat) (v : Value) (w : World) (hv : IsErr w (.iface 27 (.int .i64 13)) (deepList k) v) (hg : HasType w) : Calls Tryd.prog 13 #[v] w fun e w' => ∃ po cap, e = .returned (.slice po (min k 64) cap) ∧ Below w.heap.size w w' := by
  refine (places_len (Or.inr (Or.inl ⟨_, rfl⟩)) (deepList k) v w hv hg).mono ?_
  rintro e w' ⟨po, cap, rfl, hb⟩
  rw [List.length_take, deep_length, Nat.min_comm]
  exact ⟨po, cap, rfl, hb⟩

set_option maxRecDepth 100000 in
set_option maxHeartbeats 40000000 in
theorem fixed_calls (w : World) (hg : HasType w) (hpow : HasPow w) :
    Calls Tryd.prog 3 #[] w fun e w' => e = .returned (.bool true) ∧ Below w.heap.size w w' := by
  have HK : Hid (∀ wx, Below w.heap.size w wx → HasType wx ∧ HasPow wx) := fun wx h => ⟨hg.keep h hg.pos, hpow.keep h⟩
  have HAW : Hid (Calls Tryd.prog 5 #[] w fun e w' => e = .returned (.bool true) ∧ Below w.heap.size w w') := awake_calls w hg hpow
  clear hg hpow
  go_enter Tryd.func3, Tryd.ntmps3
  go_wp2_with fail
  refine (HAW.out).mono ?_
  rintro e w1 ⟨rfl, hb⟩
  have HB1 : Hid (Below w.heap.size w w1) := hb
  clear hb
  go_wp2_with fail
  refine (new_calls _ w1).mono ?_
  rintro e w2 ⟨rfl, hb⟩
  have HB2 : Hid (Below w.heap.size w w2) := HB1.out.trans (hb.mono HB1.out.size)
  clear hb
  go_wp2_with fail
  refine (text_num18 w2 (HK.out _ HB2.out).1 (HK.out _ HB2.out).2).mono ?_
  rintro e w3 ⟨rfl, hb⟩
  have HB3 : Hid (Below w.heap.size w w3) := HB2.out.trans (hb.mono HB2.out.size)
  clear hb
  go_wp2_with fail
  refine (text_nought (Or.inr (Or.inr (Or.inl ⟨_, rfl⟩))) rfl w3 (HK.out _ HB3.out).1 (HK.out _ HB3.out).2).mono ?_
  rintro e w4 ⟨rfl, hb⟩
  have HB4 : Hid (Below w.heap.size w w4) := HB3.out.trans (hb.mono HB3.out.size)
  clear hb
  go_wp2_with fail
  refine (text_nought (Or.inl rfl) rfl w4 (HK.out _ HB4.out).1 (HK.out _ HB4.out).2).mono ?_
  rintro e w5 ⟨rfl, hb⟩
  have HB5 : Hid (Below w.heap.size w w5) := HB4.out.trans (hb.mono HB4.out.size)
  clear hb
  go_wp2_with fail
  refine (code_nought (Or.inr (Or.inr (Or.inl ⟨_, rfl⟩))) rfl w5 (HK.out _ HB5.out).1).mono ?_
  rintro e w6 ⟨rfl, hb⟩
  have HB6 : Hid (Below w.heap.size w w6) := HB5.out.trans (hb.mono HB5.out.size)
  clear hb
  go_wp2_with fail
  refine (code_nought (Or.inl rfl) rfl w6 (HK.out _ HB6.out).1).mono ?_
  rintro e w7 ⟨rfl, hb⟩
  have HB7 : Hid (Below w.heap.size w w7) := HB6.out.trans (hb.mono HB6.out.size)
  clear hb
  go_wp2_with fail
  refine (at_some 9 (-4) 46 _ w7).mono ?_
  rintro e w8 ⟨rfl, hw⟩
  have HE8 : Hid (IsErr w8 (.iface 46 (.pointer (some ⟨w1.heap.size, 0, none⟩))) [(9, -4)] (.iface 34 (.pointer (some ⟨w7.heap.size, 0, none⟩)))) := by
    subst hw
    exact isErr_new (p := (9, -4)) (show IsErr w7 (.iface 46 (.pointer (some ⟨w1.heap.size, 0, none⟩))) [] (.iface 46 (.pointer (some ⟨w1.heap.size, 0, none⟩))) from rfl)
  have HB8 : Hid (Below w.heap.size w w8) := by subst hw; exact HB7.out.alloc HB7.out.size _
  clear hw
  go_wp2_with fail
  refine (text_place _ _ w8 HE8.out (HK.out _ HB8.out).1 (HK.out _ HB8.out).2).mono ?_
  rintro e w9 ⟨rfl, hb⟩
  have HB9 : Hid (Below w.heap.size w w9) := HB8.out.trans (hb.mono HB8.out.size)
  clear hb
  go_wp2_with fail
  refine (at_nil _ _ _).mono ?_
  rintro e w' ⟨rfl, hw⟩
  replace hw := hw.symm
  subst hw
  have hq := Tryd.ne22
  go_wp2_with fail
  refine (first_three w9).mono ?_
  rintro e w10 ⟨rfl, hb⟩
  have HB10 : Hid (Below w.heap.size w w10) := HB9.out.trans (hb.mono HB9.out.size)
  clear hb
  go_wp2_with fail
  refine (first_none _).mono ?_
  rintro e w' ⟨rfl, hw⟩
  replace hw := hw.symm
  subst hw
  go_wp2_with fail
  refine (at_some 2 0 27 _ w10).mono ?_
  rintro e w11 ⟨rfl, hw⟩
  have HE11 : Hid (IsErr w11 (.iface 27 (.int .i64 2)) [(2, 0)] (.iface 34 (.pointer (some ⟨w10.heap.size, 0, none⟩)))) := by
    subst hw
    exact isErr_new (p := (2, 0)) (show IsErr w10 (.iface 27 (.int .i64 2)) [] (.iface 27 (.int .i64 2)) from rfl)
  have HB11 : Hid (Below w.heap.size w w11) := by subst hw; exact HB10.out.alloc HB10.out.size _
  clear hw
  go_wp2_with fail
  refine (same_num _ w11 HE11.out (HK.out _ HB11.out).1).mono ?_
  rintro e w12 ⟨rfl, hb⟩
  have HB12 : Hid (Below w.heap.size w w12) := HB11.out.trans (hb.mono HB11.out.size)
  clear hb
  go_wp2_with fail
  refine (same_none _ w12 (HK.out _ HB12.out).1).mono ?_
  rintro e w13 ⟨rfl, hb⟩
  have HB13 : Hid (Below w.heap.size w w13) := HB12.out.trans (hb.mono HB12.out.size)
  clear hb
  go_wp2_with fail
  refine (at_some 2 1 27 _ w13).mono ?_
  rintro e w14 ⟨rfl, hw⟩
  have HE14 : Hid (IsErr w14 (.iface 27 (.int .i64 77)) [(2, 1)] (.iface 34 (.pointer (some ⟨w13.heap.size, 0, none⟩)))) := by
    subst hw
    exact isErr_new (p := (2, 1)) (show IsErr w13 (.iface 27 (.int .i64 77)) [] (.iface 27 (.int .i64 77)) from rfl)
  have HB14 : Hid (Below w.heap.size w w14) := by subst hw; exact HB13.out.alloc HB13.out.size _
  clear hw
  go_wp2_with fail
  refine (has_77 _ w14 HE14.out).mono ?_
  rintro e w15 ⟨rfl, hb⟩
  have HB15 : Hid (Below w.heap.size w w15) := HB14.out.trans (hb.mono HB14.out.size)
  clear hb
  go_wp2_with fail
  refine (has_none w15).mono ?_
  rintro e w16 ⟨rfl, hb⟩
  have HB16 : Hid (Below w.heap.size w w16) := HB15.out.trans (hb.mono HB15.out.size)
  clear hb
  go_wp2_with fail
  refine (places_len (Or.inr (Or.inr (Or.inr rfl))) [] _ w16 rfl (HK.out _ HB16.out).1).mono ?_
  rintro e w17 ⟨po, pc, rfl, hb⟩
  have HB17 : Hid (Below w.heap.size w w17) := HB16.out.trans (hb.mono HB16.out.size)
  clear hb
  go_wp2_with fail
  refine (code_nought (Or.inr (Or.inr (Or.inr rfl))) rfl w17 (HK.out _ HB17.out).1).mono ?_
  rintro e w18 ⟨rfl, hb⟩
  have HB18 : Hid (Below w.heap.size w w18) := HB17.out.trans (hb.mono HB17.out.size)
  clear hb
  go_wp2_with fail
  refine (shift_none w18 (HK.out _ HB18.out).1).mono ?_
  rintro e w19 ⟨rfl, hb⟩
  have HB19 : Hid (Below w.heap.size w w19) := HB18.out.trans (hb.mono HB18.out.size)
  clear hb
  go_wp2_with fail
  refine (at_some 1 1 34 _ w19).mono ?_
  rintro e w20 ⟨rfl, hw⟩
  have HE20 : Hid (IsErr w20 (.iface 34 (.pointer none)) [(1, 1)] (.iface 34 (.pointer (some ⟨w19.heap.size, 0, none⟩)))) := by
    subst hw
    exact isErr_new (p := (1, 1)) (show IsErr w19 (.iface 34 (.pointer none)) [] (.iface 34 (.pointer none)) from rfl)
  have HB20 : Hid (Below w.heap.size w w20) := by subst hw; exact HB19.out.alloc HB19.out.size _
  clear hw
  go_wp2_with fail
  refine (places_len (Or.inr (Or.inr (Or.inr rfl))) _ _ w20 HE20.out (HK.out _ HB20.out).1).mono ?_
  rintro e w21 ⟨qo, qc, rfl, hb⟩
  have HB21 : Hid (Below w.heap.size w w21) := HB20.out.trans (hb.mono HB20.out.size)
  clear hb
  go_wp2_with fail
  go_loopw [3, 102] (fun dv iv wr => ∃ k : Nat, k ≤ 65 ∧ iv = .int .i64 k ∧ IsErr wr (.iface 27 (.int .i64 13)) (deepList k) dv ∧ Below w.heap.size w wr) (fun _ iv _ => 65 - (intOf iv).toNat)
  case atStart => exact ⟨0, by omega, rfl, rfl, HB21.out⟩
  case round =>
    obtain ⟨k, hk, rfl, he, hbr⟩ := hrel
    have HBR : Hid (Below w.heap.size w wr) := hbr
    have HER : Hid (IsErr wr (.iface 27 (.int .i64 13)) (deepList k) u3) := he
    clear he hbr
    by_cases hlt : k < 65
    · obtain ⟨T, x, hx⟩ : ∃ T x, u3 = .iface T x := by
        have h := HER.out
        cases k with
        | zero => exact ⟨_, _, h⟩
        | succ k => obtain ⟨b, u, e, _⟩ := h; exact ⟨_, _, e⟩
      subst hx
      go_wp2_with fail
      refine (at_some 2 k T x wr).mono ?_
      rintro e wa ⟨rfl, hw⟩
      have HEA : Hid (IsErr wa (.iface 27 (.int .i64 13)) (deepList (k + 1)) (.iface 34 (.pointer (some ⟨wr.heap.size, 0, none⟩)))) := by
        subst hw
        exact isErr_new (p := (2, (k : Int))) HER.out
      have HBA : Hid (Below w.heap.size w wa) := by subst hw; exact HBR.out.alloc HBR.out.size _
      clear hw
      by_cases h64 : k + 1 < 64
      · have hdc : deepCode (k + 1) = 13 := by rw [deepCode, if_pos h64]
        have hmn : min (k + 1) 64 = k + 1 := by omega
        have HCD : Hid (Calls Tryd.prog 8 #[.iface 34 (.pointer (some ⟨wr.heap.size, 0, none⟩))] wa fun e w' => e = .returned (.int .i64 13) ∧ Below wa.heap.size wa w') := by
          have h := code_deep (k + 1) _ wa HEA.out (HK.out _ HBA.out).1
          rw [hdc] at h
          exact h
        have HPD : Hid (∀ wx, Below wa.heap.size wa wx → Calls Tryd.prog 13 #[.iface 34 (.pointer (some ⟨wr.heap.size, 0, none⟩))] wx fun e w' => ∃ po cap, e = .returned (.slice po (k + 1) cap) ∧ Below wx.heap.size wx w') := fun wx hb => by
          have h := places_deep (k + 1) _ wx (HEA.out.keep (Below.keeps hb)) (HK.out _ (HBA.out.trans (hb.mono HBA.out.size))).1
          rw [hmn] at h
          exact h
        clear hdc hmn
        have h64' : ¬ (64 : Int) ≤ (k : Int) + 1 := by omega
        go_wp2_with fail
        refine HCD.out.mono ?_
        rintro e wb ⟨rfl, hb⟩
        have HPE : Hid (Calls Tryd.prog 13 #[.iface 34 (.pointer (some ⟨wr.heap.size, 0, none⟩))] wb fun e w' => ∃ po cap, e = .returned (.slice po (k + 1) cap) ∧ Below wb.heap.size wb w') := HPD.out wb hb
        have HBB : Hid (Below w.heap.size w wb) := HBA.out.trans (hb.mono HBA.out.size)
        have HEB : Hid (IsErr wb (.iface 27 (.int .i64 13)) (deepList (k + 1)) (.iface 34 (.pointer (some ⟨wr.heap.size, 0, none⟩)))) := HEA.out.keep (Below.keeps hb)
        clear hb
        go_wp2_with fail
        refine HPE.out.mono ?_
        rintro e wd ⟨po', pc', rfl, hb⟩
        have HBD : Hid (Below w.heap.size w wd) := HBB.out.trans (hb.mono HBB.out.size)
        have HED : Hid (IsErr wd (.iface 27 (.int .i64 13)) (deepList (k + 1)) (.iface 34 (.pointer (some ⟨wr.heap.size, 0, none⟩)))) := HEB.out.keep (Below.keeps hb)
        clear hb
        have hmi : min ((k : Int) + 1) 64 = (k : Int) + 1 := by omega
        go_wp2
        go_roundw
        case rel => exact ⟨k + 1, by omega, by go_num, HED.out, HBD.out⟩
        case measure => simp [intOf]; omega
      · have hdc : deepCode (k + 1) = 0 := by rw [deepCode, if_neg h64]
        have hmn : min (k + 1) 64 = 64 := by omega
        have HCD : Hid (Calls Tryd.prog 8 #[.iface 34 (.pointer (some ⟨wr.heap.size, 0, none⟩))] wa fun e w' => e = .returned (.int .i64 0) ∧ Below wa.heap.size wa w') := by
          have h := code_deep (k + 1) _ wa HEA.out (HK.out _ HBA.out).1
          rw [hdc] at h
          exact h
        have HPD : Hid (∀ wx, Below wa.heap.size wa wx → Calls Tryd.prog 13 #[.iface 34 (.pointer (some ⟨wr.heap.size, 0, none⟩))] wx fun e w' => ∃ po cap, e = .returned (.slice po 64 cap) ∧ Below wx.heap.size wx w') := fun wx hb => by
          have h := places_deep (k + 1) _ wx (HEA.out.keep (Below.keeps hb)) (HK.out _ (HBA.out.trans (hb.mono HBA.out.size))).1
          rw [hmn] at h
          exact h
        clear hdc hmn
        have h64' : (64 : Int) ≤ (k : Int) + 1 := by omega
        go_wp2_with fail
        refine HCD.out.mono ?_
        rintro e wb ⟨rfl, hb⟩
        have HPE : Hid (Calls Tryd.prog 13 #[.iface 34 (.pointer (some ⟨wr.heap.size, 0, none⟩))] wb fun e w' => ∃ po cap, e = .returned (.slice po 64 cap) ∧ Below wb.heap.size wb w') := HPD.out wb hb
        have HBB : Hid (Below w.heap.size w wb) := HBA.out.trans (hb.mono HBA.out.size)
        have HEB : Hid (IsErr wb (.iface 27 (.int .i64 13)) (deepList (k + 1)) (.iface 34 (.pointer (some ⟨wr.heap.size, 0, none⟩)))) := HEA.out.keep (Below.keeps hb)
        clear hb
        go_wp2_with fail
        refine HPE.out.mono ?_
        rintro e wd ⟨po', pc', rfl, hb⟩
        have HBD : Hid (Below w.heap.size w wd) := HBB.out.trans (hb.mono HBB.out.size)
        have HED : Hid (IsErr wd (.iface 27 (.int .i64 13)) (deepList (k + 1)) (.iface 34 (.pointer (some ⟨wr.heap.size, 0, none⟩)))) := HEB.out.keep (Below.keeps hb)
        clear hb
        have hmi : min ((k : Int) + 1) 64 = 64 := by omega
        go_wp2
        go_roundw
        case rel => exact ⟨k + 1, by omega, by go_num, HED.out, HBD.out⟩
        case measure => simp [intOf]; omega
    · obtain rfl : k = 65 := by omega
      go_wp2
      go_ret
      exact ⟨rfl, HBR.out⟩
end Go.Proofs.YtkmbffdjgpjojabDoor
