/- The law HeapFixed, walked: the document's examples; nil; the limits. -/
import Derived.Test.YtkeniogcjhmikaaDoorFar
import Derived.Test.YtkeniogcjhmikaaDoorAwake
import Derived.Test.YtkeniogcjhmikaaDoorSeen
namespace Go.Proofs.YtkeniogcjhmikaaDoor
open Go.RowKit

attribute [local go_sem] Oper.semAt_some

theorem E_calls (n : Int) (w : World) : Calls Tryd.prog 18 #[.int .i64 n] w fun e w' => e = .returned (.agg #[.int .i64 n, .slice none 0 0]) ∧ Below w.heap.size w w' := by
  go_enter Tryd.func18, Tryd.ntmps18
  go_wp2
  refine bodyPost_ret (v := .agg #[.int .i64 n, .slice none 0 0]) (by simp [results, Tryd.results18, go_sem]) rfl ⟨rfl, (Below.refl _ _).alloc (Nat.le_refl _) _⟩
/-- an error that is a number, seen. -/
theorem seenE (c : Int) (hc : c ≠ 0) (w : World) (hg : HasType w) : Calls Tryd.prog 9 #[.iface 55 (.int .i64 c), .agg #[.int .i64 c, .slice none 0 0]] w fun r w' => r = .returned (.bool true) ∧ Below w.heap.size w w' :=
  seen_told (c, []) (.iface 55 (.int .i64 c)) none 0 w (Or.inr ⟨hc, rfl⟩) ⟨none, 0, rfl, fun j p hj => by simp at hj⟩ (Nat.zero_le _) hg

/-- the greatest heap. -/
theorem new_great (w : World) : Calls Tryd.prog 7 #[.int .i64 65536] w fun e w' => e = .returned (.tuple #[.pointer (some ⟨w.heap.size + 1, 0, none⟩), .nilIface]) ∧ IsHeap w' (w.heap.size + 1) w.heap.size 65536 (.slice none 0 0) (fun _ => none) ∧ Below w.heap.size w w' := new_calls 65536 (Nat.le_refl _) w
def g1 : Int → Option Int := upd (fun _ => none) ((65535 : Nat) : Int) (some 7)
theorem push_great {w : World} {hb wb : Nat} {sv : Value} (h : IsHeap w hb wb 65536 sv (fun _ => none)) : Calls Tryd.prog 17 #[.pointer (some ⟨hb, 0, none⟩), .int .u32 65535, .int .u64 7] w fun e w' => e = .returned .nilIface ∧ ∃ sv', IsHeap w' hb wb 65536 sv' g1 ∧ Fr hb wb sv sv' w w' := push_out h 65535 (by omega) 7 rfl
theorem pop_great {w : World} {hb wb : Nat} {sv : Value} (h : IsHeap w hb wb 65536 sv g1) : Calls Tryd.prog 19 #[.pointer (some ⟨hb, 0, none⟩)] w fun e w' => e = .returned (.tuple #[.int .u32 65535, .int .u64 7, .bool true]) ∧ ∃ sv', Fr hb wb sv sv' w w' := by
  refine (pop_some h 65535 (by omega) (by unfold g1; rw [upd_at]; simp)).mono ?_
  rintro e w' ⟨d, k, he, hl, sv', _, hF⟩
  have h2 := hl.2.1
  unfold g1 upd at h2
  split at h2
  · rename_i hd
    have e1 : d = 65535 := by omega
    cases h2
    subst e1
    exact ⟨he, sv', hF⟩
  · cases h2

def k1 : Int → Option Int := upd (fun _ => none) ((0 : Nat) : Int) (some 3)
def k2 : Int → Option Int := upd k1 ((0 : Nat) : Int) (some 8)
def k3 : Int → Option Int := upd k2 ((0 : Nat) : Int) none

set_option maxRecDepth 100000 in
set_option maxHeartbeats 4000000 in
theorem fixed_calls (w : World) (hg : HasType w) : Calls Tryd.prog 5 #[] w fun e w' => e = .returned (.bool true) ∧ Below w.heap.size w w' := by
  have HG : Hid (∀ wx, Below w.heap.size w wx → HasType wx) := fun wx h => hg.keep h hg.pos
  have HAW : Hid (type_of% (awake_calls w)) := awake_calls w
  have HN3 : Hid (∀ wx, Calls Tryd.prog 7 #[.int .i64 3] wx fun e w' => e = .returned (.tuple #[.pointer (some ⟨wx.heap.size + 1, 0, none⟩), .nilIface]) ∧ IsHeap w' (wx.heap.size + 1) wx.heap.size 3 (.slice none 0 0) (fun _ => none) ∧ Below wx.heap.size wx w') := fun wx => new_calls 3 (by omega) wx
  have HN0 : Hid (∀ wx, Calls Tryd.prog 7 #[.int .i64 0] wx fun e w' => e = .returned (.tuple #[.pointer (some ⟨wx.heap.size + 1, 0, none⟩), .nilIface]) ∧ IsHeap w' (wx.heap.size + 1) wx.heap.size 0 (.slice none 0 0) (fun _ => none) ∧ Below wx.heap.size wx w') := fun wx => new_calls 0 (by omega) wx
  have HNG : Hid (∀ wx, type_of% (new_great wx)) := fun wx => new_great wx
  have HB1 : Hid (∀ wx, Calls Tryd.prog 7 #[.int .i64 (-1)] wx fun e w' => e = .returned (.tuple #[.pointer none, .iface 55 (.int .i64 1)]) ∧ w' = wx) := fun wx => new_bad (-1) (Or.inl (by omega)) wx
  have HB2 : Hid (∀ wx, Calls Tryd.prog 7 #[.int .i64 65537] wx fun e w' => e = .returned (.tuple #[.pointer none, .iface 55 (.int .i64 1)]) ∧ w' = wx) := fun wx => new_bad 65537 (Or.inr (by omega)) wx
  have HE : Hid (∀ n wx, Calls Tryd.prog 18 #[.int .i64 n] wx fun e w' => e = .returned (.agg #[.int .i64 n, .slice none 0 0]) ∧ Below wx.heap.size wx w') := fun n wx => E_calls n wx
  have HSE : Hid (∀ (c : Int) wx, c ≠ 0 → Below w.heap.size w wx → Calls Tryd.prog 9 #[.iface 55 (.int .i64 c), .agg #[.int .i64 c, .slice none 0 0]] wx fun r w' => r = .returned (.bool true) ∧ Below wx.heap.size wx w') := fun c wx hc h => seenE c hc wx (HG.out wx h)
  clear hg
  go_enter Tryd.func5, Tryd.ntmps5
  go_wp2_with fail
  refine HAW.out.mono ?_
  rintro e w1 ⟨rfl, hb1⟩
  have BW1 : Hid (Below w.heap.size w w1) := hb1
  clear hb1
  go_wp2_with fail
  refine (HN3.out _).mono ?_
  rintro e w2 ⟨rfl, hI2, hb2⟩
  obtain ⟨wb, hwb⟩ : ∃ wb, w1.heap.size = wb := ⟨_, rfl⟩
  rw [hwb] at hI2
  rw [hwb]
  have WB : Hid (w.heap.size ≤ wb) := by rw [← hwb]; exact BW1.out.size
  have BW2 : Hid (Below w.heap.size w w2) := BW1.out.trans (hb2.mono BW1.out.size)
  have I2 : Hid (IsHeap w2 (wb + 1) wb 3 (.slice none 0 0) (fun _ => none)) := hI2
  clear hI2 hb2 hwb
  have S1 : Hid (Calls Tryd.prog 14 #[.pointer (some ⟨wb + 1, 0, none⟩), .int .u32 0, .int .u64 3] w2 fun e w' => e = .returned .nilIface ∧ ∃ sv', IsHeap w' (wb + 1) wb 3 sv' k1 ∧ Fr (wb + 1) wb (.slice none 0 0) sv' w2 w') := set_calls I2.out 0 (by omega) 3
  go_wp2_with fail
  refine S1.out.mono ?_
  rintro e w3 ⟨rfl, s3, h3⟩
  have I3 : Hid (IsHeap w3 (wb + 1) wb 3 s3 k1 ∧ Fr (wb + 1) wb (.slice none 0 0) s3 w2 w3) := h3
  clear h3
  have S2 : Hid (Calls Tryd.prog 14 #[.pointer (some ⟨wb + 1, 0, none⟩), .int .u32 0, .int .u64 8] w3 fun e w' => e = .returned .nilIface ∧ ∃ sv', IsHeap w' (wb + 1) wb 3 sv' k2 ∧ Fr (wb + 1) wb s3 sv' w3 w') := set_calls I3.out.1 0 (by omega) 8
  go_wp2_with fail
  refine S2.out.mono ?_
  rintro e w4 ⟨rfl, s4, h4⟩
  have I4 : Hid (IsHeap w4 (wb + 1) wb 3 s4 k2 ∧ Fr (wb + 1) wb (.slice none 0 0) s4 w2 w4) := ⟨h4.1, I3.out.2.trans h4.2⟩
  clear h4
  have S3 : Hid (Calls Tryd.prog 15 #[.pointer (some ⟨wb + 1, 0, none⟩), .int .u32 0] w4 fun e w' => e = .returned (.tuple #[.int .u64 8, .bool true]) ∧ w' = w4) := key_in I4.out.1 0 (by omega) 8 rfl
  go_wp2_with fail
  refine S3.out.mono ?_
  rintro e w4' ⟨rfl, hw4⟩
  subst hw4
  have S4 : Hid (Calls Tryd.prog 16 #[.pointer (some ⟨wb + 1, 0, none⟩), .int .u32 0] w4' fun e w' => e = .returned (.bool true) ∧ ∃ sv', IsHeap w' (wb + 1) wb 3 sv' k3 ∧ Fr (wb + 1) wb s4 sv' w4' w') := remove_in I4.out.1 0 (by omega) 8 rfl
  go_wp2_with fail
  refine S4.out.mono ?_
  rintro e w5 ⟨rfl, s5, h5⟩
  have I5 : Hid (IsHeap w5 (wb + 1) wb 3 s5 k3 ∧ Fr (wb + 1) wb (.slice none 0 0) s5 w2 w5) := ⟨h5.1, I4.out.2.trans h5.2⟩
  clear h5
  have BW5 : Hid (Below w.heap.size w w5) := BW2.out.trans (I5.out.2.below BW2.out.size (by have := WB.out; omega) WB.out (fun k e => by cases e))
  have S5 : Hid (Calls Tryd.prog 16 #[.pointer (some ⟨wb + 1, 0, none⟩), .int .u32 0] w5 fun e w' => e = .returned (.bool false) ∧ w' = w5) := remove_out I5.out.1 0 (by omega) rfl
  go_wp2_with fail
  refine S5.out.mono ?_
  rintro e w5' ⟨rfl, hw5⟩
  subst hw5
  have S6 : Hid (Calls Tryd.prog 17 #[.pointer (some ⟨wb + 1, 0, none⟩), .int .u32 3, .int .u64 1] w5' fun e w' => e = .returned (.iface 55 (.int .i64 7)) ∧ w' = w5') := push_far I5.out.1 3 (by omega) (by omega) 1
  go_wp2_with fail
  refine S6.out.mono ?_
  rintro e w5'' ⟨rfl, hw5⟩
  subst hw5
  go_wp2_with fail
  refine (HE.out 7 _).mono ?_
  rintro e w6 ⟨rfl, hb6⟩
  have BW6 : Hid (Below w.heap.size w w6) := BW5.out.trans (hb6.mono BW5.out.size)
  have I6 : Hid (IsHeap w6 (wb + 1) wb 3 s5 k3) := I5.out.1.below hb6
  clear hb6
  go_wp2_with fail
  refine (HSE.out 7 _ (by omega) BW6.out).mono ?_
  rintro e w7 ⟨rfl, hb7⟩
  have BW7 : Hid (Below w.heap.size w w7) := BW6.out.trans (hb7.mono BW6.out.size)
  have I7 : Hid (IsHeap w7 (wb + 1) wb 3 s5 k3) := I6.out.below hb7
  clear hb7
  have S7 : Hid (Calls Tryd.prog 14 #[.pointer (some ⟨wb + 1, 0, none⟩), .int .u32 4294967295, .int .u64 1] w7 fun e w' => e = .returned (.iface 55 (.int .i64 7)) ∧ w' = w7) := set_far I7.out 4294967295 (by omega) (Nat.le_refl _) 1
  go_wp2_with fail
  refine S7.out.mono ?_
  rintro e w7' ⟨rfl, hw7⟩
  subst hw7
  go_wp2_with fail
  refine (HE.out 7 _).mono ?_
  rintro e w8 ⟨rfl, hb8⟩
  have BW8 : Hid (Below w.heap.size w w8) := BW7.out.trans (hb8.mono BW7.out.size)
  clear hb8
  go_wp2_with fail
  refine (HSE.out 7 _ (by omega) BW8.out).mono ?_
  rintro e w9 ⟨rfl, hb9⟩
  have BW9 : Hid (Below w.heap.size w w9) := BW8.out.trans (hb9.mono BW8.out.size)
  clear hb9
  go_wp2_with fail
  refine (HB1.out _).mono ?_
  rintro e w9' ⟨rfl, hw9⟩
  subst hw9
  go_wp2_with fail
  refine (HB2.out _).mono ?_
  rintro e w9'' ⟨rfl, hw9⟩
  subst hw9
  go_wp2_with fail
  refine (HNG.out _).mono ?_
  rintro e w10 ⟨rfl, hI10, hb10⟩
  obtain ⟨vb, hvb⟩ : ∃ vb, w9''.heap.size = vb := ⟨_, rfl⟩
  rw [hvb] at hI10
  rw [hvb]
  have VB : Hid (w.heap.size ≤ vb) := by rw [← hvb]; exact BW9.out.size
  have BW10 : Hid (Below w.heap.size w w10) := BW9.out.trans (hb10.mono BW9.out.size)
  have I10 : Hid (IsHeap w10 (vb + 1) vb 65536 (.slice none 0 0) (fun _ => none)) := hI10
  clear hI10 hb10 hvb
  go_wp2_with fail
  refine (HE.out 1 _).mono ?_
  rintro e w11 ⟨rfl, hb11⟩
  have BW11 : Hid (Below w.heap.size w w11) := BW10.out.trans (hb11.mono BW10.out.size)
  have I11 : Hid (IsHeap w11 (vb + 1) vb 65536 (.slice none 0 0) (fun _ => none)) := I10.out.below hb11
  clear hb11
  go_wp2_with fail
  refine (HSE.out 1 _ (by omega) BW11.out).mono ?_
  rintro e w12 ⟨rfl, hb12⟩
  have BW12 : Hid (Below w.heap.size w w12) := BW11.out.trans (hb12.mono BW11.out.size)
  have I12 : Hid (IsHeap w12 (vb + 1) vb 65536 (.slice none 0 0) (fun _ => none)) := I11.out.below hb12
  clear hb12
  go_wp2_with fail
  refine (HE.out 1 _).mono ?_
  rintro e w13 ⟨rfl, hb13⟩
  have BW13 : Hid (Below w.heap.size w w13) := BW12.out.trans (hb13.mono BW12.out.size)
  have I13 : Hid (IsHeap w13 (vb + 1) vb 65536 (.slice none 0 0) (fun _ => none)) := I12.out.below hb13
  clear hb13
  go_wp2_with fail
  refine (HSE.out 1 _ (by omega) BW13.out).mono ?_
  rintro e w14 ⟨rfl, hb14⟩
  have BW14 : Hid (Below w.heap.size w w14) := BW13.out.trans (hb14.mono BW13.out.size)
  have I14 : Hid (IsHeap w14 (vb + 1) vb 65536 (.slice none 0 0) (fun _ => none)) := I13.out.below hb14
  clear hb14
  have S15 : Hid (type_of% (push_great I14.out)) := push_great I14.out
  go_wp2_with fail
  refine S15.out.mono ?_
  rintro e w15 ⟨rfl, s15, h15⟩
  have I15 : Hid (IsHeap w15 (vb + 1) vb 65536 s15 g1 ∧ Fr (vb + 1) vb (.slice none 0 0) s15 w14 w15) := h15
  clear h15
  have S16 : Hid (type_of% (pop_great I15.out.1)) := pop_great I15.out.1
  go_wp2_with fail
  refine S16.out.mono ?_
  rintro e w16 ⟨rfl, s16, h16⟩
  have BW16 : Hid (Below w.heap.size w w16) := BW14.out.trans ((I15.out.2.trans h16).below BW14.out.size (by have := VB.out; omega) VB.out (fun k e => by cases e))
  clear h16
  go_wp2_with fail
  refine (clear_nil _).mono ?_
  rintro e x1 ⟨rfl, hx⟩
  subst hx
  go_wp2_with fail
  refine (pop_nil _).mono ?_
  rintro e x2 ⟨rfl, hx⟩
  subst hx
  go_wp2_with fail
  refine (top_nil _).mono ?_
  rintro e x3 ⟨rfl, hx⟩
  subst hx
  go_wp2_with fail
  refine (key_nil _ _).mono ?_
  rintro e x4 ⟨rfl, hx⟩
  subst hx
  go_wp2_with fail
  refine (HN0.out _).mono ?_
  rintro e w17 ⟨rfl, hI17, hb17⟩
  obtain ⟨ub, hub⟩ : ∃ ub, x4.heap.size = ub := ⟨_, rfl⟩
  rw [hub] at hI17
  rw [hub]
  have BW17 : Hid (Below w.heap.size w w17) := BW16.out.trans (hb17.mono BW16.out.size)
  have I17 : Hid (IsHeap w17 (ub + 1) ub 0 (.slice none 0 0) (fun _ => none)) := hI17
  clear hI17 hb17 hub
  have S18 : Hid (Calls Tryd.prog 17 #[.pointer (some ⟨ub + 1, 0, none⟩), .int .u32 0, .int .u64 0] w17 fun e w' => e = .returned (.iface 55 (.int .i64 7)) ∧ w' = w17) := push_far I17.out 0 (by omega) (by omega) 0
  go_wp2_with fail
  refine S18.out.mono ?_
  rintro e x5 ⟨rfl, hx⟩
  subst hx
  go_wp2_with fail
  refine (HE.out 7 _).mono ?_
  rintro e w18 ⟨rfl, hb18⟩
  have BW18 : Hid (Below w.heap.size w w18) := BW17.out.trans (hb18.mono BW17.out.size)
  clear hb18
  go_wp2_with fail
  refine (HSE.out 7 _ (by omega) BW18.out).mono ?_
  rintro e w19 ⟨rfl, hb19⟩
  have BW19 : Hid (Below w.heap.size w w19) := BW18.out.trans (hb19.mono BW18.out.size)
  clear hb19
  go_wp2_with fail
  refine (len_nil _).mono ?_
  rintro e x6 ⟨rfl, hx⟩
  subst hx
  go_wp2_with fail
  refine (remove_nil _ _).mono ?_
  rintro e x7 ⟨rfl, hx⟩
  subst hx
  go_wp2_with fail
  refine (push_nil _ _ _).mono ?_
  rintro e x8 ⟨rfl, hx⟩
  subst hx
  go_wp2_with fail
  refine (HE.out 19 _).mono ?_
  rintro e w20 ⟨rfl, hb20⟩
  have BW20 : Hid (Below w.heap.size w w20) := BW19.out.trans (hb20.mono BW19.out.size)
  clear hb20
  go_wp2_with fail
  refine (HSE.out 19 _ (by omega) BW20.out).mono ?_
  rintro e w21 ⟨rfl, hb21⟩
  have BW21 : Hid (Below w.heap.size w w21) := BW20.out.trans (hb21.mono BW20.out.size)
  clear hb21
  go_wp2_with fail
  refine (set_nil _ _ _).mono ?_
  rintro e x9 ⟨rfl, hx⟩
  subst hx
  go_wp2_with fail
  refine (HE.out 19 _).mono ?_
  rintro e w22 ⟨rfl, hb22⟩
  have BW22 : Hid (Below w.heap.size w w22) := BW21.out.trans (hb22.mono BW21.out.size)
  clear hb22
  go_wp2_with fail
  refine (HSE.out 19 _ (by omega) BW22.out).mono ?_
  rintro e w23 ⟨rfl, hb23⟩
  have BW23 : Hid (Below w.heap.size w w23) := BW22.out.trans (hb23.mono BW22.out.size)
  clear hb23
  go_wp2
  go_ret
  exact ⟨rfl, BW23.out⟩
end Go.Proofs.YtkeniogcjhmikaaDoor
