/- the four laws of rank: their walks. -/
import Derived.Test.YthnffpinhpacoaaRkA
import Derived.WalkKit
import Derived.WalkSpells
import Derived.LaidEql
import Derived.Deep.QuietTactic
import Derived.BigQuiet
namespace Go.Proofs.Ythnffpinhpacoaa
open Go.RowKit Go.Extern

theorem build3 (c d e : Int) (wx : World) : (Instr.build 23 #[(2, .int .i64 c), (3, .int .i64 d), (4, .int .i64 e)]).run Try.prog wx = .ok (.agg #[.int .i64 0, .int .i64 0, .int .i64 c, .int .i64 d, .int .i64 e]) wx := by kernel_rfl
theorem opt_one {w : World} {cs : Array Value} {T : TypeId} {k : Nat} {v : Value} (h : cs[k]? = some v) : (w.alloc (.cells cs T)).cell? ⟨w.heap.size, k, none⟩ = some v := by
  have e : (w.alloc (.cells cs T)).heap[w.heap.size]? = some (.cells cs T) := by show (w.heap.push _)[w.heap.size]? = _; simp
  generalize w.alloc (.cells cs T) = W at e ⊢
  simp [World.cell?, e, h]
set_option maxRecDepth 100000 in
theorem awake_calls (w : World) : Calls Try.prog 7 #[] w fun e w' => e = .returned (.bool true) ∧ Below w.heap.size w w' := by
  have hb3 := build3
  have HP : Hid (∀ wx, Calls Try.prog 10 #[.agg #[.int .i64 0, .int .i64 0, .int .i64 2, .int .i64 1, .int .i64 3], .int .i64 (-1), .int .i64 4, .int .i64 1] wx fun e' w' => e' = .returned (.int .i64 5) ∧ Below wx.heap.size wx w') := fun wx => (show pri 2 1 3 (-1) 4 1 = 5 by decide) ▸ priority_calls 0 0 2 1 3 (-1) 4 1 wx
  go_enter Try.func7, Try.ntmps7
  go_wp2_with fail
  refine (HP.out _).mono ?_
  rintro e' w' ⟨rfl, hb⟩
  go_wp2_with fail
  refine (key_calls 0 (by omega) (by omega) _).mono ?_
  rintro e' w2 ⟨rfl, rfl⟩
  go_wp2_with fail
  refine (unkey_calls 9223372036854775807 (by omega) (by omega) _).mono ?_
  rintro e' w2 ⟨rfl, rfl⟩
  go_wp2
  go_ret
  exact ⟨rfl, hb⟩
set_option maxRecDepth 100000 in
theorem plains_calls (a b c d e : Int) (w : World) : Calls Try.prog 3 #[opv a b c d e] w fun e' w' => e' = .returned (.bool true) ∧ Below w.heap.size w w' := by
  have HPL : Hid (∀ wx, Calls Try.prog 8 #[.agg #[.int .i64 a, .int .i64 b, .int .i64 c, .int .i64 d, .int .i64 e]] wx fun e' w' => e' = .returned (plv a b c d e) ∧ Below wx.heap.size wx w') := fun wx => plain_calls a b c d e wx
  have HRL : Hid (∀ wx, Calls Try.prog 9 #[.agg #[.int .i64 a, .int .i64 b, .int .i64 c, .int .i64 d, .int .i64 e]] wx fun e' w' => e' = .returned (plv a b c d e) ∧ Below wx.heap.size wx w') := fun wx => rplain_calls a b c d e wx
  unfold opv
  go_enter Try.func3, Try.ntmps3
  go_wp2_with fail
  refine (awake_calls _).mono ?_
  rintro e' w' ⟨rfl, hb⟩
  have c0 : w'.cell? ⟨w.heap.size, 0, none⟩ = some (.int .i64 a) := (hb.cell (p := ⟨w.heap.size, 0, none⟩) (by simp)).trans (opt_one (k := 0) rfl)
  have c1 : w'.cell? ⟨w.heap.size, 1, none⟩ = some (.int .i64 b) := (hb.cell (p := ⟨w.heap.size, 1, none⟩) (by simp)).trans (opt_one (k := 1) rfl)
  have c2 : w'.cell? ⟨w.heap.size, 2, none⟩ = some (.int .i64 c) := (hb.cell (p := ⟨w.heap.size, 2, none⟩) (by simp)).trans (opt_one (k := 2) rfl)
  have c3 : w'.cell? ⟨w.heap.size, 3, none⟩ = some (.int .i64 d) := (hb.cell (p := ⟨w.heap.size, 3, none⟩) (by simp)).trans (opt_one (k := 3) rfl)
  have c4 : w'.cell? ⟨w.heap.size, 4, none⟩ = some (.int .i64 e) := (hb.cell (p := ⟨w.heap.size, 4, none⟩) (by simp)).trans (opt_one (k := 4) rfl)
  have HB : Hid (Below w.heap.size w w') := ((Below.refl _ w).alloc (Nat.le_refl _) _).trans (hb.mono (by simp))
  have hsz0 := hb.size
  rw [show (w.alloc (.cells #[.int .i64 a, .int .i64 b, .int .i64 c, .int .i64 d, .int .i64 e] 23)).heap.size = w.heap.size + 1 by simp] at hsz0
  have HSZ0 : Hid (w.heap.size + 1 ≤ w'.heap.size) := hsz0
  clear hsz0
  clear hb
  go_wp2_with fail
  refine (HPL.out _).mono ?_
  rintro e' w2 ⟨rfl, hb2⟩
  have HB2 : Hid (Below w'.heap.size w' w2) := hb2
  clear hb2
  unfold plv opv
  go_wp2_with fail
  have HSZ : Hid (w.heap.size + 1 ≤ w'.heap.size) := HSZ0.out
  have HKP : Hid (∀ wx, Below (w2.alloc (.cells #[.int .i64 (brg a 0 1048576), .int .i64 (brg b 0 1048576), .int .i64 (brg c (-1000) 1000), .int .i64 (brg d (-1000) 1000), .int .i64 (brg e (-1000) 1000)] 23)).heap.size (w2.alloc (.cells #[.int .i64 (brg a 0 1048576), .int .i64 (brg b 0 1048576), .int .i64 (brg c (-1000) 1000), .int .i64 (brg d (-1000) 1000), .int .i64 (brg e (-1000) 1000)] 23)) wx → (wx.cell? ⟨w.heap.size, 0, none⟩ = some (.int .i64 a) ∧ wx.cell? ⟨w.heap.size, 1, none⟩ = some (.int .i64 b) ∧ wx.cell? ⟨w.heap.size, 2, none⟩ = some (.int .i64 c) ∧ wx.cell? ⟨w.heap.size, 3, none⟩ = some (.int .i64 d) ∧ wx.cell? ⟨w.heap.size, 4, none⟩ = some (.int .i64 e)) ∧ (wx.cell? ⟨w2.heap.size, 0, none⟩ = some (.int .i64 (brg a 0 1048576)) ∧ wx.cell? ⟨w2.heap.size, 1, none⟩ = some (.int .i64 (brg b 0 1048576)) ∧ wx.cell? ⟨w2.heap.size, 2, none⟩ = some (.int .i64 (brg c (-1000) 1000)) ∧ wx.cell? ⟨w2.heap.size, 3, none⟩ = some (.int .i64 (brg d (-1000) 1000)) ∧ wx.cell? ⟨w2.heap.size, 4, none⟩ = some (.int .i64 (brg e (-1000) 1000))) ∧ Below w.heap.size w wx) := fun wx hx => by
    have h0 : Below w'.heap.size w' wx := (HB2.out.alloc HB2.out.size _).trans (hx.mono (Nat.le_trans HB2.out.size (by simp)))
    have hs := HSZ.out
    refine ⟨⟨(h0.cell (p := ⟨w.heap.size, 0, none⟩) (by simp; omega)).trans c0, (h0.cell (p := ⟨w.heap.size, 1, none⟩) (by simp; omega)).trans c1, (h0.cell (p := ⟨w.heap.size, 2, none⟩) (by simp; omega)).trans c2, (h0.cell (p := ⟨w.heap.size, 3, none⟩) (by simp; omega)).trans c3, (h0.cell (p := ⟨w.heap.size, 4, none⟩) (by simp; omega)).trans c4⟩, ⟨(hx.cell (p := ⟨w2.heap.size, 0, none⟩) (by simp)).trans (opt_one (k := 0) rfl), (hx.cell (p := ⟨w2.heap.size, 1, none⟩) (by simp)).trans (opt_one (k := 1) rfl), (hx.cell (p := ⟨w2.heap.size, 2, none⟩) (by simp)).trans (opt_one (k := 2) rfl), (hx.cell (p := ⟨w2.heap.size, 3, none⟩) (by simp)).trans (opt_one (k := 3) rfl), (hx.cell (p := ⟨w2.heap.size, 4, none⟩) (by simp)).trans (opt_one (k := 4) rfl)⟩, HB.out.trans (h0.mono (by omega))⟩
  have HPP : Hid (∀ wx, Calls Try.prog 8 #[.agg #[.int .i64 (brg a 0 1048576), .int .i64 (brg b 0 1048576), .int .i64 (brg c (-1000) 1000), .int .i64 (brg d (-1000) 1000), .int .i64 (brg e (-1000) 1000)]] wx fun e' w' => e' = .returned (.agg #[.int .i64 (brg a 0 1048576), .int .i64 (brg b 0 1048576), .int .i64 (brg c (-1000) 1000), .int .i64 (brg d (-1000) 1000), .int .i64 (brg e (-1000) 1000)]) ∧ Below wx.heap.size wx w') := fun wx => by
    have h := plain_calls (brg a 0 1048576) (brg b 0 1048576) (brg c (-1000) 1000) (brg d (-1000) 1000) (brg e (-1000) 1000) wx
    unfold plv opv at h
    rw [brg_twice (by omega), brg_twice (by omega), brg_twice (by omega), brg_twice (by omega), brg_twice (by omega)] at h
    exact h
  have HRP : Hid (∀ wx, Calls Try.prog 9 #[.agg #[.int .i64 a, .int .i64 b, .int .i64 c, .int .i64 d, .int .i64 e]] wx fun e' w' => e' = .returned (.agg #[.int .i64 (brg a 0 1048576), .int .i64 (brg b 0 1048576), .int .i64 (brg c (-1000) 1000), .int .i64 (brg d (-1000) 1000), .int .i64 (brg e (-1000) 1000)]) ∧ Below wx.heap.size wx w') := HRL.out
  clear c0 c1 c2 c3 c4 HPL HRL HSZ HSZ0
  generalize w2.alloc (.cells #[.int .i64 (brg a 0 1048576), .int .i64 (brg b 0 1048576), .int .i64 (brg c (-1000) 1000), .int .i64 (brg d (-1000) 1000), .int .i64 (brg e (-1000) 1000)] 23) = W3 at *
  obtain ⟨⟨c0, c1, c2, c3, c4⟩, ⟨p0, p1, p2, p3, p4⟩, _⟩ := HKP.out W3 (Below.refl _ _)
  generalize brg a 0 1048576 = v0 at *
  generalize brg b 0 1048576 = v1 at *
  generalize brg c (-1000) 1000 = v2 at *
  generalize brg d (-1000) 1000 = v3 at *
  generalize brg e (-1000) 1000 = v4 at *
  go_region_held3 (fun w' => (w'.cell? ⟨w.heap.size, 0, none⟩ = some (.int .i64 a) ∧ w'.cell? ⟨w.heap.size, 1, none⟩ = some (.int .i64 b) ∧ w'.cell? ⟨w.heap.size, 2, none⟩ = some (.int .i64 c) ∧ w'.cell? ⟨w.heap.size, 3, none⟩ = some (.int .i64 d) ∧ w'.cell? ⟨w.heap.size, 4, none⟩ = some (.int .i64 e)) ∧ (w'.cell? ⟨w2.heap.size, 0, none⟩ = some (.int .i64 v0) ∧ w'.cell? ⟨w2.heap.size, 1, none⟩ = some (.int .i64 v1) ∧ w'.cell? ⟨w2.heap.size, 2, none⟩ = some (.int .i64 v2) ∧ w'.cell? ⟨w2.heap.size, 3, none⟩ = some (.int .i64 v3) ∧ w'.cell? ⟨w2.heap.size, 4, none⟩ = some (.int .i64 v4))) (go_keep) (first
    | (go_at_call 8; refine (HPP.out _).mono ?_; rintro e w5 ⟨rfl, hb5⟩; have HB5 : Hid (Below W3.heap.size W3 w5) := HB4.out.trans (hb5.mono HB4.out.size); clear hb5; obtain ⟨⟨c0', c1', c2', c3', c4'⟩, ⟨p0', p1', p2', p3', p4'⟩, _⟩ := HKP.out w5 HB5.out)
    | (go_at_call 9; refine (HRP.out _).mono ?_; rintro e w4 ⟨rfl, hb4⟩; have HB4 : Hid (Below W3.heap.size W3 w4) := (Below.refl _ W3).drew.trans hb4; clear hb4; obtain ⟨⟨c0', c1', c2', c3', c4'⟩, ⟨p0', p1', p2', p3', p4'⟩, _⟩ := HKP.out w4 HB4.out))
  go_wp2
  go_ret
  exact ⟨rfl, (HKP.out _ HB5.out).2.2⟩
theorem keys_calls (a b k : Int) (a0 : -9223372036854775808 ≤ a) (a1 : a < 9223372036854775808) (b0 : -9223372036854775808 ≤ b) (b1 : b < 9223372036854775808) (k0 : 0 ≤ k) (k1 : k < 18446744073709551616) (w : World) : Calls Try.prog 5 #[.int .i64 a, .int .i64 b, .int .u64 k] w fun e' w' => e' = .returned (.bool true) ∧ Below w.heap.size w w' := by
  have HK : Hid (∀ (x : Int) (wx : World), -9223372036854775808 ≤ x → x < 9223372036854775808 → Calls Try.prog 12 #[.int .i64 x] wx fun e w' => e = .returned (.int .u64 (x + 9223372036854775808)) ∧ w' = wx) := fun x wx h0 h1 => key_calls x h0 h1 wx
  go_enter Try.func5, Try.ntmps5
  go_wp2_with fail
  refine (awake_calls _).mono ?_
  rintro e' w' ⟨rfl, hb⟩
  go_wp2_with fail
  refine (HK.out _ _ a0 a1).mono ?_
  rintro e' w2 ⟨rfl, rfl⟩
  go_wp2_with fail
  refine (HK.out _ _ b0 b1).mono ?_
  rintro e' w2 ⟨rfl, rfl⟩
  go_wp2_with fail
  refine (rkey_calls a a0 a1 _).mono ?_
  rintro e' w3 ⟨rfl, rfl⟩
  go_wp2_with fail
  refine (unkey_calls k k0 k1 _).mono ?_
  rintro e' w3 ⟨rfl, rfl⟩
  go_wp2_with fail
  refine (runkey_calls k k0 k1 _).mono ?_
  rintro e' w3 ⟨rfl, rfl⟩
  go_wp2_with fail
  refine (unkey_calls (a + 9223372036854775808) (by omega) (by omega) _).mono ?_
  rintro e' w3 ⟨rfl, rfl⟩
  go_wp2_with fail
  refine (unkey_calls k k0 k1 _).mono ?_
  rintro e' w4 ⟨rfl, rfl⟩
  go_wp2_with fail
  refine (HK.out _ _ (by omega) (by omega)).mono ?_
  rintro e' w4 ⟨rfl, rfl⟩
  have e1 : k - 9223372036854775808 + 9223372036854775808 = k := by omega
  rw [e1]
  clear e1
  have HBZ : Hid (Below w.heap.size w w4) := hb
  clear hb
  have f1 : (a + 9223372036854775808 == b + 9223372036854775808) = (a == b) := by
    by_cases h : a = b
    · subst h; simp
    · rw [beq_false_of_ne h, beq_false_of_ne (by omega)]
  have f2 : (IntKind.u64.wrap (a + 9223372036854775808 - (b + 9223372036854775808)) == IntKind.u64.wrap (IntKind.u64.wrap a - IntKind.u64.wrap b)) = true := by
    rw [beq_iff_eq, IntKind.wrap_u64, IntKind.wrap_u64, IntKind.wrap_u64, IntKind.wrap_u64]
    omega
  go_wp2
  go_ret
  exact ⟨rfl, HBZ.out⟩
set_option maxRecDepth 100000 in
theorem priorities_calls (a b c d e x y z : Int) (w : World) : Calls Try.prog 4 #[opv a b c d e, .int .i64 x, .int .i64 y, .int .i64 z] w fun e' w' => e' = .returned (.bool true) ∧ Below w.heap.size w w' := by
  have HPL : Hid (∀ wx, Calls Try.prog 8 #[.agg #[.int .i64 a, .int .i64 b, .int .i64 c, .int .i64 d, .int .i64 e]] wx fun e' w' => e' = .returned (plv a b c d e) ∧ Below wx.heap.size wx w') := fun wx => plain_calls a b c d e wx
  have HPR : Hid (∀ wx, Calls Try.prog 10 #[.agg #[.int .i64 a, .int .i64 b, .int .i64 c, .int .i64 d, .int .i64 e], .int .i64 x, .int .i64 y, .int .i64 z] wx fun e' w' => e' = .returned (.int .i64 (pri c d e x y z)) ∧ Below wx.heap.size wx w') := fun wx => priority_calls a b c d e x y z wx
  have HRR : Hid (∀ wx, Calls Try.prog 11 #[.agg #[.int .i64 a, .int .i64 b, .int .i64 c, .int .i64 d, .int .i64 e], .int .i64 x, .int .i64 y, .int .i64 z] wx fun e' w' => e' = .returned (.int .i64 (pri c d e x y z)) ∧ Below wx.heap.size wx w') := fun wx => rpriority_calls a b c d e x y z wx
  have HPP : Hid (∀ wx, Calls Try.prog 10 #[plv a b c d e, .int .i64 x, .int .i64 y, .int .i64 z] wx fun e' w' => e' = .returned (.int .i64 (pri c d e x y z)) ∧ Below wx.heap.size wx w') := fun wx => by
    have h := priority_calls (brg a 0 1048576) (brg b 0 1048576) (brg c (-1000) 1000) (brg d (-1000) 1000) (brg e (-1000) 1000) x y z wx
    have e1 : pri (brg c (-1000) 1000) (brg d (-1000) 1000) (brg e (-1000) 1000) x y z = pri c d e x y z := by
      unfold pri
      rw [brg_twice (by omega), brg_twice (by omega), brg_twice (by omega)]
    rw [e1] at h
    exact h
  generalize pri c d e x y z = r at *
  unfold opv
  go_enter Try.func4, Try.ntmps4
  go_wp2_with fail
  refine (awake_calls _).mono ?_
  rintro e' w' ⟨rfl, hb⟩
  have c0 : w'.cell? ⟨w.heap.size, 0, none⟩ = some (.int .i64 a) := (hb.cell (p := ⟨w.heap.size, 0, none⟩) (by simp)).trans (opt_one (k := 0) rfl)
  have c1 : w'.cell? ⟨w.heap.size, 1, none⟩ = some (.int .i64 b) := (hb.cell (p := ⟨w.heap.size, 1, none⟩) (by simp)).trans (opt_one (k := 1) rfl)
  have c2 : w'.cell? ⟨w.heap.size, 2, none⟩ = some (.int .i64 c) := (hb.cell (p := ⟨w.heap.size, 2, none⟩) (by simp)).trans (opt_one (k := 2) rfl)
  have c3 : w'.cell? ⟨w.heap.size, 3, none⟩ = some (.int .i64 d) := (hb.cell (p := ⟨w.heap.size, 3, none⟩) (by simp)).trans (opt_one (k := 3) rfl)
  have c4 : w'.cell? ⟨w.heap.size, 4, none⟩ = some (.int .i64 e) := (hb.cell (p := ⟨w.heap.size, 4, none⟩) (by simp)).trans (opt_one (k := 4) rfl)
  have HB : Hid (Below w.heap.size w w') := ((Below.refl _ w).alloc (Nat.le_refl _) _).trans (hb.mono (by simp))
  have hsz0 := hb.size
  rw [show (w.alloc (.cells #[.int .i64 a, .int .i64 b, .int .i64 c, .int .i64 d, .int .i64 e] 23)).heap.size = w.heap.size + 1 by simp] at hsz0
  have HKP : Hid (∀ wx, Below w'.heap.size w' wx → (wx.cell? ⟨w.heap.size, 0, none⟩ = some (.int .i64 a) ∧ wx.cell? ⟨w.heap.size, 1, none⟩ = some (.int .i64 b) ∧ wx.cell? ⟨w.heap.size, 2, none⟩ = some (.int .i64 c) ∧ wx.cell? ⟨w.heap.size, 3, none⟩ = some (.int .i64 d) ∧ wx.cell? ⟨w.heap.size, 4, none⟩ = some (.int .i64 e)) ∧ Below w.heap.size w wx) := fun wx hx =>
    ⟨⟨(hx.cell (p := ⟨w.heap.size, 0, none⟩) (by simp; omega)).trans c0, (hx.cell (p := ⟨w.heap.size, 1, none⟩) (by simp; omega)).trans c1, (hx.cell (p := ⟨w.heap.size, 2, none⟩) (by simp; omega)).trans c2, (hx.cell (p := ⟨w.heap.size, 3, none⟩) (by simp; omega)).trans c3, (hx.cell (p := ⟨w.heap.size, 4, none⟩) (by simp; omega)).trans c4⟩, HB.out.trans (hx.mono (by omega))⟩
  clear hb hsz0
  go_wp2_with fail
  refine (HPR.out _).mono ?_
  rintro e' w2 ⟨rfl, hb2⟩
  have HB2 : Hid (Below w'.heap.size w' w2) := hb2
  clear hb2 c0 c1 c2 c3 c4
  obtain ⟨⟨c0, c1, c2, c3, c4⟩, _⟩ := HKP.out w2 HB2.out
  go_wp2_with fail
  refine (HRR.out _).mono ?_
  rintro e' w3 ⟨rfl, hb3⟩
  have HB3 : Hid (Below w'.heap.size w' w3) := HB2.out.trans (hb3.mono HB2.out.size)
  clear hb3 c0 c1 c2 c3 c4
  obtain ⟨⟨c0, c1, c2, c3, c4⟩, _⟩ := HKP.out w3 HB3.out
  go_wp2_with fail
  refine (HPL.out _).mono ?_
  rintro e' w4 ⟨rfl, hb4⟩
  have HB4 : Hid (Below w'.heap.size w' w4) := HB3.out.trans (hb4.mono HB3.out.size)
  clear hb4
  generalize plv a b c d e = pv at *
  go_wp2_with fail
  refine (HPP.out _).mono ?_
  rintro e' w5 ⟨rfl, hb5⟩
  have HB5 : Hid (Below w'.heap.size w' w5) := HB4.out.trans (hb5.mono HB4.out.size)
  clear hb5
  go_wp2
  go_ret
  exact ⟨rfl, (HKP.out w5 HB5.out).2⟩
set_option maxRecDepth 100000 in
theorem fixed_calls (w : World) : Calls Try.prog 6 #[] w fun e' w' => e' = .returned (.bool true) ∧ Below w.heap.size w w' := by
  have hb5 := build23
  have hb1 : ∀ (c : Int) (wx : World), (Instr.build 23 #[(2, .int .i64 c)]).run Try.prog wx = .ok (.agg #[.int .i64 0, .int .i64 0, .int .i64 c, .int .i64 0, .int .i64 0]) wx := fun c wx => by kernel_rfl
  have HPZ : Hid (∀ wx, Calls Try.prog 10 #[.agg #[.int .i64 0, .int .i64 0, .int .i64 1000, .int .i64 0, .int .i64 0], .int .i64 4611686018427387904, .int .i64 0, .int .i64 0] wx fun e' w' => e' = .returned (.int .i64 0) ∧ Below wx.heap.size wx w') := fun wx => (show pri 1000 0 0 4611686018427387904 0 0 = 0 by decide) ▸ priority_calls 0 0 1000 0 0 4611686018427387904 0 0 wx
  go_enter Try.func6, Try.ntmps6
  go_wp2_with fail
  refine (awake_calls _).mono ?_
  rintro e' w' ⟨rfl, hb⟩
  go_wp2_with fail
  refine (plain_calls (-1) 1048577 1001 (-1001) 7 _).mono ?_
  rintro e' w2 ⟨rfl, hb2⟩
  rw [show plv (-1) 1048577 1001 (-1001) 7 = .agg #[.int .i64 0, .int .i64 1048576, .int .i64 1000, .int .i64 (-1000), .int .i64 7] by rfl]
  have HB2 : Hid (Below w.heap.size w w2) := hb.trans (hb2.mono hb.size)
  clear hb hb2
  go_wp2_with fail
  refine (plain_calls 1048576 0 (-1000) 1000 (-9223372036854775808) _).mono ?_
  rintro e' w3 ⟨rfl, hb3⟩
  rw [show plv 1048576 0 (-1000) 1000 (-9223372036854775808) = .agg #[.int .i64 1048576, .int .i64 0, .int .i64 (-1000), .int .i64 1000, .int .i64 (-1000)] by rfl]
  have p0 : (w3.alloc (.cells #[.int .i64 1048576, .int .i64 0, .int .i64 (-1000), .int .i64 1000, .int .i64 (-1000)] 23)).cell? ⟨w2.heap.size, 0, none⟩ = some (.int .i64 0) := (((hb3.alloc hb3.size (.cells #[.int .i64 1048576, .int .i64 0, .int .i64 (-1000), .int .i64 1000, .int .i64 (-1000)] 23)).cell (p := ⟨w2.heap.size, 0, none⟩) (by simp))).trans (opt_one (k := 0) rfl)
  have p1 : (w3.alloc (.cells #[.int .i64 1048576, .int .i64 0, .int .i64 (-1000), .int .i64 1000, .int .i64 (-1000)] 23)).cell? ⟨w2.heap.size, 1, none⟩ = some (.int .i64 1048576) := (((hb3.alloc hb3.size (.cells #[.int .i64 1048576, .int .i64 0, .int .i64 (-1000), .int .i64 1000, .int .i64 (-1000)] 23)).cell (p := ⟨w2.heap.size, 1, none⟩) (by simp))).trans (opt_one (k := 1) rfl)
  have p2 : (w3.alloc (.cells #[.int .i64 1048576, .int .i64 0, .int .i64 (-1000), .int .i64 1000, .int .i64 (-1000)] 23)).cell? ⟨w2.heap.size, 2, none⟩ = some (.int .i64 1000) := (((hb3.alloc hb3.size (.cells #[.int .i64 1048576, .int .i64 0, .int .i64 (-1000), .int .i64 1000, .int .i64 (-1000)] 23)).cell (p := ⟨w2.heap.size, 2, none⟩) (by simp))).trans (opt_one (k := 2) rfl)
  have p3 : (w3.alloc (.cells #[.int .i64 1048576, .int .i64 0, .int .i64 (-1000), .int .i64 1000, .int .i64 (-1000)] 23)).cell? ⟨w2.heap.size, 3, none⟩ = some (.int .i64 (-1000)) := (((hb3.alloc hb3.size (.cells #[.int .i64 1048576, .int .i64 0, .int .i64 (-1000), .int .i64 1000, .int .i64 (-1000)] 23)).cell (p := ⟨w2.heap.size, 3, none⟩) (by simp))).trans (opt_one (k := 3) rfl)
  have p4 : (w3.alloc (.cells #[.int .i64 1048576, .int .i64 0, .int .i64 (-1000), .int .i64 1000, .int .i64 (-1000)] 23)).cell? ⟨w2.heap.size, 4, none⟩ = some (.int .i64 7) := (((hb3.alloc hb3.size (.cells #[.int .i64 1048576, .int .i64 0, .int .i64 (-1000), .int .i64 1000, .int .i64 (-1000)] 23)).cell (p := ⟨w2.heap.size, 4, none⟩) (by simp))).trans (opt_one (k := 4) rfl)
  have q0 : (w3.alloc (.cells #[.int .i64 1048576, .int .i64 0, .int .i64 (-1000), .int .i64 1000, .int .i64 (-1000)] 23)).cell? ⟨w3.heap.size, 0, none⟩ = some (.int .i64 1048576) := opt_one (k := 0) rfl
  have q1 : (w3.alloc (.cells #[.int .i64 1048576, .int .i64 0, .int .i64 (-1000), .int .i64 1000, .int .i64 (-1000)] 23)).cell? ⟨w3.heap.size, 1, none⟩ = some (.int .i64 0) := opt_one (k := 1) rfl
  have q2 : (w3.alloc (.cells #[.int .i64 1048576, .int .i64 0, .int .i64 (-1000), .int .i64 1000, .int .i64 (-1000)] 23)).cell? ⟨w3.heap.size, 2, none⟩ = some (.int .i64 (-1000)) := opt_one (k := 2) rfl
  have q3 : (w3.alloc (.cells #[.int .i64 1048576, .int .i64 0, .int .i64 (-1000), .int .i64 1000, .int .i64 (-1000)] 23)).cell? ⟨w3.heap.size, 3, none⟩ = some (.int .i64 1000) := opt_one (k := 3) rfl
  have q4 : (w3.alloc (.cells #[.int .i64 1048576, .int .i64 0, .int .i64 (-1000), .int .i64 1000, .int .i64 (-1000)] 23)).cell? ⟨w3.heap.size, 4, none⟩ = some (.int .i64 (-1000)) := opt_one (k := 4) rfl
  have HB3 : Hid (Below w.heap.size w (w3.alloc (.cells #[.int .i64 1048576, .int .i64 0, .int .i64 (-1000), .int .i64 1000, .int .i64 (-1000)] 23))) := by
    have h := hb3.alloc hb3.size (.cells #[.int .i64 1048576, .int .i64 0, .int .i64 (-1000), .int .i64 1000, .int .i64 (-1000)] 23)
    have h2 := HB2.out.alloc HB2.out.size (.cells #[.int .i64 0, .int .i64 1048576, .int .i64 1000, .int .i64 (-1000), .int .i64 7] 23)
    exact h2.trans (h.mono h2.size)
  clear hb3
  go_wp2_with fail
  generalize w3.alloc (.cells #[.int .i64 1048576, .int .i64 0, .int .i64 (-1000), .int .i64 1000, .int .i64 (-1000)] 23) = w4 at *
  refine (key_calls (-9223372036854775808) (by omega) (by omega) _).mono ?_
  rintro e' w5 ⟨rfl, rfl⟩
  go_wp2_with fail
  refine (key_calls 9223372036854775807 (by omega) (by omega) _).mono ?_
  rintro e' w5 ⟨rfl, rfl⟩
  go_wp2_with fail
  refine (unkey_calls 0 (by omega) (by omega) _).mono ?_
  rintro e' w5 ⟨rfl, rfl⟩
  go_wp2_with fail
  refine (HPZ.out _).mono ?_
  rintro e' w6 ⟨rfl, hb6⟩
  have HB6 : Hid (Below w.heap.size w w6) := HB3.out.trans (hb6.mono HB3.out.size)
  clear hb6
  go_wp2
  go_ret
  exact ⟨rfl, HB6.out⟩
end Go.Proofs.Ythnffpinhpacoaa
