/- check sums: the laws CrcJoins and CrcBursts, walked. -/
import Derived.Test.YtemdocnhdnhliaaDoorCrI
import Derived.Test.YtemdocnhdnhliaaDoorCrG
namespace Go.Proofs.YtemdocnhdnhliaaDoor
open Go.RowKit Go.Extern Cr

attribute [local go_sem] Oper.semAt_some u32_signed u32_max

theorem cJoin_any (a b : Nat) (ha : a < 4294967296) (hb : b < 4294967296) (n : Int) (hn : n < 9223372036854775808) (w : World) :
    Calls Tryd.prog 15 #[.int .u32 (a : Int), .int .u32 (b : Int), .int .i64 n] w fun e w' => e = .returned (.int .u32 ((joinN a b n.toNat : Nat) : Int)) ∧ w' = w := by
  by_cases h : n < 0
  · have := cJoin_neg a b ha hb n h w
    rw [show n.toNat = 0 by omega]
    exact this
  · obtain ⟨k, rfl⟩ : ∃ k : Nat, n = k := ⟨n.toNat, by omega⟩
    exact cJoin_calls a b ha hb k (by omega) w
theorem join_lt {a b n : Nat} (ha : a < 4294967296) (hb : b < 4294967296) : joinN a b n < 4294967296 := Nat.xor_lt_two_pow (n := 32) (Tn_lt _ ha) hb

set_option maxRecDepth 100000 in
set_option maxHeartbeats 1000000 in
theorem joins_calls (a b : Nat) (ha : a < 4294967296) (hb : b < 4294967296) (n m : Int) (hn : -9223372036854775808 ≤ n ∧ n ≤ 9223372036854775807) (hm : -9223372036854775808 ≤ m ∧ m ≤ 9223372036854775807) (w : World) (hf : HasFours w) (hg : 0 < w.heap.size) :
    Calls Tryd.prog 4 #[.int .u32 (a : Int), .int .u32 (b : Int), .int .i64 n, .int .i64 m] w fun e w' => e = .returned (.bool true) ∧ Below w.heap.size w w' := by
  have HA := awake17_calls w hf hg
  have HJ : Hid (∀ wx, Calls Tryd.prog 15 #[.int .u32 (a : Int), .int .u32 (b : Int), .int .i64 n] wx fun e w' => e = .returned (.int .u32 ((joinN a b n.toNat : Nat) : Int)) ∧ w' = wx) := fun wx => cJoin_any a b ha hb n (by omega) wx
  have HK : Hid (∀ wx, Calls Tryd.prog 16 #[.int .u32 (a : Int), .int .u32 (b : Int), .int .i64 n] wx fun e w' => e = .returned (.int .u32 ((joinN a b n.toNat : Nat) : Int)) ∧ w' = wx) := fun wx => kJoin_calls a b ha hb n (by omega) wx
  have hxy := xor_nat ha hb
  clear hf
  by_cases hbad : n < 0 ∨ m < 0 ∨ 4611686018427387904 ≤ n ∨ 4611686018427387904 ≤ m
  · have HM : Hid (∀ wx, Calls Tryd.prog 15 #[.int .u32 (a : Int), .int .u32 (b : Int), .int .i64 (-1)] wx fun e w' => e = .returned (.int .u32 ((a ^^^ b : Nat) : Int)) ∧ w' = wx) := fun wx => cJoin_neg a b ha hb _ (by omega) wx
    have hs : n < 0 ∨ (0 ≤ n ∧ m < 0) ∨ (0 ≤ n ∧ 0 ≤ m ∧ 4611686018427387904 ≤ n) ∨ (0 ≤ n ∧ 0 ≤ m ∧ n < 4611686018427387904 ∧ 4611686018427387904 ≤ m) := by omega
    clear hbad
    rcases hs with h0 | hs
    · have h4 : n ≤ 4000 := by omega
      have e0 : joinN a b n.toNat = a ^^^ b := by rw [show n.toNat = 0 by omega]; rfl
      rw [e0] at HJ HK
      generalize a ^^^ b = j1 at HJ HK HM hxy
      go_enter Tryd.func4, Tryd.ntmps4
      go_wp2_with (first
        | (go_at_call 9; refine HA.mono ?_; rintro e w1 ⟨rfl, hb1⟩; have H1 : Hid (Below w.heap.size w w1) := hb1; clear hb1)
        | (go_at_call 16; refine (HK.out _).mono ?_; rintro e w2 ⟨rfl, rfl⟩)
        | (go_at_call 15; with_reducible refine (HJ.out _).mono ?_; rintro e w2 ⟨rfl, rfl⟩))
      go_ret
      refine ⟨?_, H1.out⟩
      rw [show (true : Bool) = ((j1 : Int) == (j1 : Int)) from (by simp)]
      rfl
    rcases hs with ⟨h0, h1⟩ | ⟨h0, h1, h2⟩ | ⟨h0, h1, h2, h3⟩
    all_goals by_cases h4 : n ≤ 4000
    all_goals try (exfalso; omega)
    all_goals generalize joinN a b n.toNat = j1 at HJ HK
    all_goals generalize a ^^^ b = j2 at HM hxy
    all_goals go_enter Tryd.func4, Tryd.ntmps4
    all_goals go_wp2_with (first
      | (go_at_call 9; refine HA.mono ?_; rintro e w1 ⟨rfl, hb1⟩; have H1 : Hid (Below w.heap.size w w1) := hb1; clear hb1)
      | (go_at_call 16; refine (HK.out _).mono ?_; rintro e w2 ⟨rfl, rfl⟩)
      | (go_at_call 15; with_reducible refine (HJ.out _).mono ?_; rintro e w2 ⟨rfl, rfl⟩)
      | (go_at_call 15; with_reducible refine (HM.out _).mono ?_; rintro e w2 ⟨rfl, rfl⟩))
    all_goals go_ret
    all_goals exact ⟨rfl, H1.out⟩
  · have hq : joinN a 0 n.toNat < 4294967296 := join_lt ha (by omega)
    have HQ : Hid (∀ wx, Calls Tryd.prog 15 #[.int .u32 (a : Int), .int .u32 0, .int .i64 n] wx fun e w' => e = .returned (.int .u32 ((joinN a 0 n.toNat : Nat) : Int)) ∧ w' = wx) := fun wx => cJoin_any a 0 ha (by omega) n (by omega) wx
    have HR : Hid (∀ wx, Calls Tryd.prog 15 #[.int .u32 ((joinN a 0 n.toNat : Nat) : Int), .int .u32 (b : Int), .int .i64 m] wx fun e w' => e = .returned (.int .u32 ((joinN a b (n.toNat + m.toNat) : Nat) : Int)) ∧ w' = wx) := fun wx => by
      have := cJoin_any (joinN a 0 n.toNat) b hq hb m (by omega) wx
      rwa [join_join] at this
    have HS : Hid (∀ wx, Calls Tryd.prog 15 #[.int .u32 (a : Int), .int .u32 (b : Int), .int .i64 (n + m)] wx fun e w' => e = .returned (.int .u32 ((joinN a b (n.toNat + m.toNat) : Nat) : Int)) ∧ w' = wx) := fun wx => by
      have := cJoin_any a b ha hb (n + m) (by omega) wx
      rwa [show (n + m).toNat = n.toNat + m.toNat by omega] at this
    generalize joinN a b (n.toNat + m.toNat) = s1 at HR HS
    generalize joinN a 0 n.toNat = s0 at HQ HR hq
    generalize joinN a b n.toNat = s2 at HJ HK
    have i0 : 0 ≤ n := by omega
    have i1 : 0 ≤ m := by omega
    have i2 : n < 4611686018427387904 := by omega
    have i3 : m < 4611686018427387904 := by omega
    clear hbad
    by_cases h4 : n ≤ 4000
    all_goals go_enter Tryd.func4, Tryd.ntmps4
    all_goals go_wp2_with (first
      | (go_at_call 9; refine HA.mono ?_; rintro e w1 ⟨rfl, hb1⟩; have H1 : Hid (Below w.heap.size w w1) := hb1; clear hb1)
      | (go_at_call 16; refine (HK.out _).mono ?_; rintro e w2 ⟨rfl, rfl⟩)
      | (go_at_call 15; with_reducible refine (HJ.out _).mono ?_; rintro e w2 ⟨rfl, rfl⟩)
      | (go_at_call 15; with_reducible refine (HQ.out _).mono ?_; rintro e w2 ⟨rfl, rfl⟩)
      | (go_at_call 15; with_reducible refine (HR.out _).mono ?_; rintro e w2 ⟨rfl, rfl⟩)
      | (go_at_call 15; with_reducible refine (HS.out _).mono ?_; rintro e w2 ⟨rfl, rfl⟩))
    all_goals go_ret
    all_goals exact ⟨rfl, H1.out⟩
end Go.Proofs.YtemdocnhdnhliaaDoor
