/- numbers as bytes: wire.Take. -/
import Derived.Test.YtemdocnhdnhliabDoorWrA
import Derived.Test.YtemdocnhdnhliabDoorCrO
namespace Go.Proofs.YtemdocnhdnhliabDoor
open Go.RowKit Go.Extern Cr

attribute [local go_sem] Oper.semAt_some

set_option maxRecDepth 100000 in
theorem isWidth_yes (n : Int) (h : 1 ≤ n) (h8 : n ≤ 8) (w : World) : Calls Tryd.prog 22 #[.int .i64 n] w fun e w' => e = .returned (.bool true) ∧ w' = w := by
  go_enter Tryd.func22, Tryd.ntmps22
  go_wp2_with fail
  go_ret
  exact ⟨rfl, rfl⟩
set_option maxRecDepth 100000 in
theorem isWidth_no (n : Int) (h : n < 1 ∨ 8 < n) (w : World) : Calls Tryd.prog 22 #[.int .i64 n] w fun e w' => e = .returned (.bool false) ∧ w' = w := by
  rcases h with h | h
  · go_enter Tryd.func22, Tryd.ntmps22
    go_wp2_with fail
    go_ret
    exact ⟨rfl, rfl⟩
  · have h1 : 1 ≤ n := by omega
    have h2 : ¬ n ≤ 8 := by omega
    go_enter Tryd.func22, Tryd.ntmps22
    go_wp2_with fail
    go_ret
    exact ⟨rfl, rfl⟩
/-- how many bytes stand from there on. -/
def stand (n : Nat) (at_ : Int) : Int := if at_ ≤ (n : Int) then (n : Int) - at_ else 0
set_option maxRecDepth 100000 in
theorem standing_calls (lo : Option Addr) (lc n : Nat) (at_ : Int) (w : World) (hn : n ≤ 4611686018427387904) (h0 : 0 ≤ at_) (h1 : at_ ≤ 9223372036854775807) : Calls Tryd.prog 31 #[.slice lo n lc, .int .i64 at_] w fun e w' => e = .returned (.int .i64 (stand n at_)) ∧ w' = w := by
  have hw : IntKind.i64.wrap ((n : Int) - at_) = (n : Int) - at_ := by rw [IntKind.wrap_i64] <;> omega
  unfold stand
  by_cases h : at_ ≤ (n : Int)
  · rw [if_pos h]
    have h' : 0 ≤ (n : Int) - at_ := by omega
    go_enter Tryd.func31, Tryd.ntmps31
    go_wp2_with fail
    all_goals go_ret
    all_goals refine ⟨?_, rfl⟩
    all_goals first | rfl | (rw [show (n : Int) - at_ = 0 by omega]; rfl)
  · rw [if_neg h]
    have h' : (n : Int) - at_ < 0 := by omega
    go_enter Tryd.func31, Tryd.ntmps31
    go_wp2_with fail
    all_goals go_ret
    all_goals exact ⟨rfl, rfl⟩
set_option maxRecDepth 100000 in
theorem atSome_calls (k n : Int) (t : TypeId) (x : Value) (w : World) : Calls Tryd.prog 41 #[.int .i64 k, .int .i64 n, .iface t x] w fun e w' => ∃ t' x', e = .returned (.iface t' x') ∧ Below w.heap.size w w' := by
  go_enter Tryd.func41, Tryd.ntmps41
  go_wp2_with fail
  go_ret
  exact ⟨_, _, rfl, (Below.refl _ w).alloc (Nat.le_refl _) _⟩
set_option maxRecDepth 100000 in
theorem short_calls (lo : Option Addr) (lc n : Nat) (w : World) : Calls Tryd.prog 32 #[.slice lo n lc] w fun e w' => ∃ t x, e = .returned (.iface t x) ∧ Below w.heap.size w w' := by
  go_enter Tryd.func32, Tryd.ntmps32
  go_wp2_with (go_at_call 41; refine (atSome_calls _ _ _ _ w).mono ?_; rintro e w1 ⟨t, x, rfl, hb⟩; have H1 : Hid (Below w.heap.size w w1) := hb; clear hb)
  go_ret
  exact ⟨t, x, rfl, H1.out⟩
/-- the bytes that are asked for. -/
def piece (l : List Nat) (a n : Nat) : List Nat := (l.drop a).take n
theorem piece_len {l : List Nat} {a n : Nat} (h : a + n ≤ l.length) : (piece l a n).length = n := by
  unfold piece
  rw [List.length_take, List.length_drop]
  omega
theorem piece_bts {l : List Nat} (h : Bts l) (a n : Nat) : Bts (piece l a n) := (h.drop a).take n
theorem hasB_piece {w : World} {b off n c : Nat} {l : List Nat} (h : HasB w (.slice (some ⟨b, off, none⟩) n c) l) (a k cap : Nat) (hk : (piece l a k).length = k) : HasB w (.slice (some ⟨b, off + a, none⟩) k cap) (piece l a k) := by
  refine ⟨_, cap, by rw [hk], fun j x hj => ?_⟩
  have hj' : l[a + j]? = some x := by
    unfold piece at hj
    rw [List.getElem?_take] at hj
    split at hj
    · rwa [List.getElem?_drop] at hj
    · cases hj
  obtain ⟨b', off', e, hb, hc⟩ := h.at hj'
  injection e with e
  injection e with e1 e2 e3
  subst e1 e2
  exact ⟨b, off + a, rfl, hb, by rw [Nat.add_assoc]; exact hc⟩
theorem slice_midB (b off n lc i j : Nat) (hij : i < j) (hj : j ≤ n) (h : n ≤ lc) (w : World) : (Instr.slice 22 (.slice (some ⟨b, off, none⟩) n lc) (some (.int .i64 (i : Int))) (some (.int .i64 (j : Int))) none).run Tryd.prog w = .ok (.slice (some ⟨b, off + i, none⟩) (j - i) (lc - i)) w := by
  have e1 : (i : Int).toNat = i := by omega
  have e2 : (j : Int).toNat = j := by omega
  rw [run_slice_lh (ht := Tryd.elemO) (h0 := by omega) (h1 := by omega) (h2 := by omega), Tryd.sizeO]
  simp only [Result.andThen_ok, sliced, e1, e2]
  rw [if_neg (by omega)]
  show Result.ok (Value.slice (some ((⟨b, off, none⟩ : Addr).add (i * 1))) (j - i) (lc - i)) w = _
  have e3 : (Addr.mk b off none).add (i * 1) = ⟨b, off + i, none⟩ := by rw [Nat.mul_one]; unfold Addr.add; split <;> simp_all
  rw [e3]
/-- what Take answers. -/
def TakeIs (w : World) (l : List Nat) (at_ n : Int) (e : Ending) (w' : World) : Prop := Below w.heap.size w w' ∧
  ((1 ≤ n ∧ n ≤ 8 ∧ 0 ≤ at_ ∧ at_ + n ≤ (l.length : Int) ∧ e = .returned (.tuple #[.int .u64 ((num (piece l at_.toNat n.toNat) : Nat) : Int), .nilIface])) ∨
   ((n < 1 ∨ 8 < n ∨ at_ < 0 ∨ (l.length : Int) < at_ + n) ∧ ∃ t x, e = .returned (.tuple #[.int .u64 0, .iface t x])))
set_option maxRecDepth 100000 in
set_option maxHeartbeats 1000000 in
theorem take_calls (lo : Option Addr) (lc : Nat) (l : List Nat) (at_ n : Int) (w : World) (hl : HasB w (.slice lo l.length lc) l) (hb : Bts l) (hm : l.length ≤ 140737488355328) (hc : l.length ≤ lc) (ha : -9223372036854775808 ≤ at_ ∧ at_ ≤ 9223372036854775807) :
    Calls Tryd.prog 21 #[.slice lo l.length lc, .int .i64 at_, .int .i64 n] w fun e w' => TakeIs w l at_ n e w' := by
  by_cases hn : n < 1 ∨ 8 < n
  · have hW := isWidth_no n hn w
    have HN : Hid (n < 1 ∨ 8 < n) := hn
    clear hn
    go_enter Tryd.func21, Tryd.ntmps21
    go_wp2_with (go_at_call 22; refine hW.mono ?_; rintro e w1 ⟨rfl, rfl⟩)
    go_ret2
    exact ⟨Below.refl _ _, Or.inr ⟨by rcases HN.out with h | h; exact Or.inl h; exact Or.inr (Or.inl h), _, _, rfl⟩⟩
  · have hW := isWidth_yes n (by omega) (by omega) w
    have i1 : 1 ≤ n := by omega
    have i2 : n ≤ 8 := by omega
    clear hn
    by_cases h0 : at_ < 0
    · go_enter Tryd.func21, Tryd.ntmps21
      go_wp2_with (go_at_call 22; refine hW.mono ?_; rintro e w1 ⟨rfl, rfl⟩)
      go_ret2
      exact ⟨Below.refl _ _, Or.inr ⟨Or.inr (Or.inr (Or.inl h0)), _, _, rfl⟩⟩
    · have hS := standing_calls lo lc l.length at_ w (by omega) (by omega) (by omega)
      by_cases h2 : at_ + n ≤ (l.length : Int)
      · obtain ⟨a, rfl⟩ : ∃ a : Nat, at_ = a := ⟨at_.toNat, by omega⟩
        obtain ⟨k, rfl⟩ : ∃ k : Nat, n = k := ⟨n.toNat, by omega⟩
        have hs : stand l.length (a : Int) = (l.length : Int) - (a : Int) := by unfold stand; rw [if_pos (by omega)]
        rw [hs] at hS
        obtain ⟨x0, hx0⟩ : ∃ x, l[a]? = some x := ⟨l[a]'(by omega), List.getElem?_eq_getElem _⟩
        obtain ⟨b, off, hlo, _, _⟩ := hl.at hx0
        subst hlo
        have hpl : (piece l a k).length = k := piece_len (by omega)
        have hN := number_calls b (off + a) (lc - a) k (piece l a k) w (hasB_piece hl a k (lc - a) hpl) (piece_bts hb a k) (by omega) (by omega) hpl
        have hsl : ∀ wx, (Instr.slice 22 (.slice (some ⟨b, off, none⟩) l.length lc) (some (.int .i64 (a : Int))) (some (.int .i64 ((a : Int) + (k : Int)))) none).run Tryd.prog wx = .ok (.slice (some ⟨b, off + a, none⟩) k (lc - a)) wx := fun wx => by
          have h := slice_midB b off l.length lc a (a + k) (by omega) (by omega) hc wx
          rw [show a + k - a = k by omega] at h
          exact h
        have i3 : ¬ ((l.length : Int) - (a : Int) < (k : Int)) := by omega
        have hwr : IntKind.i64.wrap ((a : Int) + (k : Int)) = (a : Int) + (k : Int) := by rw [IntKind.wrap_i64] <;> omega
        have HG : Hid ((1 : Int) ≤ (k : Int) ∧ (k : Int) ≤ 8 ∧ (0 : Int) ≤ (a : Int) ∧ (a : Int) + (k : Int) ≤ (l.length : Int)) := ⟨i1, i2, by omega, h2⟩
        have HE : Hid (piece l a k = piece l (a : Int).toNat (k : Int).toNat) := (rfl : piece l a k = piece l (a : Int).toNat (k : Int).toNat)
        generalize piece l a k = pl at *
        clear hl hb hx0 hs h2
        go_enter Tryd.func21, Tryd.ntmps21
        go_wp2_with (first
          | (go_at_call 22; refine hW.mono ?_; rintro e w1 ⟨rfl, rfl⟩)
          | (go_at_call 31; refine hS.mono ?_; rintro e w1 ⟨rfl, rfl⟩)
          | (go_at_call 33; refine hN.mono ?_; rintro e w1 ⟨rfl, rfl⟩))
        go_ret2
        exact ⟨Below.refl _ _, Or.inl ⟨HG.out.1, HG.out.2.1, HG.out.2.2.1, HG.out.2.2.2, by rw [← HE.out]; rfl⟩⟩
      · have hs : stand l.length at_ < n := by unfold stand; split <;> omega
        have hs0 : 0 ≤ stand l.length at_ := by unfold stand; split <;> omega
        have hR := short_calls lo lc l.length w
        have HG : Hid ((l.length : Int) < at_ + n) := (by omega : (l.length : Int) < at_ + n)
        generalize stand l.length at_ = st at *
        clear h2 hl hb
        go_enter Tryd.func21, Tryd.ntmps21
        go_wp2_with (first
          | (go_at_call 22; refine hW.mono ?_; rintro e w1 ⟨rfl, rfl⟩)
          | (go_at_call 31; refine hS.mono ?_; rintro e w1 ⟨rfl, rfl⟩)
          | (go_at_call 32; refine hR.mono ?_; rintro e w2 ⟨t, x, rfl, hb⟩; have H2 : Hid (Below w1.heap.size w1 w2) := hb; clear hb))
        go_ret2
        exact ⟨H2.out, Or.inr ⟨Or.inr (Or.inr (Or.inr HG.out)), t, x, rfl⟩⟩
end Go.Proofs.YtemdocnhdnhliabDoor
