/- numbers as bytes: mathematics; what at most eight bytes are (wire.number). numbers as bytes: wire.Take. words in memory: rows of numbers of four bytes. numbers as bytes: wire.Words. numbers as bytes: wire.Put, wire.PutWords. numbers as bytes: the law's own sanity (awake); the law WireBytes, walked. the law WireBytes, walked. words: viaductref10.Words (a copy), viaductref10.SameWords of two lists that are one, wire.PutWords. wire.PutWords; the law WireThere, walked. viaductref18.Put and PutWords: bytes behind bytes, grown by append. -/
import Derived.Test.YtamedcnjanichabGreatDoorCrX
import Derived.BigQuiet
import Derived.Deep.RegionWith
import Derived.Deep.QuietTactic
import Derived.Deep.Upon
namespace Go.Proofs.YtamedcnjanichabGreatDoor
open Go.RowKit Go.Extern Cr

attribute [local go_sem] Oper.semAt_some

/-- the n lowest bytes of a number. -/
def leN : Nat → Nat → List Nat
  | _, 0 => []
  | v, n + 1 => v % 256 :: leN (v / 256) n
theorem leN_len (n : Nat) : ∀ v, (leN v n).length = n := by
  induction n with
  | zero => intro v; rfl
  | succ n ih => intro v; show (leN (v / 256) n).length + 1 = _; rw [ih]
theorem leN_bts (n : Nat) : ∀ v, Bts (leN v n) := by
  induction n with
  | zero => intro v x hx; cases hx
  | succ n ih =>
    intro v x hx
    rcases List.mem_cons.1 hx with rfl | h
    · omega
    · exact ih _ x h
theorem leN_num (n : Nat) : ∀ v, num (leN v n) = v % 256 ^ n := by
  induction n with
  | zero => intro v; show 0 = v % 1; omega
  | succ n ih =>
    intro v
    show v % 256 + 256 * num (leN (v / 256) n) = _
    rw [ih, Nat.pow_succ, Nat.mul_comm (256 ^ n), Nat.mod_mul]
theorem leN_snoc (n : Nat) : ∀ v, leN v (n + 1) = leN v n ++ [v / 256 ^ n % 256] := by
  induction n with
  | zero => intro v; show [v % 256] = [v / 1 % 256]; rw [Nat.div_one]
  | succ n ih =>
    intro v
    show v % 256 :: leN (v / 256) (n + 1) = v % 256 :: (leN (v / 256) n ++ [v / 256 ^ (n + 1) % 256])
    rw [ih, Nat.pow_succ, Nat.mul_comm (256 ^ n), ← Nat.div_div_eq_div_mul]
theorem num_le64 {l : List Nat} (h : Bts l) (hl : l.length ≤ 8) : num l < 18446744073709551616 := by
  have h1 := num_lt h
  have h2 : 2 ^ (8 * l.length) ≤ 2 ^ 64 := Nat.pow_le_pow_right (by omega) (by omega)
  have e : (2 : Nat) ^ 64 = 18446744073709551616 := by decide
  omega
theorem or_byte {x b : Nat} (hx : x < 72057594037927936) (hb : b < 256) : bits .or .u64 ((x : Int) * 256) (b : Int) = ((b + 256 * x : Nat) : Int) := by
  have e : (x : Int) * 256 = ((256 * x : Nat) : Int) := by omega
  have h := u64_or_nat (256 * x) b (by omega) (by omega)
  rw [e, h, Nat.or_comm, show 256 * x = 2 ^ 8 * x by omega, Nat.or_comm, ← Nat.two_pow_add_eq_or_of_lt hb, Nat.add_comm]
theorem or_none (b : Nat) (hb : b < 256) : bits .or .u64 0 (b : Int) = (b : Int) := by
  have h := or_byte (x := 0) (b := b) (by omega) hb
  simpa using h
theorem hasB_cell {w : World} {b off n c j a : Nat} {l : List Nat} (h : HasB w (.slice (some ⟨b, off, none⟩) n c) l) (hj : l[j]? = some a) : w.cell? ⟨b, off + j, none⟩ = some (.int .u8 (a : Int)) := by
  obtain ⟨b', off', e, _, hc⟩ := h.at hj
  injection e with e
  injection e with e1 e2 e3
  subst e1 e2
  exact hc
set_option maxRecDepth 100000 in
set_option maxHeartbeats 1000000 in
theorem number_1 (b off lc : Nat) (b0 : Nat) (w : World) (hl : HasB w (.slice (some ⟨b, off, none⟩) 1 lc) [b0]) (hb : Bts [b0]) :
    Calls Tryz.prog 87 #[.slice (some ⟨b, off, none⟩) 1 lc] w fun e w' => e = .returned (.int .u64 ((num [b0] : Nat) : Int)) ∧ w' = w := by
  have h0 : b0 < 256 := hb b0 (by simp)
  have c0 : w.cell? ⟨b, off, none⟩ = some (.int .u8 (b0 : Int)) := hasB_cell (j := 0) hl rfl
  have o0 := or_none b0 h0
  have l0 : b0 < 256 := h0
  have HN : Hid (num [b0] = b0) := by
    show num [b0] = _
    simp only [num]
    omega
  rw [HN.out]
  go_enter Tryz.func87, Tryz.ntmps87
  go_wp2_with fail
  go_ret
  exact ⟨rfl, rfl⟩
set_option maxRecDepth 100000 in
set_option maxHeartbeats 1000000 in
theorem number_2 (b off lc : Nat) (b0 b1 : Nat) (w : World) (hl : HasB w (.slice (some ⟨b, off, none⟩) 2 lc) [b0, b1]) (hb : Bts [b0, b1]) :
    Calls Tryz.prog 87 #[.slice (some ⟨b, off, none⟩) 2 lc] w fun e w' => e = .returned (.int .u64 ((num [b0, b1] : Nat) : Int)) ∧ w' = w := by
  have h0 : b0 < 256 := hb b0 (by simp)
  have c0 : w.cell? ⟨b, off, none⟩ = some (.int .u8 (b0 : Int)) := hasB_cell (j := 0) hl rfl
  have h1 : b1 < 256 := hb b1 (by simp)
  have c1 := hasB_cell (j := 1) hl rfl
  have o1 := or_none b1 h1
  have l1 : b1 < 256 := h1
  have o0 := or_byte (x := b1) (b := b0) (by omega) h0
  have l0 : b0 + 256 * b1 < 65536 := by omega
  have q0 : num [b0, b1] = b0 + 256 * num [b1] := rfl
  obtain ⟨y0, e0⟩ : ∃ y, y = b0 + 256 * b1 := ⟨_, rfl⟩
  rw [← e0] at o0 l0
  have HN : Hid (num [b0, b1] = y0) := by
    show num [b0, b1] = _
    simp only [num]
    omega
  clear q0 e0
  rw [HN.out]
  go_enter Tryz.func87, Tryz.ntmps87
  go_wp2_with fail
  go_ret
  exact ⟨rfl, rfl⟩
set_option maxRecDepth 100000 in
set_option maxHeartbeats 1000000 in
theorem number_3 (b off lc : Nat) (b0 b1 b2 : Nat) (w : World) (hl : HasB w (.slice (some ⟨b, off, none⟩) 3 lc) [b0, b1, b2]) (hb : Bts [b0, b1, b2]) :
    Calls Tryz.prog 87 #[.slice (some ⟨b, off, none⟩) 3 lc] w fun e w' => e = .returned (.int .u64 ((num [b0, b1, b2] : Nat) : Int)) ∧ w' = w := by
  have h0 : b0 < 256 := hb b0 (by simp)
  have c0 : w.cell? ⟨b, off, none⟩ = some (.int .u8 (b0 : Int)) := hasB_cell (j := 0) hl rfl
  have h1 : b1 < 256 := hb b1 (by simp)
  have c1 := hasB_cell (j := 1) hl rfl
  have h2 : b2 < 256 := hb b2 (by simp)
  have c2 := hasB_cell (j := 2) hl rfl
  have o2 := or_none b2 h2
  have l2 : b2 < 256 := h2
  have o1 := or_byte (x := b2) (b := b1) (by omega) h1
  have l1 : b1 + 256 * b2 < 65536 := by omega
  have q1 : num [b1, b2] = b1 + 256 * num [b2] := rfl
  obtain ⟨y1, e1⟩ : ∃ y, y = b1 + 256 * b2 := ⟨_, rfl⟩
  rw [← e1] at o1 l1
  have o0 := or_byte (x := y1) (b := b0) (by omega) h0
  have l0 : b0 + 256 * y1 < 16777216 := by omega
  have q0 : num [b0, b1, b2] = b0 + 256 * num [b1, b2] := rfl
  obtain ⟨y0, e0⟩ : ∃ y, y = b0 + 256 * y1 := ⟨_, rfl⟩
  rw [← e0] at o0 l0
  have HN : Hid (num [b0, b1, b2] = y0) := by
    show num [b0, b1, b2] = _
    simp only [num]
    omega
  clear q0 q1 e0 e1
  rw [HN.out]
  go_enter Tryz.func87, Tryz.ntmps87
  go_wp2_with fail
  go_ret
  exact ⟨rfl, rfl⟩
set_option maxRecDepth 100000 in
set_option maxHeartbeats 1000000 in
theorem number_4 (b off lc : Nat) (b0 b1 b2 b3 : Nat) (w : World) (hl : HasB w (.slice (some ⟨b, off, none⟩) 4 lc) [b0, b1, b2, b3]) (hb : Bts [b0, b1, b2, b3]) :
    Calls Tryz.prog 87 #[.slice (some ⟨b, off, none⟩) 4 lc] w fun e w' => e = .returned (.int .u64 ((num [b0, b1, b2, b3] : Nat) : Int)) ∧ w' = w := by
  have h0 : b0 < 256 := hb b0 (by simp)
  have c0 : w.cell? ⟨b, off, none⟩ = some (.int .u8 (b0 : Int)) := hasB_cell (j := 0) hl rfl
  have h1 : b1 < 256 := hb b1 (by simp)
  have c1 := hasB_cell (j := 1) hl rfl
  have h2 : b2 < 256 := hb b2 (by simp)
  have c2 := hasB_cell (j := 2) hl rfl
  have h3 : b3 < 256 := hb b3 (by simp)
  have c3 := hasB_cell (j := 3) hl rfl
  have o3 := or_none b3 h3
  have l3 : b3 < 256 := h3
  have o2 := or_byte (x := b3) (b := b2) (by omega) h2
  have l2 : b2 + 256 * b3 < 65536 := by omega
  have q2 : num [b2, b3] = b2 + 256 * num [b3] := rfl
  obtain ⟨y2, e2⟩ : ∃ y, y = b2 + 256 * b3 := ⟨_, rfl⟩
  rw [← e2] at o2 l2
  have o1 := or_byte (x := y2) (b := b1) (by omega) h1
  have l1 : b1 + 256 * y2 < 16777216 := by omega
  have q1 : num [b1, b2, b3] = b1 + 256 * num [b2, b3] := rfl
  obtain ⟨y1, e1⟩ : ∃ y, y = b1 + 256 * y2 := ⟨_, rfl⟩
  rw [← e1] at o1 l1
  have o0 := or_byte (x := y1) (b := b0) (by omega) h0
  have l0 : b0 + 256 * y1 < 4294967296 := by omega
  have q0 : num [b0, b1, b2, b3] = b0 + 256 * num [b1, b2, b3] := rfl
  obtain ⟨y0, e0⟩ : ∃ y, y = b0 + 256 * y1 := ⟨_, rfl⟩
  rw [← e0] at o0 l0
  have HN : Hid (num [b0, b1, b2, b3] = y0) := by
    show num [b0, b1, b2, b3] = _
    simp only [num]
    omega
  clear q0 q1 q2 e0 e1 e2
  rw [HN.out]
  go_enter Tryz.func87, Tryz.ntmps87
  go_wp2_with fail
  go_ret
  exact ⟨rfl, rfl⟩
set_option maxRecDepth 100000 in
set_option maxHeartbeats 1000000 in
theorem number_5 (b off lc : Nat) (b0 b1 b2 b3 b4 : Nat) (w : World) (hl : HasB w (.slice (some ⟨b, off, none⟩) 5 lc) [b0, b1, b2, b3, b4]) (hb : Bts [b0, b1, b2, b3, b4]) :
    Calls Tryz.prog 87 #[.slice (some ⟨b, off, none⟩) 5 lc] w fun e w' => e = .returned (.int .u64 ((num [b0, b1, b2, b3, b4] : Nat) : Int)) ∧ w' = w := by
  have h0 : b0 < 256 := hb b0 (by simp)
  have c0 : w.cell? ⟨b, off, none⟩ = some (.int .u8 (b0 : Int)) := hasB_cell (j := 0) hl rfl
  have h1 : b1 < 256 := hb b1 (by simp)
  have c1 := hasB_cell (j := 1) hl rfl
  have h2 : b2 < 256 := hb b2 (by simp)
  have c2 := hasB_cell (j := 2) hl rfl
  have h3 : b3 < 256 := hb b3 (by simp)
  have c3 := hasB_cell (j := 3) hl rfl
  have h4 : b4 < 256 := hb b4 (by simp)
  have c4 := hasB_cell (j := 4) hl rfl
  have o4 := or_none b4 h4
  have l4 : b4 < 256 := h4
  have o3 := or_byte (x := b4) (b := b3) (by omega) h3
  have l3 : b3 + 256 * b4 < 65536 := by omega
  have q3 : num [b3, b4] = b3 + 256 * num [b4] := rfl
  obtain ⟨y3, e3⟩ : ∃ y, y = b3 + 256 * b4 := ⟨_, rfl⟩
  rw [← e3] at o3 l3
  have o2 := or_byte (x := y3) (b := b2) (by omega) h2
  have l2 : b2 + 256 * y3 < 16777216 := by omega
  have q2 : num [b2, b3, b4] = b2 + 256 * num [b3, b4] := rfl
  obtain ⟨y2, e2⟩ : ∃ y, y = b2 + 256 * y3 := ⟨_, rfl⟩
  rw [← e2] at o2 l2
  have o1 := or_byte (x := y2) (b := b1) (by omega) h1
  have l1 : b1 + 256 * y2 < 4294967296 := by omega
  have q1 : num [b1, b2, b3, b4] = b1 + 256 * num [b2, b3, b4] := rfl
  obtain ⟨y1, e1⟩ : ∃ y, y = b1 + 256 * y2 := ⟨_, rfl⟩
  rw [← e1] at o1 l1
  have o0 := or_byte (x := y1) (b := b0) (by omega) h0
  have l0 : b0 + 256 * y1 < 1099511627776 := by omega
  have q0 : num [b0, b1, b2, b3, b4] = b0 + 256 * num [b1, b2, b3, b4] := rfl
  obtain ⟨y0, e0⟩ : ∃ y, y = b0 + 256 * y1 := ⟨_, rfl⟩
  rw [← e0] at o0 l0
  have HN : Hid (num [b0, b1, b2, b3, b4] = y0) := by
    show num [b0, b1, b2, b3, b4] = _
    simp only [num]
    omega
  clear q0 q1 q2 q3 e0 e1 e2 e3
  rw [HN.out]
  go_enter Tryz.func87, Tryz.ntmps87
  go_wp2_with fail
  go_ret
  exact ⟨rfl, rfl⟩
set_option maxRecDepth 100000 in
set_option maxHeartbeats 1000000 in
theorem number_6 (b off lc : Nat) (b0 b1 b2 b3 b4 b5 : Nat) (w : World) (hl : HasB w (.slice (some ⟨b, off, none⟩) 6 lc) [b0, b1, b2, b3, b4, b5]) (hb : Bts [b0, b1, b2, b3, b4, b5]) :
    Calls Tryz.prog 87 #[.slice (some ⟨b, off, none⟩) 6 lc] w fun e w' => e = .returned (.int .u64 ((num [b0, b1, b2, b3, b4, b5] : Nat) : Int)) ∧ w' = w := by
  have h0 : b0 < 256 := hb b0 (by simp)
  have c0 : w.cell? ⟨b, off, none⟩ = some (.int .u8 (b0 : Int)) := hasB_cell (j := 0) hl rfl
  have h1 : b1 < 256 := hb b1 (by simp)
  have c1 := hasB_cell (j := 1) hl rfl
  have h2 : b2 < 256 := hb b2 (by simp)
  have c2 := hasB_cell (j := 2) hl rfl
  have h3 : b3 < 256 := hb b3 (by simp)
  have c3 := hasB_cell (j := 3) hl rfl
  have h4 : b4 < 256 := hb b4 (by simp)
  have c4 := hasB_cell (j := 4) hl rfl
  have h5 : b5 < 256 := hb b5 (by simp)
  have c5 := hasB_cell (j := 5) hl rfl
  have o5 := or_none b5 h5
  have l5 : b5 < 256 := h5
  have o4 := or_byte (x := b5) (b := b4) (by omega) h4
  have l4 : b4 + 256 * b5 < 65536 := by omega
  have q4 : num [b4, b5] = b4 + 256 * num [b5] := rfl
  obtain ⟨y4, e4⟩ : ∃ y, y = b4 + 256 * b5 := ⟨_, rfl⟩
  rw [← e4] at o4 l4
  have o3 := or_byte (x := y4) (b := b3) (by omega) h3
  have l3 : b3 + 256 * y4 < 16777216 := by omega
  have q3 : num [b3, b4, b5] = b3 + 256 * num [b4, b5] := rfl
  obtain ⟨y3, e3⟩ : ∃ y, y = b3 + 256 * y4 := ⟨_, rfl⟩
  rw [← e3] at o3 l3
  have o2 := or_byte (x := y3) (b := b2) (by omega) h2
  have l2 : b2 + 256 * y3 < 4294967296 := by omega
  have q2 : num [b2, b3, b4, b5] = b2 + 256 * num [b3, b4, b5] := rfl
  obtain ⟨y2, e2⟩ : ∃ y, y = b2 + 256 * y3 := ⟨_, rfl⟩
  rw [← e2] at o2 l2
  have o1 := or_byte (x := y2) (b := b1) (by omega) h1
  have l1 : b1 + 256 * y2 < 1099511627776 := by omega
  have q1 : num [b1, b2, b3, b4, b5] = b1 + 256 * num [b2, b3, b4, b5] := rfl
  obtain ⟨y1, e1⟩ : ∃ y, y = b1 + 256 * y2 := ⟨_, rfl⟩
  rw [← e1] at o1 l1
  have o0 := or_byte (x := y1) (b := b0) (by omega) h0
  have l0 : b0 + 256 * y1 < 281474976710656 := by omega
  have q0 : num [b0, b1, b2, b3, b4, b5] = b0 + 256 * num [b1, b2, b3, b4, b5] := rfl
  obtain ⟨y0, e0⟩ : ∃ y, y = b0 + 256 * y1 := ⟨_, rfl⟩
  rw [← e0] at o0 l0
  have HN : Hid (num [b0, b1, b2, b3, b4, b5] = y0) := by
    show num [b0, b1, b2, b3, b4, b5] = _
    simp only [num]
    omega
  clear q0 q1 q2 q3 q4 e0 e1 e2 e3 e4
  rw [HN.out]
  go_enter Tryz.func87, Tryz.ntmps87
  go_wp2_with fail
  go_ret
  exact ⟨rfl, rfl⟩
set_option maxRecDepth 100000 in
set_option maxHeartbeats 1000000 in
theorem number_7 (b off lc : Nat) (b0 b1 b2 b3 b4 b5 b6 : Nat) (w : World) (hl : HasB w (.slice (some ⟨b, off, none⟩) 7 lc) [b0, b1, b2, b3, b4, b5, b6]) (hb : Bts [b0, b1, b2, b3, b4, b5, b6]) :
    Calls Tryz.prog 87 #[.slice (some ⟨b, off, none⟩) 7 lc] w fun e w' => e = .returned (.int .u64 ((num [b0, b1, b2, b3, b4, b5, b6] : Nat) : Int)) ∧ w' = w := by
  have h0 : b0 < 256 := hb b0 (by simp)
  have c0 : w.cell? ⟨b, off, none⟩ = some (.int .u8 (b0 : Int)) := hasB_cell (j := 0) hl rfl
  have h1 : b1 < 256 := hb b1 (by simp)
  have c1 := hasB_cell (j := 1) hl rfl
  have h2 : b2 < 256 := hb b2 (by simp)
  have c2 := hasB_cell (j := 2) hl rfl
  have h3 : b3 < 256 := hb b3 (by simp)
  have c3 := hasB_cell (j := 3) hl rfl
  have h4 : b4 < 256 := hb b4 (by simp)
  have c4 := hasB_cell (j := 4) hl rfl
  have h5 : b5 < 256 := hb b5 (by simp)
  have c5 := hasB_cell (j := 5) hl rfl
  have h6 : b6 < 256 := hb b6 (by simp)
  have c6 := hasB_cell (j := 6) hl rfl
  have o6 := or_none b6 h6
  have l6 : b6 < 256 := h6
  have o5 := or_byte (x := b6) (b := b5) (by omega) h5
  have l5 : b5 + 256 * b6 < 65536 := by omega
  have q5 : num [b5, b6] = b5 + 256 * num [b6] := rfl
  obtain ⟨y5, e5⟩ : ∃ y, y = b5 + 256 * b6 := ⟨_, rfl⟩
  rw [← e5] at o5 l5
  have o4 := or_byte (x := y5) (b := b4) (by omega) h4
  have l4 : b4 + 256 * y5 < 16777216 := by omega
  have q4 : num [b4, b5, b6] = b4 + 256 * num [b5, b6] := rfl
  obtain ⟨y4, e4⟩ : ∃ y, y = b4 + 256 * y5 := ⟨_, rfl⟩
  rw [← e4] at o4 l4
  have o3 := or_byte (x := y4) (b := b3) (by omega) h3
  have l3 : b3 + 256 * y4 < 4294967296 := by omega
  have q3 : num [b3, b4, b5, b6] = b3 + 256 * num [b4, b5, b6] := rfl
  obtain ⟨y3, e3⟩ : ∃ y, y = b3 + 256 * y4 := ⟨_, rfl⟩
  rw [← e3] at o3 l3
  have o2 := or_byte (x := y3) (b := b2) (by omega) h2
  have l2 : b2 + 256 * y3 < 1099511627776 := by omega
  have q2 : num [b2, b3, b4, b5, b6] = b2 + 256 * num [b3, b4, b5, b6] := rfl
  obtain ⟨y2, e2⟩ : ∃ y, y = b2 + 256 * y3 := ⟨_, rfl⟩
  rw [← e2] at o2 l2
  have o1 := or_byte (x := y2) (b := b1) (by omega) h1
  have l1 : b1 + 256 * y2 < 281474976710656 := by omega
  have q1 : num [b1, b2, b3, b4, b5, b6] = b1 + 256 * num [b2, b3, b4, b5, b6] := rfl
  obtain ⟨y1, e1⟩ : ∃ y, y = b1 + 256 * y2 := ⟨_, rfl⟩
  rw [← e1] at o1 l1
  have o0 := or_byte (x := y1) (b := b0) (by omega) h0
  have l0 : b0 + 256 * y1 < 72057594037927936 := by omega
  have q0 : num [b0, b1, b2, b3, b4, b5, b6] = b0 + 256 * num [b1, b2, b3, b4, b5, b6] := rfl
  obtain ⟨y0, e0⟩ : ∃ y, y = b0 + 256 * y1 := ⟨_, rfl⟩
  rw [← e0] at o0 l0
  have HN : Hid (num [b0, b1, b2, b3, b4, b5, b6] = y0) := by
    show num [b0, b1, b2, b3, b4, b5, b6] = _
    simp only [num]
    omega
  clear q0 q1 q2 q3 q4 q5 e0 e1 e2 e3 e4 e5
  rw [HN.out]
  go_enter Tryz.func87, Tryz.ntmps87
  go_wp2_with fail
  go_ret
  exact ⟨rfl, rfl⟩
set_option maxRecDepth 100000 in
set_option maxHeartbeats 1000000 in
theorem number_8 (b off lc : Nat) (b0 b1 b2 b3 b4 b5 b6 b7 : Nat) (w : World) (hl : HasB w (.slice (some ⟨b, off, none⟩) 8 lc) [b0, b1, b2, b3, b4, b5, b6, b7]) (hb : Bts [b0, b1, b2, b3, b4, b5, b6, b7]) :
    Calls Tryz.prog 87 #[.slice (some ⟨b, off, none⟩) 8 lc] w fun e w' => e = .returned (.int .u64 ((num [b0, b1, b2, b3, b4, b5, b6, b7] : Nat) : Int)) ∧ w' = w := by
  have h0 : b0 < 256 := hb b0 (by simp)
  have c0 : w.cell? ⟨b, off, none⟩ = some (.int .u8 (b0 : Int)) := hasB_cell (j := 0) hl rfl
  have h1 : b1 < 256 := hb b1 (by simp)
  have c1 := hasB_cell (j := 1) hl rfl
  have h2 : b2 < 256 := hb b2 (by simp)
  have c2 := hasB_cell (j := 2) hl rfl
  have h3 : b3 < 256 := hb b3 (by simp)
  have c3 := hasB_cell (j := 3) hl rfl
  have h4 : b4 < 256 := hb b4 (by simp)
  have c4 := hasB_cell (j := 4) hl rfl
  have h5 : b5 < 256 := hb b5 (by simp)
  have c5 := hasB_cell (j := 5) hl rfl
  have h6 : b6 < 256 := hb b6 (by simp)
  have c6 := hasB_cell (j := 6) hl rfl
  have h7 : b7 < 256 := hb b7 (by simp)
  have c7 := hasB_cell (j := 7) hl rfl
  have o7 := or_none b7 h7
  have l7 : b7 < 256 := h7
  have o6 := or_byte (x := b7) (b := b6) (by omega) h6
  have l6 : b6 + 256 * b7 < 65536 := by omega
  have q6 : num [b6, b7] = b6 + 256 * num [b7] := rfl
  obtain ⟨y6, e6⟩ : ∃ y, y = b6 + 256 * b7 := ⟨_, rfl⟩
  rw [← e6] at o6 l6
  have o5 := or_byte (x := y6) (b := b5) (by omega) h5
  have l5 : b5 + 256 * y6 < 16777216 := by omega
  have q5 : num [b5, b6, b7] = b5 + 256 * num [b6, b7] := rfl
  obtain ⟨y5, e5⟩ : ∃ y, y = b5 + 256 * y6 := ⟨_, rfl⟩
  rw [← e5] at o5 l5
  have o4 := or_byte (x := y5) (b := b4) (by omega) h4
  have l4 : b4 + 256 * y5 < 4294967296 := by omega
  have q4 : num [b4, b5, b6, b7] = b4 + 256 * num [b5, b6, b7] := rfl
  obtain ⟨y4, e4⟩ : ∃ y, y = b4 + 256 * y5 := ⟨_, rfl⟩
  rw [← e4] at o4 l4
  have o3 := or_byte (x := y4) (b := b3) (by omega) h3
  have l3 : b3 + 256 * y4 < 1099511627776 := by omega
  have q3 : num [b3, b4, b5, b6, b7] = b3 + 256 * num [b4, b5, b6, b7] := rfl
  obtain ⟨y3, e3⟩ : ∃ y, y = b3 + 256 * y4 := ⟨_, rfl⟩
  rw [← e3] at o3 l3
  have o2 := or_byte (x := y3) (b := b2) (by omega) h2
  have l2 : b2 + 256 * y3 < 281474976710656 := by omega
  have q2 : num [b2, b3, b4, b5, b6, b7] = b2 + 256 * num [b3, b4, b5, b6, b7] := rfl
  obtain ⟨y2, e2⟩ : ∃ y, y = b2 + 256 * y3 := ⟨_, rfl⟩
  rw [← e2] at o2 l2
  have o1 := or_byte (x := y2) (b := b1) (by omega) h1
  have l1 : b1 + 256 * y2 < 72057594037927936 := by omega
  have q1 : num [b1, b2, b3, b4, b5, b6, b7] = b1 + 256 * num [b2, b3, b4, b5, b6, b7] := rfl
  obtain ⟨y1, e1⟩ : ∃ y, y = b1 + 256 * y2 := ⟨_, rfl⟩
  rw [← e1] at o1 l1
  have o0 := or_byte (x := y1) (b := b0) (by omega) h0
  have l0 : b0 + 256 * y1 < 18446744073709551616 := by omega
  have q0 : num [b0, b1, b2, b3, b4, b5, b6, b7] = b0 + 256 * num [b1, b2, b3, b4, b5, b6, b7] := rfl
  obtain ⟨y0, e0⟩ : ∃ y, y = b0 + 256 * y1 := ⟨_, rfl⟩
  rw [← e0] at o0 l0
  have HN : Hid (num [b0, b1, b2, b3, b4, b5, b6, b7] = y0) := by
    show num [b0, b1, b2, b3, b4, b5, b6, b7] = _
    simp only [num]
    omega
  clear q0 q1 q2 q3 q4 q5 q6 e0 e1 e2 e3 e4 e5 e6
  rw [HN.out]
  go_enter Tryz.func87, Tryz.ntmps87
  go_wp2_with fail
  go_ret
  exact ⟨rfl, rfl⟩
theorem number_calls (b off lc k : Nat) (l : List Nat) (w : World) (hl : HasB w (.slice (some ⟨b, off, none⟩) k lc) l) (hb : Bts l) (h1 : 1 ≤ l.length) (h8 : l.length ≤ 8) (hk : l.length = k) :
    Calls Tryz.prog 87 #[.slice (some ⟨b, off, none⟩) k lc] w fun e w' => e = .returned (.int .u64 ((num l : Nat) : Int)) ∧ w' = w := by
  subst hk
  match l, h1, h8, hl, hb with
  | [b0], _, _, hl, hb => exact number_1 b off lc b0 w hl hb
  | [b0, b1], _, _, hl, hb => exact number_2 b off lc b0 b1 w hl hb
  | [b0, b1, b2], _, _, hl, hb => exact number_3 b off lc b0 b1 b2 w hl hb
  | [b0, b1, b2, b3], _, _, hl, hb => exact number_4 b off lc b0 b1 b2 b3 w hl hb
  | [b0, b1, b2, b3, b4], _, _, hl, hb => exact number_5 b off lc b0 b1 b2 b3 b4 w hl hb
  | [b0, b1, b2, b3, b4, b5], _, _, hl, hb => exact number_6 b off lc b0 b1 b2 b3 b4 b5 w hl hb
  | [b0, b1, b2, b3, b4, b5, b6], _, _, hl, hb => exact number_7 b off lc b0 b1 b2 b3 b4 b5 b6 w hl hb
  | [b0, b1, b2, b3, b4, b5, b6, b7], _, _, hl, hb => exact number_8 b off lc b0 b1 b2 b3 b4 b5 b6 b7 w hl hb
end Go.Proofs.YtamedcnjanichabGreatDoor

namespace Go.Proofs.YtamedcnjanichabGreatDoor
open Go.RowKit Go.Extern Cr

/-- how many bytes stand from there on. -/
def stand (n : Nat) (at_ : Int) : Int := if at_ ≤ (n : Int) then (n : Int) - at_ else 0
set_option maxRecDepth 100000 in
theorem standing_calls (lo : Option Addr) (lc n : Nat) (at_ : Int) (w : World) (hn : n ≤ 4611686018427387904) (h0 : 0 ≤ at_) (h1 : at_ ≤ 9223372036854775807) : Calls Tryz.prog 85 #[.slice lo n lc, .int .i64 at_] w fun e w' => e = .returned (.int .i64 (stand n at_)) ∧ w' = w := by
  have hw : IntKind.i64.wrap ((n : Int) - at_) = (n : Int) - at_ := by rw [IntKind.wrap_i64] <;> omega
  unfold stand
  by_cases h : at_ ≤ (n : Int)
  · rw [if_pos h]
    have h' : 0 ≤ (n : Int) - at_ := by omega
    go_enter Tryz.func85, Tryz.ntmps85
    go_wp2_with fail
    all_goals go_ret
    all_goals refine ⟨?_, rfl⟩
    all_goals first | rfl | (rw [show (n : Int) - at_ = 0 by omega]; rfl)
  · rw [if_neg h]
    have h' : (n : Int) - at_ < 0 := by omega
    go_enter Tryz.func85, Tryz.ntmps85
    go_wp2_with fail
    all_goals go_ret
    all_goals exact ⟨rfl, rfl⟩
set_option maxRecDepth 100000 in
theorem atSome_calls (k n : Int) (t : TypeId) (x : Value) (w : World) : Calls Tryz.prog 72 #[.int .i64 k, .int .i64 n, .iface t x] w fun e w' => ∃ t' x', e = .returned (.iface t' x') ∧ Below w.heap.size w w' := by
  go_enter Tryz.func72, Tryz.ntmps72
  go_wp2_with fail
  go_ret
  exact ⟨_, _, rfl, (Below.refl _ w).alloc (Nat.le_refl _) _⟩
set_option maxRecDepth 100000 in
theorem short_calls (lo : Option Addr) (lc n : Nat) (w : World) : Calls Tryz.prog 86 #[.slice lo n lc] w fun e w' => ∃ t x, e = .returned (.iface t x) ∧ Below w.heap.size w w' := by
  go_enter Tryz.func86, Tryz.ntmps86
  go_wp2_with (go_at_call 72; refine (atSome_calls _ _ _ _ w).mono ?_; rintro e w1 ⟨t, x, rfl, hb⟩; have H1 : Hid (Below w.heap.size w w1) := hb; clear hb)
  go_ret
  exact ⟨t, x, rfl, H1.out⟩
/-- the bytes that are asked for. -/
def piece (l : List Nat) (a n : Nat) : List Nat := (l.drop a).take n
theorem piece_len {l : List Nat} {a n : Nat} (h : a + n ≤ l.length) : (piece l a n).length = n := by
  unfold piece
  rw [List.length_take, List.length_drop]
  omega
theorem piece_bts {l : List Nat} (h : Bts l) (a n : Nat) : Bts (piece l a n) := (h.drop a).take n
theorem hasB_piece {w : World} {b off n c : Nat} {l : List Nat} (h : HasB w (.slice (some ⟨b, off, none⟩) n c) l) (a k cap : Nat) (hk : (piece l a k).length = k) : HasB w (.slice (some ⟨b, off + a, none⟩) k cap) (piece l a k) := by
  refine ⟨_, cap, by rw [hk], fun j x hj => ?_⟩
  have hj' : l[a + j]? = some x := by
    unfold piece at hj
    rw [List.getElem?_take] at hj
    split at hj
    · rwa [List.getElem?_drop] at hj
    · cases hj
  obtain ⟨b', off', e, hb, hc⟩ := h.at hj'
  injection e with e
  injection e with e1 e2 e3
  subst e1 e2
  exact ⟨b, off + a, rfl, hb, by rw [Nat.add_assoc]; exact hc⟩
theorem slice_midB (b off n lc i j : Nat) (hij : i < j) (hj : j ≤ n) (h : n ≤ lc) (w : World) : (Instr.slice 26 (.slice (some ⟨b, off, none⟩) n lc) (some (.int .i64 (i : Int))) (some (.int .i64 (j : Int))) none).run Tryz.prog w = .ok (.slice (some ⟨b, off + i, none⟩) (j - i) (lc - i)) w := by
  have e1 : (i : Int).toNat = i := by omega
  have e2 : (j : Int).toNat = j := by omega
  rw [run_slice_lh (ht := Tryz.elemO) (h0 := by omega) (h1 := by omega) (h2 := by omega), Tryz.sizeO]
  simp only [Result.andThen_ok, sliced, e1, e2]
  rw [if_neg (by omega)]
  show Result.ok (Value.slice (some ((⟨b, off, none⟩ : Addr).add (i * 1))) (j - i) (lc - i)) w = _
  have e3 : (Addr.mk b off none).add (i * 1) = ⟨b, off + i, none⟩ := by rw [Nat.mul_one]; unfold Addr.add; split <;> simp_all
  rw [e3]
/-- what Take answers. -/
def TakeIs (w : World) (l : List Nat) (at_ n : Int) (e : Ending) (w' : World) : Prop := Below w.heap.size w w' ∧
  ((1 ≤ n ∧ n ≤ 8 ∧ 0 ≤ at_ ∧ at_ + n ≤ (l.length : Int) ∧ e = .returned (.tuple #[.int .u64 ((num (piece l at_.toNat n.toNat) : Nat) : Int), .nilIface])) ∨
   ((n < 1 ∨ 8 < n ∨ at_ < 0 ∨ (l.length : Int) < at_ + n) ∧ ∃ t x, e = .returned (.tuple #[.int .u64 0, .iface t x])))
end Go.Proofs.YtamedcnjanichabGreatDoor

namespace Go.Proofs.YtamedcnjanichabGreatDoor
open Go.RowKit Go.Extern Cr

attribute [local go_sem] Oper.semAt_some

/-- bytes in memory. -/
def HasW (w : World) (lv : Value) (xs : List Nat) : Prop :=
  ∃ ao cap, lv = .slice ao xs.length cap ∧ ∀ (j a : Nat), xs[j]? = some a → ∃ b off, ao = some ⟨b, off, none⟩ ∧ b < w.heap.size ∧ w.cell? ⟨b, off + j, none⟩ = some (.int .u32 (a : Int))
theorem HasW.keep {w w' : World} {lv : Value} {xs : List Nat} (h : HasW w lv xs) (hb : Below w.heap.size w w') : HasW w' lv xs := by
  obtain ⟨ao, cap, e, hc⟩ := h
  refine ⟨ao, cap, e, fun j a hj => ?_⟩
  obtain ⟨b, off, ea, hl, h0⟩ := hc j a hj
  exact ⟨b, off, ea, Nat.lt_of_lt_of_le hl hb.size, (hb.cell (p := ⟨b, _, none⟩) hl).trans h0⟩
theorem HasW.at {w : World} {ao : Option Addr} {n cap : Nat} {xs : List Nat} (h : HasW w (.slice ao n cap) xs) {k : Nat} {a : Nat} (hp : xs[k]? = some a) :
    ∃ b off, ao = some ⟨b, off, none⟩ ∧ b < w.heap.size ∧ w.cell? ⟨b, off + k, none⟩ = some (.int .u32 (a : Int)) := by
  obtain ⟨ao', cap', e, hc⟩ := h
  injection e with e1 e2 e3
  subst e1
  exact hc k a hp
theorem infoW : ∃ i, Tryz.prog.info? 39 = some i ∧ i.zero = some (.int .u32 0) ∧ i.size = 1 ∧ i.bytes = 4 := by
  have h : (Tryz.prog.info? 39).map (fun i => (i.zero, i.size, i.bytes)) = some (some (.int .u32 0), 1, 4) := by kernel_rfl
  cases hi : Tryz.prog.info? 39 with
  | none => rw [hi] at h; cases h
  | some i => rw [hi] at h; simp at h; exact ⟨i, rfl, h.1, h.2.1, h.2.2⟩
/-- bytes as cells. -/
def wv (l : List Nat) : List Value := l.map fun (n : Nat) => Value.int .u32 (n : Int)
theorem wv_len (l : List Nat) : (wv l).length = l.length * 1 := by simp [wv]
theorem wv_append (l r : List Nat) : wv (l ++ r) = wv l ++ wv r := by simp [wv]
theorem w_lt_get {w : World} {k : Nat} {o : Obj} (h : w.heap[k]? = some o) : k < w.heap.size := by
  rcases Nat.lt_or_ge k w.heap.size with h' | h'
  · exact h'
  · rw [Array.getElem?_eq_none h'] at h; cases h
theorem wown_keep {w w' : World} {B n : Nat} {v : Value} {xs : List Value} (h : w.ownsRow B 39 1 v n xs) (hk : ∀ k, v.ownBlock = some k → w'.heap[k]? = w.heap[k]?) : w'.ownsRow B 39 1 v n xs := by
  obtain ⟨h1, h2⟩ := h
  refine ⟨h1, ?_⟩
  rcases h2 with h2 | ⟨g, cap, cur, e, hb, hh, r⟩
  · exact Or.inl h2
  · subst e
    exact Or.inr ⟨g, cap, cur, rfl, hb, (hk g rfl).trans hh, r⟩
theorem wown_below {w w' : World} {B n : Nat} {v : Value} {xs : List Value} (h : w.ownsRow B 39 1 v n xs) (hb : Below w.heap.size w w') : w'.ownsRow B 39 1 v n xs := wown_keep h fun k hk => hb.block _ (h.lt k hk).2
theorem wown_base {w : World} {B B' n : Nat} {v : Value} {xs : List Value} (h : w.ownsRow B' 39 1 v n xs) (hb : B ≤ B') : w.ownsRow B 39 1 v n xs := by
  obtain ⟨h1, h2⟩ := h
  refine ⟨h1, ?_⟩
  rcases h2 with h2 | ⟨g, cap, cur, e, hg, r⟩
  · exact Or.inl h2
  · exact Or.inr ⟨g, cap, cur, e, by omega, r⟩
theorem wown_slice {w : World} {B n : Nat} {v : Value} {xs : List Value} (h : w.ownsRow B 39 1 v n xs) : ∃ ao cap, v = .slice ao n cap := by
  rcases h.2 with ⟨h, h'⟩ | ⟨g, cap, cur, h, _⟩
  · exact ⟨none, 0, by rw [h']; exact h⟩
  · exact ⟨_, cap, h⟩
theorem hasW_own {w : World} {B : Nat} {v : Value} {l : List Nat} (h : w.ownsRow B 39 1 v l.length (wv l)) : HasW w v l := by
  rcases h.2 with ⟨e, h0⟩ | ⟨g, cap, cur, rfl, hg, hh, _⟩
  · have : l = [] := List.eq_nil_of_length_eq_zero h0
    subst this
    exact ⟨none, 0, e, fun j p hj => by simp at hj⟩
  · refine ⟨_, cap, rfl, fun j a hj => ⟨g, 0, rfl, w_lt_get hh, ?_⟩⟩
    have hlt := (List.getElem?_eq_some_iff.1 hj).1
    rw [Nat.zero_add]
    exact (h.cellAt j (by omega)).trans (by simp [wv, hj])
theorem wbelow_grown {w0 w w' : World} {base n : Nat} {xs : List Value} {v : Value} (hb : Below base w0 w) (h : w.ownsRow base 39 1 v n xs) (hg : w.grownBy w' v.ownBlock) (hs : base ≤ w.heap.size) : Below base w0 w' :=
  hb.trans ⟨hg.os, hg.tape, hg.output, hg.size, fun j hj => hg.block j (Nat.lt_of_lt_of_le hj hs) (fun e => by have := (h.lt j e.symm).1; omega)⟩
theorem hasW_cells {w : World} {b off n cap : Nat} {l : List Nat} (h : HasW w (.slice (some ⟨b, off, none⟩) n cap) l) : ∀ j u, (wv l)[j]? = some u → w.cell? ((⟨b, off, none⟩ : Addr).add j) = some u := by
  intro j u hj
  simp only [wv, List.getElem?_map, Option.map_eq_some_iff] at hj
  obtain ⟨a, ha, rfl⟩ := hj
  obtain ⟨b', off', e, _, hc⟩ := h.at ha
  injection e with e
  injection e with e1 e2 e3
  subst e1 e2
  have e : (Addr.mk b off none).add j = ⟨b, off + j, none⟩ := by unfold Addr.add; split <;> simp_all
  rw [e]
  exact hc
theorem wv_one (l : List Nat) : ∀ u ∈ wv l, u.oneCell' = true := by
  intro u hu
  simp only [wv, List.mem_map] at hu
  obtain ⟨n, _, rfl⟩ := hu
  rfl
theorem hasW_nil {w : World} {n cap : Nat} {l : List Nat} (h : HasW w (.slice none n cap) l) : l = [] := by
  cases l with
  | nil => rfl
  | cons a r =>
    obtain ⟨b, off, e, _⟩ := h.at (k := 0) (a := a) rfl
    cases e
theorem hasW_plain {w : World} {ad : Addr} {n cap : Nat} {l : List Nat} (h : HasW w (.slice (some ad) n cap) l) (h0 : l ≠ []) : ∃ b off, ad = ⟨b, off, none⟩ := by
  cases l with
  | nil => exact absurd rfl h0
  | cons a r =>
    obtain ⟨b, off, e, _⟩ := h.at (k := 0) (a := a) rfl
    exact ⟨b, off, Option.some.inj e⟩

theorem hasW_cells' {w : World} {ad : Addr} {n cap : Nat} {l : List Nat} (h : HasW w (.slice (some ad) n cap) l) : ∀ j u, (wv l)[j]? = some u → w.cell? (ad.add j) = some u := by
  intro j u hj
  have h0 : l ≠ [] := by rintro rfl; simp [wv] at hj
  obtain ⟨b, off, rfl⟩ := hasW_plain h h0
  exact hasW_cells h j u hj

/-- bytes behind a row of one's own, wherever they lie. -/
theorem wpList_append_W {w : World} {ops : Array Oper} {rest : List Oper} {o : Oper} {a : Act} {Q : Exit → Act → World → Prop} (hgd : o.guard = none) (s x : Operand)
    (ho : o.op = .call { callee := .builtin .append, args := #[s, x], argTypes := #[22, 22] })
    (base : Nat) (v : Value) (L : List Nat) (hs : a.eval s = v) (hown : w.ownsRow base 39 1 v L.length (wv L))
    (lo : Option Addr) (lc : Nat) (l : List Nat) (hx : a.eval x = .slice lo l.length lc) (hl : HasW w (.slice lo l.length lc) l) (hno : lo = none → lc = 0)
    (hlen : (L.length + l.length) * 4 ≤ 140737488355328) (hbase : base ≤ w.heap.size)
    (h : ∀ v' w', w'.ownsRow base 39 1 v' (L ++ l).length (wv (L ++ l)) → w.grownBy w' v.ownBlock → wpList Tryz.prog ops Q rest (a.put o.dst v') w') : wpList Tryz.prog ops Q (o :: rest) a w := by
  obtain ⟨i0, hi, hz0, hz1, hz2⟩ := infoW
  cases lo with
  | none =>
    have hc := hno rfl
    subst hc
    obtain rfl := hasW_nil hl
    refine wpList_append_own_none hgd s x 22 ho base 39 i0 1 Tryz.underlying22 hi v L.length (wv L) hs hown hx ?_
    exact h v w (by simpa using hown) ⟨rfl, rfl, rfl, Nat.le_refl _, fun _ _ _ => rfl⟩
  | some ad =>
    refine wpList_append_own _ hgd s x 22 ho base 39 i0 (.int .u32 0) 1 4 Tryz.underlying22 hi hz0 hz1 hz2 rfl (by decide) v L.length (wv L) hs hown ad l.length lc (wv l) hx (wv_len l) (hasW_cells' hl) (wv_one l) (by unfold maxLen; omega) (by omega) hbase ?_
    intro v' w' h1 h2 _
    exact h v' w' (by rw [List.length_append, wv_append]; exact h1) h2

theorem wown_set {w : World} {B g n cap k : Nat} {L : List Nat} (h : w.ownsRow B 39 1 (.slice (some ⟨g, 0, none⟩) n cap) n (wv L)) (x : Nat) : (w.setCell ⟨g, k, none⟩ (.int .u32 (x : Int))).ownsRow B 39 1 (.slice (some ⟨g, 0, none⟩) n cap) n (wv (L.set k x)) := by
  obtain ⟨h1, h2⟩ := h
  rw [wv_len, Nat.mul_one, Nat.mul_one] at h1
  rcases h2 with ⟨h2, _⟩ | ⟨g', cap', cur, e, hb, hh, hnc, hcm, hcs, ht⟩
  · cases h2
  · injection e with e1 e2 e3
    injection e1 with e1
    injection e1 with e1
    subst e1 e3
    refine ⟨by rw [wv_len, List.length_set, h1], Or.inr ⟨g, cap, cur.setIfInBounds k (.int .u32 (x : Int)), rfl, hb, ?_, hnc, hcm, by simpa using hcs, ?_⟩⟩
    · simp only [World.setCell, Array.getElem?_modify]
      rw [if_pos trivial, hh]
      rfl
    · rw [Nat.mul_one] at ht ⊢
      rw [Array.toList_setIfInBounds, List.take_set, ht]
      simp only [wv, List.map_set]
theorem wown_at {w : World} {B n : Nat} {v : Value} {L : List Nat} (h : w.ownsRow B 39 1 v n (wv L)) (hn : 0 < n) : ∃ g cap, v = .slice (some ⟨g, 0, none⟩) n cap ∧ B ≤ g ∧ g < w.heap.size ∧ (∀ j, w.frozen? ⟨g, j, none⟩ = false) ∧ ∀ (j a : Nat), L[j]? = some a → w.cell? ⟨g, j, none⟩ = some (.int .u32 (a : Int)) := by
  obtain ⟨h1, h2⟩ := h
  have h1' : L.length = n := by rw [wv_len, Nat.mul_one, Nat.mul_one] at h1; exact h1
  rcases h2 with ⟨_, h2⟩ | ⟨g, cap, cur, e, hb, hh, hnc, hcm, hcs, ht⟩
  · omega
  · refine ⟨g, cap, e, hb, w_lt_get hh, fun j => by simp [World.frozen?, hh], fun j a hj => ?_⟩
    have hlt := (List.getElem?_eq_some_iff.1 hj).1
    simp only [World.cell?, hh]
    have : (cur.toList.take (n * 1))[j]? = some (.int .u32 (a : Int)) := by rw [ht]; simp [wv, hj]
    rw [List.getElem?_take] at this
    split at this
    · simpa using this
    · cases this
theorem hasW_new (w : World) (xs : List Nat) (cap : Nat) (fr : Nat × Nat) : HasW (w.alloc (.cells (wv xs).toArray 39 fr)) (.slice (some ⟨w.heap.size, 0, none⟩) xs.length cap) xs := by
  have h : (w.alloc (.cells (wv xs).toArray 39 fr)).heap[w.heap.size]? = some (.cells (wv xs).toArray 39 fr) := by show (w.heap.push _)[w.heap.size]? = _; simp
  generalize w.alloc (.cells (wv xs).toArray 39 fr) = W at h
  refine ⟨_, cap, rfl, fun j x hj => ⟨w.heap.size, 0, rfl, w_lt_get h, ?_⟩⟩
  rw [Nat.zero_add]
  simp only [World.cell?, h]
  simp [wv, hj]
theorem wcap_of {w : World} {B n cap : Nat} {ao : Option Addr} {xs : List Value} (h : w.ownsRow B 39 1 (.slice ao n cap) n xs) : n ≤ cap ∧ (ao = none → cap = 0) := by
  rcases h.2 with ⟨e, h0⟩ | ⟨g, c, cur, e, _, _, hn, _⟩
  · injection e with e1 e2 e3
    subst e1 e3
    exact ⟨by omega, fun _ => rfl⟩
  · injection e with e1 e2 e3
    subst e1 e3
    exact ⟨hn, fun h => by cases h⟩

theorem wv_len1 (l : List Nat) : (wv l).length = l.length := by simp [wv]
theorem wown_alloc {w : World} {B n : Nat} {v : Value} {xs : List Value} (h : w.ownsRow B 39 1 v n xs) (o : Obj) : (w.alloc o).ownsRow B 39 1 v n xs := wown_keep h fun k hk => Below.heap_alloc _ _ _ (h.lt k hk).2
theorem make_words (n : Nat) (hn : n * 4 ≤ 140737488355328) (w : World) : (Instr.makeSlice 22 (.int .i64 (n : Int)) (.int .i64 (n : Int))).run Tryz.prog w = .ok (.slice (some ⟨w.heap.size, 0, none⟩) n n) (w.alloc (.cells (wv (List.replicate n 0)).toArray 39)) := by
  obtain ⟨i0, hi, hz0, hz1, hz2⟩ := infoW
  have h := run_make (P := Tryz.prog) w 22 39 i0 (.int .u32 0) Tryz.underlying22 hi hz0 .i64 .i64 (n : Int) (n : Int) (by omega) (by omega) (by rw [hz2]; omega) (by omega)
  have e1 : (n : Int).toNat = n := by omega
  rw [h, hz1, e1, Nat.mul_one]
  have e2 : madeCells (Value.int .u32 0).cells n = (wv (List.replicate n 0)).toArray := by
    apply Array.ext
    · simp [madeCells, wv]
    · intro i h1 h2
      simp [madeCells, wv, Value.cells, Nat.mod_one]
  rw [e2]
theorem wown_new (w : World) (xs : List Nat) (B : Nat) (hB : B ≤ w.heap.size) (hx : xs.length ≤ maxLen) : (w.alloc (.cells (wv xs).toArray 39)).ownsRow B 39 1 (.slice (some ⟨w.heap.size, 0, none⟩) xs.length xs.length) xs.length (wv xs) := by
  refine ⟨wv_len xs, .inr ⟨w.heap.size, xs.length, (wv xs).toArray, rfl, hB, by show (w.heap.push _)[w.heap.size]? = _; simp, Nat.le_refl _, hx, by rw [List.size_toArray, wv_len], ?_⟩⟩
  rw [← wv_len xs]
  simp
end Go.Proofs.YtamedcnjanichabGreatDoor

namespace Go.Proofs.YtamedcnjanichabGreatDoor
open Go.RowKit Go.Extern Cr

attribute [local go_sem] Oper.semAt_some

/-- the words that lie from a place on. -/
def wordsOf (l : List Nat) (a c : Nat) : List Nat := (List.range c).map fun i => num (piece l (a + 4 * i) 4)
theorem wordsOf_len (l : List Nat) (a c : Nat) : (wordsOf l a c).length = c := by simp [wordsOf]
theorem wordsOf_at {l : List Nat} {a c i : Nat} (h : i < c) : (wordsOf l a c)[i]? = some (num (piece l (a + 4 * i) 4)) := by
  unfold wordsOf
  rw [List.getElem?_map, List.getElem?_range h]
  rfl
theorem num_4 {l : List Nat} (h : Bts l) (hl : l.length = 4) : num l < 4294967296 := by
  have h1 := num_lt h
  rw [hl] at h1
  exact h1
theorem set_next {L M : List Nat} {k x : Nat} (hk : k < M.length) (hx : L[k]? = some x) (h : M.take k = L.take k) : (M.set k x).take (k + 1) = L.take (k + 1) := by
  rw [List.take_add_one, List.take_add_one, List.take_set_of_le (Nat.le_refl _), h, hx, List.getElem?_set_self hk]
/-- what Words answers. -/
def WordsIs (w : World) (l : List Nat) (at_ c : Int) (e : Ending) (w' : World) : Prop := Below w.heap.size w w' ∧
  ((0 ≤ at_ ∧ 0 ≤ c ∧ (4 * c ≤ (l.length : Int) - at_ ∨ c = 0) ∧ ∃ mo mc, e = .returned (.tuple #[.slice mo c.toNat mc, .nilIface]) ∧ w'.ownsRow w.heap.size 39 1 (.slice mo c.toNat mc) c.toNat (wv (wordsOf l at_.toNat c.toNat))) ∨
   ((at_ < 0 ∨ c < 0 ∨ ((l.length : Int) - at_ < 4 * c ∧ 0 < c)) ∧ ∃ t x, e = .returned (.tuple #[.slice none 0 0, .iface t x])))
set_option maxRecDepth 100000 in
set_option maxHeartbeats 1000000 in
theorem words_calls (lo : Option Addr) (lc : Nat) (l : List Nat) (at_ c : Int) (w : World) (hl : HasB w (.slice lo l.length lc) l) (hb : Bts l) (hm : l.length ≤ 281474976710656) (hc : l.length ≤ lc) (ha : -9223372036854775808 ≤ at_ ∧ at_ ≤ 9223372036854775807) (hcm : c * 4 ≤ 140737488355328 ∨ (l.length : Int) - at_ < 4 * c) :
    Calls Tryz.prog 71 #[.slice lo l.length lc, .int .i64 at_, .int .i64 c] w fun e w' => WordsIs w l at_ c e w' := by
  by_cases h0 : at_ < 0 ∨ c < 0
  · have HN : Hid (at_ < 0 ∨ c < 0) := h0
    by_cases h1 : at_ < 0
    · clear h0
      go_enter Tryz.func71, Tryz.ntmps71
      go_wp2_with fail
      go_ret2
      exact ⟨Below.refl _ _, Or.inr ⟨Or.inl h1, _, _, rfl⟩⟩
    · have h2 : c < 0 := by omega
      clear h0
      go_enter Tryz.func71, Tryz.ntmps71
      go_wp2_with fail
      go_ret2
      exact ⟨Below.refl _ _, Or.inr ⟨Or.inr (Or.inl h2), _, _, rfl⟩⟩
  · have j1 : 0 ≤ at_ := by omega
    have j2 : 0 ≤ c := by omega
    have hS := standing_calls lo lc l.length at_ w (by omega) (by omega) (by omega)
    clear h0
    by_cases h2 : 4 * c ≤ (l.length : Int) - at_ ∨ c = 0
    · obtain ⟨n, rfl⟩ : ∃ n : Nat, c = n := ⟨c.toNat, by omega⟩
      obtain ⟨a, rfl⟩ : ∃ a : Nat, at_ = a := ⟨at_.toNat, by omega⟩
      have hn4 : n * 4 ≤ 140737488355328 := by omega
      have hst : (n : Int) ≤ stand l.length (a : Int) / 4 := by unfold stand; split <;> omega
      have hst0 : 0 ≤ stand l.length (a : Int) := by unfold stand; split <;> omega
      have hst1 : stand l.length (a : Int) ≤ 281474976710656 := by unfold stand; split <;> omega
      generalize stand l.length (a : Int) = st at *
      have hmk := make_words n hn4
      have HL : Hid (HasB w (.slice lo l.length lc) l ∧ Bts l) := ⟨hl, hb⟩
      have HG : Hid ((0 : Int) ≤ (a : Int) ∧ (0 : Int) ≤ (n : Int) ∧ (4 * (n : Int) ≤ (l.length : Int) - (a : Int) ∨ (n : Int) = 0)) := ⟨j1, j2, h2⟩
      have i1 : ¬ ((n : Int) > st / 4) := by omega
      clear hl hb h2 hcm
      go_enter Tryz.func71, Tryz.ntmps71
      go_wp2_with (go_at_call 85; refine hS.mono ?_; rintro e w1 ⟨rfl, rfl⟩)
      have H1 : Hid ((w1.alloc (.cells (wv (List.replicate n 0)).toArray 39)).ownsRow w1.heap.size 39 1 (.slice (some ⟨w1.heap.size, 0, none⟩) n n) n (wv (List.replicate n 0)) ∧ Below w1.heap.size w1 (w1.alloc (.cells (wv (List.replicate n 0)).toArray 39))) := by
        have h := wown_new w1 (List.replicate n 0) w1.heap.size (Nat.le_refl _) (by rw [List.length_replicate]; unfold maxLen; omega)
        rw [List.length_replicate] at h
        exact ⟨h, (Below.refl _ w1).alloc (Nat.le_refl _) _⟩
      clear hmk hS
      go_loopw [1, 29] (fun av nv wr => ∃ (k : Nat) (M : List Nat), k ≤ n ∧ nv = .int .i64 k ∧ av = .int .i64 ((a : Int) + 4 * (k : Int)) ∧ M.length = n ∧ M.take k = (wordsOf l a n).take k ∧ wr.ownsRow w1.heap.size 39 1 (.slice (some ⟨w1.heap.size, 0, none⟩) n n) n (wv M) ∧ Below w1.heap.size w1 wr) (fun _ nv _ => n - (intOf nv).toNat)
      case atStart => exact ⟨0, List.replicate n 0, Nat.zero_le _, rfl, by simp, by simp, by simp, H1.out.1, H1.out.2⟩
      case round =>
        obtain ⟨k, M, hk, rfl, rfl, hM, hMt, hO, hB⟩ := hrel
        by_cases hlt : k < n
        · have hin : 4 * (n : Int) ≤ (l.length : Int) - (a : Int) := by
            rcases HG.out.2.2 with h | h
            · exact h
            · omega
          obtain ⟨x0, hx0⟩ : ∃ x, l[a + 4 * k]? = some x := ⟨l[a + 4 * k]'(by omega), List.getElem?_eq_getElem _⟩
          have hlw := HL.out.1.keep hB
          obtain ⟨b, off, hlo, _, _⟩ := hlw.at hx0
          subst hlo
          have hpl : (piece l (a + 4 * k) 4).length = 4 := piece_len (by omega)
          have hN := number_calls b (off + (a + 4 * k)) (lc - (a + 4 * k)) 4 (piece l (a + 4 * k) 4) wr (hasB_piece hlw (a + 4 * k) 4 (lc - (a + 4 * k)) hpl) (piece_bts HL.out.2 _ _) (by omega) (by omega) hpl
          have hsl : ∀ wx, (Instr.slice 26 (.slice (some ⟨b, off, none⟩) l.length lc) (some (.int .i64 ((a : Int) + 4 * (k : Int)))) (some (.int .i64 ((a : Int) + 4 * (k : Int) + 4))) none).run Tryz.prog wx = .ok (.slice (some ⟨b, off + (a + 4 * k), none⟩) 4 (lc - (a + 4 * k))) wx := fun wx => by
            have h := slice_midB b off l.length lc (a + 4 * k) (a + 4 * k + 4) (by omega) (by omega) hc wx
            rw [show a + 4 * k + 4 - (a + 4 * k) = 4 by omega] at h
            exact h
          have hwr : IntKind.i64.wrap ((a : Int) + 4 * (k : Int) + 4) = (a : Int) + 4 * (k : Int) + 4 := by rw [IntKind.wrap_i64] <;> omega
          have hx4 := num_4 (piece_bts HL.out.2 (a + 4 * k) 4) hpl
          have HW : Hid ((wordsOf l a n)[k]? = some (num (piece l (a + 4 * k) 4))) := wordsOf_at hlt
          obtain ⟨g', c', hv, _, hgl, hfz, hcell⟩ := wown_at hO (by omega)
          injection hv with hv1 _ hv3
          injection hv1 with hv1
          injection hv1 with hv1
          subst hv1 hv3
          obtain ⟨y, hy⟩ : ∃ y, M[k]? = some y := ⟨M[k]'(by omega), List.getElem?_eq_getElem _⟩
          have c0 := hcell k y hy
          have f0 := hfz k
          have i2 : (k : Int) < (n : Int) := by omega
          have HK : Hid (M.take k = (wordsOf l a n).take k ∧ wr.ownsRow w1.heap.size 39 1 (.slice (some ⟨w1.heap.size, 0, none⟩) n n) n (wv M) ∧ Below w1.heap.size w1 wr ∧ M.length = n) := ⟨hMt, hO, hB, hM⟩
          generalize num (piece l (a + 4 * k) 4) = x at *
          clear hy hcell hfz hlw hx0 hM hMt hO hB
          go_wp2_with (go_at_call 87; refine hN.mono ?_; rintro e w2 ⟨rfl, rfl⟩)
          refine ⟨⟨k + 1, M.set k x, by omega, by rw [show (k : Int) + 1 = ((k + 1 : Nat) : Int) by omega], by congr 1, by rw [List.length_set]; exact HK.out.2.2.2, set_next (by rw [HK.out.2.2.2]; exact hlt) HW.out HK.out.1, wown_set HK.out.2.1 x, below_set HK.out.2.2.1 (Nat.le_refl _) _ _⟩, by simp only [intOf]; omega⟩
        · obtain rfl : k = n := by omega
          have eM : M = wordsOf l a k := by
            have h := hMt
            rw [List.take_of_length_le (by omega), List.take_of_length_le (by rw [wordsOf_len]; exact Nat.le_refl _)] at h
            exact h
          have HK : Hid (wr.ownsRow w1.heap.size 39 1 (.slice (some ⟨w1.heap.size, 0, none⟩) k k) k (wv (wordsOf l a k)) ∧ Below w1.heap.size w1 wr) := ⟨by rw [← eM]; exact hO, hB⟩
          clear eM hM hMt hO hB
          have i2 : ¬ ((k : Int) < (k : Int)) := by omega
          go_wp2_with fail
          go_ret2
          exact ⟨HK.out.2, Or.inl ⟨HG.out.1, HG.out.2.1, HG.out.2.2, _, _, rfl, HK.out.1⟩⟩
    · have hs0 : 0 ≤ stand l.length at_ := by unfold stand; split <;> omega
      have hst : stand l.length at_ / 4 < c := by unfold stand; split <;> omega
      have hst1 : stand l.length at_ ≤ 281474976710656 := by unfold stand; split <;> omega
      have hR := short_calls lo lc l.length w
      have HG : Hid ((l.length : Int) - at_ < 4 * c ∧ 0 < c) := (by omega : (l.length : Int) - at_ < 4 * c ∧ 0 < c)
      generalize stand l.length at_ = st at *
      clear h2 hl hb hcm
      go_enter Tryz.func71, Tryz.ntmps71
      go_wp2_with (first
        | (go_at_call 85; refine hS.mono ?_; rintro e w1 ⟨rfl, rfl⟩)
        | (go_at_call 86; refine hR.mono ?_; rintro e w2 ⟨t, x, rfl, hb⟩; have H2 : Hid (Below w1.heap.size w1 w2) := hb; clear hb))
      go_ret2
      exact ⟨H2.out, Or.inr ⟨Or.inr (Or.inr HG.out), t, x, rfl⟩⟩
end Go.Proofs.YtamedcnjanichabGreatDoor

namespace Go.Proofs.YtamedcnjanichabGreatDoor
open Go.RowKit Go.Extern Cr

attribute [local go_sem] Oper.semAt_some

theorem hasB_new1 (w : World) (a : Nat) : HasB (w.alloc (.cells #[.int .u8 (a : Int)] 5)) (.slice (some ⟨w.heap.size, 0, none⟩) [a].length 1) [a] := by
  have h : (w.alloc (.cells #[.int .u8 (a : Int)] 5)).heap[w.heap.size]? = some (.cells #[.int .u8 (a : Int)] 5) := by show (w.heap.push _)[w.heap.size]? = _; simp
  generalize w.alloc (.cells #[.int .u8 (a : Int)] 5) = W at h
  refine ⟨_, 1, rfl, fun j x hj => ⟨w.heap.size, 0, rfl, b_lt_get h, ?_⟩⟩
  rw [Nat.zero_add]
  simp only [World.cell?, h]
  rcases j with _ | j
  · simp at hj; subst hj; simp
  · simp at hj
/-- a list with room behind it, in a block of its own. -/
structure Room (w w' : World) (g cap : Nat) (L : List Nat) : Prop where
  own : w'.ownsRow w.heap.size 5 1 (.slice (some ⟨g, 0, none⟩) L.length cap) L.length (bv L)
  below : Below w.heap.size w w'
theorem Room.base {w w' : World} {g cap : Nat} {L : List Nat} (h : Room w w' g cap L) : w.heap.size ≤ g ∧ g < w'.heap.size := h.own.lt g rfl
theorem Room.has {w w' : World} {g cap : Nat} {L : List Nat} (h : Room w w' g cap L) : HasB w' (.slice (some ⟨g, 0, none⟩) L.length cap) L := hasB_own h.own
/-- bytes behind a list that has room for them. -/
theorem wpList_spare_B {w0 w : World} {ops : Array Oper} {rest : List Oper} {o : Oper} {a : Act} {Q : Exit → Act → World → Prop} (hgd : o.guard = none) (s x : Operand)
    (ho : o.op = .call { callee := .builtin .append, args := #[s, x], argTypes := #[26, 26] })
    (g cap : Nat) (L : List Nat) (hs : a.eval s = .slice (some ⟨g, 0, none⟩) L.length cap) (hown : Room w0 w g cap L)
    (lo : Option Addr) (lc : Nat) (l : List Nat) (hx : a.eval x = .slice lo l.length lc) (hl : HasB w (.slice lo l.length lc) l) (hno : lo = none → lc = 0) (hroom : L.length + l.length ≤ cap)
    (h : ∀ w', Room w0 w' g cap (L ++ l) → wpList Tryz.prog ops Q rest (a.put o.dst (.slice (some ⟨g, 0, none⟩) (L ++ l).length cap)) w') : wpList Tryz.prog ops Q (o :: rest) a w := by
  obtain ⟨i0, hi, hz0, hz1, hz2⟩ := infoB
  cases lo with
  | none =>
    have hc := hno rfl
    subst hc
    obtain rfl := hasB_nil hl
    refine wpList_append_own_none hgd s x 26 ho w0.heap.size 5 i0 1 Tryz.underlying26 hi _ L.length (bv L) hs hown.own hx ?_
    have h' := h w (by rw [List.append_nil]; exact hown)
    rw [List.append_nil] at h'
    exact h'
  | some ad =>
    refine wpList_append_own_spare _ hgd s x 26 ho w0.heap.size 5 i0 1 Tryz.underlying26 hi hz1 g L.length cap (bv L) hs hown.own ad l.length lc (bv l) hx (bv_len l) (hasB_cells' hl) (bv_one l) hroom ?_
    intro w' h1 h2
    rw [← bv_append, ← List.length_append] at h1
    have h' := h w' ⟨h1, bbelow_g hown.below h2 (fun k e => by cases e; exact hown.base.1)⟩
    rw [List.length_append] at h'
    exact h'

set_option maxRecDepth 100000 in
set_option maxHeartbeats 1000000 in
theorem roomier_calls (lo : Option Addr) (lc : Nat) (l : List Nat) (m : Nat) (w : World) (hl : HasB w (.slice lo l.length lc) l) (hm : l.length + m ≤ 281474976710656) (hc : lo = none → lc = 0) :
    Calls Tryz.prog 49 #[.slice lo l.length lc, .int .i64 (m : Int)] w fun e w' => ∃ g, e = .returned (.slice (some ⟨g, 0, none⟩) l.length (l.length + m)) ∧ Room w w' g (l.length + m) l := by
  obtain ⟨i0, hi, hz0, hz1, hz2⟩ := infoB
  have HL : Hid (HasB w (.slice lo l.length lc) l) := hl
  have HC : Hid (lo = none → lc = 0) := hc
  have hwr : IntKind.i64.wrap ((l.length : Int) + (m : Int)) = (l.length : Int) + (m : Int) := by rw [IntKind.wrap_i64] <;> omega
  clear hl hc
  go_enter Tryz.func49, Tryz.ntmps49
  go_wp2_with (first
    | (refine wpList_make_own _ rfl _ _ 26 rfl w.heap.size 5 i0 (.int .u8 0) 1 Tryz.underlying26 hi hz0 hz1 .i64 .i64 ((l.length : Int) + (m : Int)) (l.length + m) rfl rfl rfl ?hby ?h63 ?hbase ?_; (case hby => rw [hz2]; omega); (case h63 => unfold maxLen; omega); (case hbase => exact Nat.le_refl _); intro w2 hown2 hgrow2; have H2 : Hid (Room w w2 w.heap.size (l.length + m) []) := ⟨hown2, hgrow2.os, hgrow2.tape, hgrow2.output, hgrow2.size, fun k hk => hgrow2.block k hk (by simp)⟩; clear hown2 hgrow2)
    | (at_builtin; refine wpList_spare_B rfl _ _ rfl w.heap.size (l.length + m) [] rfl H2.out lo lc l rfl (HL.out.keep H2.out.below) HC.out (by simp only [List.length_nil]; omega) ?_; intro w3 h3; have H3 : Hid (Room w w3 w.heap.size (l.length + m) l) := h3; clear h3))
  go_ret
  exact ⟨_, rfl, H3.out⟩

set_option maxRecDepth 100000 in
set_option maxHeartbeats 1000000 in
theorem behind_calls (w0 : World) (g cap : Nat) (L : List Nat) (v n : Nat) (hv : v < 18446744073709551616) (w : World) (h : Room w0 w g cap L) (hn : L.length + n ≤ cap) (hnm : n ≤ 4611686018427387904) :
    Calls Tryz.prog 50 #[.slice (some ⟨g, 0, none⟩) L.length cap, .int .u64 (v : Int), .int .i64 (n : Int)] w fun e w' => e = .returned (.slice (some ⟨g, 0, none⟩) (L.length + n) cap) ∧ Room w0 w' g cap (L ++ leN v n) := by
  have H0 : Hid (Room w0 w g cap L) := h
  clear h
  go_enter Tryz.func50, Tryz.ntmps50
  go_wp2_with fail
  go_loopw [0, 1, 8] (fun ov vv nv wr => ∃ k : Nat, k ≤ n ∧ nv = .int .i64 k ∧ vv = .int .u64 ((v / 256 ^ k : Nat) : Int) ∧ ov = .slice (some ⟨g, 0, none⟩) (L.length + k) cap ∧ Room w0 wr g cap (L ++ leN v k)) (fun _ _ nv _ => n - (intOf nv).toNat)
  case atStart => exact ⟨0, Nat.zero_le _, rfl, by rw [Nat.pow_zero, Nat.div_one], rfl, by rw [show L ++ leN v 0 = L from List.append_nil L]; exact H0.out⟩
  case round =>
    obtain ⟨k, hk, rfl, rfl, rfl, hR⟩ := hrel
    have HR : Hid (Room w0 wr g cap (L ++ leN v k)) := hR
    clear hR
    by_cases hlt : k < n
    · have hx : v / 256 ^ k < 18446744073709551616 := Nat.lt_of_le_of_lt (Nat.div_le_self _ _) hv
      have HN : Hid (leN v (k + 1) = leN v k ++ [v / 256 ^ k % 256]) := leN_snoc k v
      have HD : Hid (v / 256 ^ (k + 1) = v / 256 ^ k / 256) := (by rw [Nat.pow_succ, Nat.div_div_eq_div_mul] : v / 256 ^ (k + 1) = v / 256 ^ k / 256)
      have HLen : Hid ((L ++ leN v k).length = L.length + k) := (by rw [List.length_append, leN_len] : (L ++ leN v k).length = L.length + k)
      generalize v / 256 ^ k = x at *
      have HB : Hid (HasB (wr.alloc (.cells #[.int .u8 ((x : Int) % 256)] 5)) (.slice (some ⟨wr.heap.size, 0, none⟩) [x % 256].length 1) [x % 256]) := by
        have hh := hasB_new1 wr (x % 256)
        rw [show ((x % 256 : Nat) : Int) = (x : Int) % 256 by omega] at hh
        exact hh
      have i1 : (k : Int) < (n : Int) := by omega
      go_wp2_with (at_builtin; refine wpList_spare_B (w0 := w0) rfl _ _ rfl g cap (L ++ leN v k) (by rw [HLen.out]; rfl) ⟨bown_alloc HR.out.own _, HR.out.below.alloc HR.out.below.size _⟩ (some ⟨wr.heap.size, 0, none⟩) 1 [x % 256] rfl HB.out (fun e => by cases e) (by rw [HLen.out]; show L.length + k + 1 ≤ cap; omega) ?_; intro w3 h3; have H3 : Hid (Room w0 w3 g cap (L ++ leN v (k + 1))) := (by rw [HN.out, ← List.append_assoc]; exact h3); clear h3; rw [show (L ++ leN v k ++ [x % 256]).length = L.length + (k + 1) by rw [List.length_append, HLen.out]; rfl])
      exact ⟨⟨k + 1, by omega, by rw [show (k : Int) + 1 = ((k + 1 : Nat) : Int) by omega], by rw [HD.out, show (x : Int) / 256 = ((x / 256 : Nat) : Int) by omega], rfl, H3.out⟩, by simp only [intOf]; omega⟩
    · obtain rfl : k = n := by omega
      have i1 : ¬ ((k : Int) < (k : Int)) := by omega
      go_wp2_with fail
      go_ret
      exact ⟨rfl, HR.out⟩
/-- what Put answers. -/
def PutIs (w : World) (l : List Nat) (v : Nat) (n : Int) (e : Ending) (w' : World) : Prop :=
  (1 ≤ n ∧ n ≤ 8 ∧ v < 256 ^ n.toNat ∧ ∃ g, e = .returned (.tuple #[.slice (some ⟨g, 0, none⟩) (l.length + n.toNat) (l.length + n.toNat), .nilIface]) ∧ Room w w' g (l.length + n.toNat) (l ++ leN v n.toNat)) ∨
  ((n < 1 ∨ 8 < n) ∧ e = .returned (.tuple #[.slice none 0 0, .iface 76 (.int .i64 1)]) ∧ w' = w) ∨
  (1 ≤ n ∧ n ≤ 8 ∧ 256 ^ n.toNat ≤ v ∧ e = .returned (.tuple #[.slice none 0 0, .iface 76 (.int .i64 9)]) ∧ w' = w)
end Go.Proofs.YtamedcnjanichabGreatDoor

namespace Go.Proofs.YtamedcnjanichabGreatDoor
open Go.RowKit Go.Extern Cr

end Go.Proofs.YtamedcnjanichabGreatDoor

namespace Go.Proofs.YtamedcnjanichabGreatDoor
open Go.RowKit Go.Extern Cr

theorem piece_cons {l : List Nat} {a k x : Nat} (hx : l[a]? = some x) : piece l a (k + 1) = x :: piece l (a + 1) k := by
  unfold piece
  have hlt := (List.getElem?_eq_some_iff.1 hx).1
  have e : l.drop a = x :: l.drop (a + 1) := by
    rw [List.drop_eq_getElem_cons hlt]
    congr 1
    exact (List.getElem?_eq_some_iff.1 hx).2
  rw [e]
  rfl
end Go.Proofs.YtamedcnjanichabGreatDoor

namespace Go.Proofs.YtamedcnjanichabGreatDoor
open Go.RowKit Go.Extern Cr

attribute [local go_sem] Oper.semAt_some

theorem hasW_new1 (w : World) (a : Nat) : HasW (w.alloc (.cells #[.int .u32 (a : Int)] 39)) (.slice (some ⟨w.heap.size, 0, none⟩) [a].length 1) [a] := hasW_new w [a] 1 (0, 0)
theorem take_more {l : List Nat} {i x : Nat} (h : l[i]? = some x) : l.take (i + 1) = l.take i ++ [x] := by
  rw [List.take_add_one, h]; rfl

set_option maxRecDepth 100000 in
set_option maxHeartbeats 1000000 in
theorem twinW_calls (lo : Option Addr) (lc : Nat) (l : List Nat) (w : World) (hl : HasW w (.slice lo l.length lc) l) (hm : l.length * 4 ≤ 140737488351232) :
    Calls Tryz.prog 20 #[.slice lo l.length lc] w fun e w' => ∃ mo mc, e = .returned (.slice mo l.length mc) ∧ w'.ownsRow w.heap.size 39 1 (.slice mo l.length mc) l.length (wv l) ∧ Below w.heap.size w w' := by
  have HL : Hid (HasW w (.slice lo l.length lc) l) := hl
  clear hl
  go_enter Tryz.func20, Tryz.ntmps20
  go_wp2_with fail
  go_loopw [3, 8] (fun mv nv wr => ∃ (k : Nat) (so : Option Addr) (sc : Nat), k ≤ l.length ∧ nv = .int .i64 k ∧ mv = .slice so k sc ∧ wr.ownsRow w.heap.size 39 1 (.slice so k sc) k (wv (l.take k)) ∧ Below w.heap.size w wr) (fun _ nv _ => l.length - (intOf nv).toNat)
  case atStart => exact ⟨0, none, 0, Nat.zero_le _, rfl, rfl, World.ownsRow_nil _ _ _ _, Below.refl _ _⟩
  case round =>
    obtain ⟨k, so, sc, hk, rfl, rfl, hO, hB⟩ := hrel
    have HK : Hid (wr.ownsRow w.heap.size 39 1 (.slice so k sc) k (wv (l.take k)) ∧ Below w.heap.size w wr) := ⟨hO, hB⟩
    by_cases hlt : k < l.length
    · obtain ⟨a, ha⟩ : ∃ a, l[k]? = some a := ⟨l[k], List.getElem?_eq_getElem hlt⟩
      obtain ⟨b, off, hlo, hbl, q0⟩ := HL.out.at ha
      subst hlo
      have c0 := (hB.cell (p := ⟨b, off + k, none⟩) hbl).trans q0
      have HT1 : Hid (l.take (k + 1) = l.take k ++ [a]) := take_more ha
      have hlk : (l.take k).length = k := by rw [List.length_take]; omega
      have HLK : Hid ((l.take k).length = k) := hlk
      have i1 : (k : Int) < (l.length : Int) := by omega
      have i2 : (0 : Int) ≤ (k : Int) := by omega
      clear q0 ha hO hB hlk
      go_wp2_with (at_builtin; refine wpList_append_W rfl _ _ rfl w.heap.size (.slice so k sc) (l.take k) rfl (by rw [HLK.out]; exact wown_alloc HK.out.1 _) (some ⟨wr.heap.size, 0, none⟩) 1 [a] rfl (hasW_new1 wr a) (fun e => by cases e) (by rw [HLK.out]; show (k + 1) * 4 ≤ _; omega) (by have := HK.out.2.size; simp; omega) ?_; intro v5 w5 hown5 hgr5; have H5 : Hid (w5.ownsRow w.heap.size 39 1 v5 (k + 1) (wv (l.take (k + 1))) ∧ Below w.heap.size w w5) := (by refine ⟨?_, wbelow_grown (HK.out.2.alloc HK.out.2.size _) (wown_alloc HK.out.1 _) hgr5 (by have := HK.out.2.size; simp; omega)⟩; rw [List.length_append, HLK.out] at hown5; rw [HT1.out]; exact hown5); clear hown5 hgr5; obtain ⟨po, pc, hv5⟩ := wown_slice H5.out.1; subst hv5)
      exact ⟨⟨k + 1, po, pc, by omega, by rw [show (k : Int) + 1 = ((k + 1 : Nat) : Int) by omega], rfl, H5.out.1, H5.out.2⟩, by simp only [intOf]; omega⟩
    · obtain rfl : k = l.length := by omega
      have HK2 : Hid (wr.ownsRow w.heap.size 39 1 (.slice so l.length sc) l.length (wv l) ∧ Below w.heap.size w wr) := ⟨by rw [List.take_length] at hO; exact hO, hB⟩
      clear hO hB HK
      go_wp2_with fail
      go_ret
      exact ⟨so, sc, rfl, HK2.out.1, HK2.out.2⟩

set_option maxRecDepth 100000 in
set_option maxHeartbeats 1000000 in
theorem sameW_calls (ao bo : Option Addr) (ac bc : Nat) (l : List Nat) (w : World) (ha : HasW w (.slice ao l.length ac) l) (hb : HasW w (.slice bo l.length bc) l) (hm : l.length ≤ 140737488351232) :
    Calls Tryz.prog 25 #[.slice ao l.length ac, .slice bo l.length bc] w fun e w' => e = .returned (.bool true) ∧ Below w.heap.size w w' := by
  have HA : Hid (HasW w (.slice ao l.length ac) l ∧ HasW w (.slice bo l.length bc) l) := ⟨ha, hb⟩
  clear ha hb
  go_enter Tryz.func25, Tryz.ntmps25
  go_wp2_with fail
  go_loopw [13] (fun nv wr => ∃ k : Nat, k ≤ l.length ∧ nv = .int .i64 k ∧ Below w.heap.size w wr) (fun nv _ => l.length - (intOf nv).toNat)
  case atStart => exact ⟨0, Nat.zero_le _, rfl, Below.refl _ _⟩
  case round =>
    obtain ⟨k, hk, rfl, hB⟩ := hrel
    have HB : Hid (Below w.heap.size w wr) := hB
    by_cases hlt : k < l.length
    · obtain ⟨x, hx⟩ : ∃ a, l[k]? = some a := ⟨l[k], List.getElem?_eq_getElem hlt⟩
      obtain ⟨b1, o1, e1, hl1, q1⟩ := HA.out.1.at hx
      obtain ⟨b2, o2, e2, hl2, q2⟩ := HA.out.2.at hx
      subst e1 e2
      have c1 := (hB.cell (p := ⟨b1, o1 + k, none⟩) hl1).trans q1
      have c2 := (hB.cell (p := ⟨b2, o2 + k, none⟩) hl2).trans q2
      have i1 : (k : Int) < (l.length : Int) := by omega
      have i2 : (0 : Int) ≤ (k : Int) := by omega
      clear q1 q2 hB hx
      go_wp2_with fail
      go_quiet (fail)
      go_wp2_with fail
      exact ⟨⟨k + 1, by omega, by rw [show (k : Int) + 1 = ((k + 1 : Nat) : Int) by omega], below_drewN HB.out nq⟩, by simp only [intOf]; omega⟩
    · obtain rfl : k = l.length := by omega
      go_wp2_with fail
      go_ret
      exact ⟨rfl, HB.out⟩
end Go.Proofs.YtamedcnjanichabGreatDoor

namespace Go.Proofs.YtamedcnjanichabGreatDoor
open Go.RowKit Go.Extern Cr

attribute [local go_sem] Oper.semAt_some

/-- words as bytes. -/
def bytesOf (ws : List Nat) : List Nat := ws.flatMap fun v => leN v 4
theorem bytesOf_snoc (ws : List Nat) (x : Nat) : bytesOf (ws ++ [x]) = bytesOf ws ++ leN x 4 := by simp [bytesOf]
theorem bytesOf_len : ∀ ws : List Nat, (bytesOf ws).length = 4 * ws.length
  | [] => rfl
  | v :: r => by
    show (leN v 4 ++ bytesOf r).length = 4 * (r.length + 1)
    rw [List.length_append, leN_len, bytesOf_len r]
    omega
theorem bytesOf_bts : ∀ ws : List Nat, Bts (bytesOf ws)
  | [] => fun v hv => by cases hv
  | v :: r => (leN_bts 4 v).app (bytesOf_bts r)
theorem bytesOf_piece : ∀ (ws : List Nat) (i x : Nat), ws[i]? = some x → piece (bytesOf ws) (4 * i) 4 = leN x 4
  | [], i, x, h => by simp at h
  | v :: r, 0, x, h => by
    simp at h
    subst h
    show ((leN v 4 ++ bytesOf r).drop 0).take 4 = leN v 4
    rw [List.drop_zero, List.take_append_of_le_length (by rw [leN_len]; exact Nat.le_refl _), List.take_of_length_le (by rw [leN_len]; exact Nat.le_refl _)]
  | v :: r, i + 1, x, h => by
    have ih := bytesOf_piece r i x (by simpa using h)
    show ((leN v 4 ++ bytesOf r).drop (4 * (i + 1))).take 4 = leN x 4
    rw [show 4 * (i + 1) = (leN v 4).length + 4 * i by rw [leN_len]; omega, List.drop_append, List.drop_eq_nil_of_le (by omega), List.nil_append, Nat.add_sub_cancel_left]
    exact ih
theorem piece_behind (l B : List Nat) (i n : Nat) : piece (l ++ B) (l.length + i) n = piece B i n := by
  unfold piece
  rw [List.drop_append, List.drop_eq_nil_of_le (by omega), List.nil_append, Nat.add_sub_cancel_left]
theorem words_back {l ws : List Nat} (hw : ∀ x ∈ ws, x < 4294967296) : wordsOf (l ++ bytesOf ws) l.length ws.length = ws := by
  apply List.ext_getElem?
  intro i
  by_cases h : i < ws.length
  · rw [wordsOf_at h, piece_behind, bytesOf_piece ws i ws[i] (List.getElem?_eq_getElem h), leN_num, List.getElem?_eq_getElem h]
    congr 1
    have := hw ws[i] (List.getElem_mem h)
    show ws[i] % 4294967296 = ws[i]
    omega
  · rw [List.getElem?_eq_none (by rw [wordsOf_len]; omega), List.getElem?_eq_none (by omega)]

set_option maxRecDepth 100000 in
set_option maxHeartbeats 1000000 in
theorem putWords_calls (lo ro : Option Addr) (lc rc : Nat) (l ws : List Nat) (w : World) (hl : HasB w (.slice lo l.length lc) l) (hr : HasW w (.slice ro ws.length rc) ws) (hm : l.length ≤ 140737488351232) (hwm : ws.length * 4 ≤ 140737488351232) (hc : lo = none → lc = 0) (hw : ∀ x ∈ ws, x < 4294967296) :
    Calls Tryz.prog 23 #[.slice lo l.length lc, .slice ro ws.length rc] w fun e w' => ∃ g, e = .returned (.slice (some ⟨g, 0, none⟩) (l.length + 4 * ws.length) (l.length + 4 * ws.length)) ∧ Room w w' g (l.length + 4 * ws.length) (l ++ bytesOf ws) := by
  have HR := roomier_calls lo lc l (4 * ws.length) w hl (by omega) hc
  have HL : Hid (HasW w (.slice ro ws.length rc) ws ∧ ∀ x ∈ ws, x < 4294967296) := ⟨hr, hw⟩
  have hcast : ((4 * ws.length : Nat) : Int) = 4 * (ws.length : Int) := by omega
  rw [hcast] at HR
  clear hl hr hc hw hcast
  go_enter Tryz.func23, Tryz.ntmps23
  go_wp2_with (go_at_call 49; refine HR.mono ?_; rintro e w1 ⟨g, rfl, hr1⟩; have H1 : Hid (Room w w1 g (l.length + 4 * ws.length) l) := hr1; clear hr1)
  go_loopw [5, 15] (fun ov nv wr => ∃ k : Nat, k ≤ ws.length ∧ nv = .int .i64 k ∧ ov = .slice (some ⟨g, 0, none⟩) (l.length + 4 * k) (l.length + 4 * ws.length) ∧ Room w wr g (l.length + 4 * ws.length) (l ++ bytesOf (ws.take k))) (fun _ nv _ => ws.length - (intOf nv).toNat)
  case atStart => exact ⟨0, Nat.zero_le _, rfl, rfl, by show Room w w1 g _ (l ++ []); rw [List.append_nil]; exact H1.out⟩
  case round =>
    obtain ⟨k, hk, rfl, rfl, hR⟩ := hrel
    have HK : Hid (Room w wr g (l.length + 4 * ws.length) (l ++ bytesOf (ws.take k))) := hR
    by_cases hlt : k < ws.length
    · obtain ⟨x, hx⟩ : ∃ a, ws[k]? = some a := ⟨ws[k], List.getElem?_eq_getElem hlt⟩
      obtain ⟨b, off, hlo, hbl, q0⟩ := HL.out.1.at hx
      subst hlo
      have c0 := (hR.below.cell (p := ⟨b, off + k, none⟩) hbl).trans q0
      have hx4 : x < 4294967296 := HL.out.2 x (List.mem_of_getElem? hx)
      have hlen : (l ++ bytesOf (ws.take k)).length = l.length + 4 * k := by rw [List.length_append, bytesOf_len, List.length_take, Nat.min_eq_left (by omega)]
      have HT : Hid (l ++ bytesOf (ws.take (k + 1)) = (l ++ bytesOf (ws.take k)) ++ leN x 4) := (by rw [take_more hx, bytesOf_snoc, List.append_assoc] : l ++ bytesOf (ws.take (k + 1)) = (l ++ bytesOf (ws.take k)) ++ leN x 4)
      have hBh := behind_calls w g (l.length + 4 * ws.length) (l ++ bytesOf (ws.take k)) x 4 (by omega) wr hR (by rw [hlen]; omega) (by omega)
      rw [hlen, ← HT.out] at hBh
      have i1 : (k : Int) < (ws.length : Int) := by omega
      have i2 : (0 : Int) ≤ (k : Int) := by omega
      have hxI : (x : Int) ≤ 4294967295 := by omega
      clear q0 hx hR hlen hx4
      go_wp2_with (go_at_call 50; refine hBh.mono ?_; rintro e w2 ⟨rfl, hr2⟩; have H2 : Hid (Room w w2 g (l.length + 4 * ws.length) (l ++ bytesOf (ws.take (k + 1)))) := hr2; clear hr2)
      exact ⟨⟨k + 1, by omega, by rw [show (k : Int) + 1 = ((k + 1 : Nat) : Int) by omega], by congr 1, H2.out⟩, by simp only [intOf]; omega⟩
    · obtain rfl : k = ws.length := by omega
      have HK2 : Hid (Room w wr g (l.length + 4 * ws.length) (l ++ bytesOf ws)) := by rw [List.take_length] at hR; exact hR
      clear hR HK
      go_wp2_with fail
      go_ret
      exact ⟨g, rfl, HK2.out⟩

theorem slice_upB (b off n lc i : Nat) (h : n ≤ lc) (hi : i ≤ n) (w : World) : (Instr.slice 26 (.slice (some ⟨b, off, none⟩) n lc) none (some (.int .i64 (i : Int))) none).run Tryz.prog w = .ok (.slice (some ⟨b, off, none⟩) i lc) w := by
  rw [run_slice_h (ht := Tryz.elemO) (h0 := by omega) (h2 := by omega), Tryz.sizeO]
  have e2 : (i : Int).toNat = i := by omega
  simp only [Result.andThen_ok, sliced, e2]
  simp [Addr.add]
theorem hasB_tk {w : World} {lo : Option Addr} {lc n : Nat} {l : List Nat} (h : HasB w (.slice lo n lc) l) (k : Nat) : HasB w (.slice lo (l.take k).length lc) (l.take k) := by
  refine ⟨lo, lc, rfl, fun j a hj => ?_⟩
  have hj' : l[j]? = some a := by
    rw [List.getElem?_take] at hj
    split at hj
    · exact hj
    · cases hj
  exact h.at hj'

end Go.Proofs.YtamedcnjanichabGreatDoor

namespace Go.Proofs.YtamedcnjanichabGreatDoor
open Go.RowKit Go.Extern Cr

attribute [local go_sem] Oper.semAt_some

theorem take_more' {l : List Nat} {i x : Nat} (h : l[i]? = some x) : l.take (i + 1) = l.take i ++ [x] := by
  rw [List.take_add_one, h]; rfl
theorem pow8 (k : Nat) : (2 : Nat) ^ (8 * k) = 256 ^ k := by rw [Nat.pow_mul]
set_option maxRecDepth 100000 in
set_option maxHeartbeats 1000000 in
theorem vPut_calls (lo : Option Addr) (lc : Nat) (l : List Nat) (v n : Nat) (hv : v < 18446744073709551616) (w : World) (hl : HasB w (.slice lo l.length lc) l) (hm : l.length + 8 ≤ 140737488355328) (hc : lo = none → lc = 0) (hn : n ≤ 8) :
    Calls Tryz.prog 63 #[.slice lo l.length lc, .int .u64 (v : Int), .int .i64 (n : Int)] w fun e w' => ∃ mo mc, e = .returned (.slice mo (l.length + n) mc) ∧ w'.ownsRow w.heap.size 5 1 (.slice mo (l.length + n) mc) (l.length + n) (bv (l ++ leN v n)) ∧ Below w.heap.size w w' := by
  have HL : Hid (HasB w (.slice lo l.length lc) l ∧ (lo = none → lc = 0)) := ⟨hl, hc⟩
  have HV : Hid (v < 18446744073709551616) := hv
  clear hl hc hv
  go_enter Tryz.func63, Tryz.ntmps63
  go_wp2_with (at_builtin; refine wpList_append_B rfl _ _ rfl w.heap.size (.slice none 0 0) [] rfl (World.ownsRow_nil _ _ _ _) lo lc l rfl HL.out.1 HL.out.2 (by simp only [List.length_nil]; omega) (Nat.le_refl _) ?_; intro v5 w5 hown5 hgr5; have H5 : Hid (w5.ownsRow w.heap.size 5 1 v5 l.length (bv l) ∧ Below w.heap.size w w5) := (by refine ⟨?_, bbelow_grown (Below.refl _ _) (World.ownsRow_nil _ _ _ _) hgr5 (Nat.le_refl _)⟩; simpa using hown5); clear hown5 hgr5; obtain ⟨po, pc, hv5⟩ := bown_slice H5.out.1; subst hv5)
  go_loopw [7, 8] (fun ov nv wr => ∃ (k : Nat) (so : Option Addr) (sc : Nat), k ≤ n ∧ nv = .int .i64 k ∧ ov = .slice so (l.length + k) sc ∧ wr.ownsRow w.heap.size 5 1 (.slice so (l.length + k) sc) (l.length + k) (bv (l ++ leN v k)) ∧ Below w.heap.size w wr) (fun _ nv _ => n - (intOf nv).toNat)
  case atStart => exact ⟨0, po, pc, Nat.zero_le _, rfl, rfl, by rw [show l ++ leN v 0 = l from List.append_nil l]; exact H5.out.1, H5.out.2⟩
  case round =>
    obtain ⟨k, so, sc, hk, rfl, rfl, hO, hB⟩ := hrel
    have HK : Hid (wr.ownsRow w.heap.size 5 1 (.slice so (l.length + k) sc) (l.length + k) (bv (l ++ leN v k)) ∧ Below w.heap.size w wr) := ⟨hO, hB⟩
    clear hO hB
    by_cases hlt : k < n
    · have HN : Hid (leN v (k + 1) = leN v k ++ [v / 256 ^ k % 256]) := leN_snoc k v
      have HLen : Hid ((l ++ leN v k).length = l.length + k) := (by rw [List.length_append, leN_len] : (l ++ leN v k).length = l.length + k)
      have hq : (v : Int) / 2 ^ (8 * k) = ((v / 256 ^ k : Nat) : Int) := by
        rw [← pow8 k]
        simp
      have hwx : IntKind.i64.wrap (8 * (k : Int)) = 8 * (k : Int) := by rw [IntKind.wrap_i64] <;> omega
      have i3 : (0 : Int) ≤ 8 * (k : Int) := by omega
      have i4 : 8 * (k : Int) ≤ 64 := by omega
      have hcast : ((v / 256 ^ k : Nat) : Int) = (v : Int) / 256 ^ k := by simp
      rw [hcast] at hq
      have HB : Hid (HasB (wr.alloc (.cells #[.int .u8 ((v : Int) / 256 ^ k % 256)] 5)) (.slice (some ⟨wr.heap.size, 0, none⟩) [v / 256 ^ k % 256].length 1) [v / 256 ^ k % 256]) := by
        have hh := hasB_new1 wr (v / 256 ^ k % 256)
        rw [show ((v / 256 ^ k % 256 : Nat) : Int) = (v : Int) / 256 ^ k % 256 by rw [← hcast]; omega] at hh
        exact hh
      have i1 : (k : Int) < (n : Int) := by omega
      clear hcast
      go_wp2_with (at_builtin; refine wpList_append_B rfl _ _ rfl w.heap.size (.slice so (l.length + k) sc) (l ++ leN v k) rfl (by rw [HLen.out]; exact bown_alloc HK.out.1 _) (some ⟨wr.heap.size, 0, none⟩) 1 [v / 256 ^ k % 256] rfl HB.out (fun e => by cases e) (by rw [HLen.out]; show l.length + k + 1 ≤ _; omega) (by have := HK.out.2.size; simp; omega) ?_; intro v6 w6 hown6 hgr6; have H6 : Hid (w6.ownsRow w.heap.size 5 1 v6 (l.length + (k + 1)) (bv (l ++ leN v (k + 1))) ∧ Below w.heap.size w w6) := (by refine ⟨?_, bbelow_grown (HK.out.2.alloc HK.out.2.size _) (bown_alloc HK.out.1 _) hgr6 (by have := HK.out.2.size; simp; omega)⟩; rw [List.length_append, HLen.out] at hown6; rw [HN.out, ← List.append_assoc]; exact hown6); clear hown6 hgr6; obtain ⟨qo, qc, hv6⟩ := bown_slice H6.out.1; subst hv6)
      exact ⟨⟨k + 1, qo, qc, by omega, by rw [show (k : Int) + 1 = ((k + 1 : Nat) : Int) by omega], rfl, H6.out.1, H6.out.2⟩, by simp only [intOf]; omega⟩
    · obtain rfl : k = n := by omega
      go_wp2_with fail
      go_ret
      exact ⟨so, sc, rfl, HK.out.1, HK.out.2⟩

theorem leN_four (x : Nat) : leN x 4 = [x % 256, x / 256 % 256, x / 65536 % 256, x / 16777216 % 256] := by
  show [x % 256, x / 256 % 256, x / 256 / 256 % 256, x / 256 / 256 / 256 % 256] = _
  rw [Nat.div_div_eq_div_mul, Nat.div_div_eq_div_mul]
theorem hasB_word (w : World) {s : Nat} (hs : s < 4294967296) : HasB (w.alloc (.cells #[.int .u8 ((s : Int) % 256), .int .u8 ((s : Int) / 256 % 256), .int .u8 ((s : Int) / 65536 % 256), .int .u8 ((s : Int) / 16777216)] 5)) (.slice (some ⟨w.heap.size, 0, none⟩) (leN s 4).length 4) (leN s 4) := by
  rw [leN_four]
  have h := hasB_new w [s % 256, s / 256 % 256, s / 65536 % 256, s / 16777216 % 256] 4 (0, 0)
  have e : (bv [s % 256, s / 256 % 256, s / 65536 % 256, s / 16777216 % 256]).toArray = #[.int .u8 ((s : Int) % 256), .int .u8 ((s : Int) / 256 % 256), .int .u8 ((s : Int) / 65536 % 256), .int .u8 ((s : Int) / 16777216)] := by
    have e0 : ((s % 256 : Nat) : Int) = (s : Int) % 256 := by omega
    have e1 : ((s / 256 % 256 : Nat) : Int) = (s : Int) / 256 % 256 := by omega
    have e2 : ((s / 65536 % 256 : Nat) : Int) = (s : Int) / 65536 % 256 := by omega
    have e3 : ((s / 16777216 % 256 : Nat) : Int) = (s : Int) / 16777216 := by omega
    show #[Value.int .u8 ((s % 256 : Nat) : Int), .int .u8 ((s / 256 % 256 : Nat) : Int), .int .u8 ((s / 65536 % 256 : Nat) : Int), .int .u8 ((s / 16777216 % 256 : Nat) : Int)] = _
    rw [e0, e1, e2, e3]
  rw [e] at h
  exact h

set_option maxRecDepth 100000 in
set_option maxHeartbeats 1000000 in
theorem vPutWords_calls (lo ro : Option Addr) (lc rc : Nat) (l ws : List Nat) (w : World) (hl : HasB w (.slice lo l.length lc) l) (hr : HasW w (.slice ro ws.length rc) ws) (hm : l.length + 4 * ws.length ≤ 140737488355328) (hc : lo = none → lc = 0) (hw : ∀ x ∈ ws, x < 4294967296) :
    Calls Tryz.prog 32 #[.slice lo l.length lc, .slice ro ws.length rc] w fun e w' => ∃ mo mc, e = .returned (.slice mo (l.length + 4 * ws.length) mc) ∧ w'.ownsRow w.heap.size 5 1 (.slice mo (l.length + 4 * ws.length) mc) (l.length + 4 * ws.length) (bv (l ++ bytesOf ws)) ∧ Below w.heap.size w w' := by
  have HL : Hid ((HasB w (.slice lo l.length lc) l ∧ (lo = none → lc = 0)) ∧ HasW w (.slice ro ws.length rc) ws ∧ ∀ x ∈ ws, x < 4294967296) := ⟨⟨hl, hc⟩, hr, hw⟩
  clear hl hc hr hw
  go_enter Tryz.func32, Tryz.ntmps32
  go_wp2_with (at_builtin; refine wpList_append_B rfl _ _ rfl w.heap.size (.slice none 0 0) [] rfl (World.ownsRow_nil _ _ _ _) lo lc l rfl HL.out.1.1 HL.out.1.2 (by simp only [List.length_nil]; omega) (Nat.le_refl _) ?_; intro v5 w5 hown5 hgr5; have H5 : Hid (w5.ownsRow w.heap.size 5 1 v5 l.length (bv l) ∧ Below w.heap.size w w5) := (by refine ⟨?_, bbelow_grown (Below.refl _ _) (World.ownsRow_nil _ _ _ _) hgr5 (Nat.le_refl _)⟩; simpa using hown5); clear hown5 hgr5; obtain ⟨po, pc, hv5⟩ := bown_slice H5.out.1; subst hv5)
  go_loopw [5, 13] (fun ov nv wr => ∃ (k : Nat) (so : Option Addr) (sc : Nat), k ≤ ws.length ∧ nv = .int .i64 k ∧ ov = .slice so (l.length + 4 * k) sc ∧ wr.ownsRow w.heap.size 5 1 (.slice so (l.length + 4 * k) sc) (l.length + 4 * k) (bv (l ++ bytesOf (ws.take k))) ∧ Below w.heap.size w wr) (fun _ nv _ => ws.length - (intOf nv).toNat)
  case atStart => exact ⟨0, po, pc, Nat.zero_le _, rfl, rfl, by rw [show l ++ bytesOf (ws.take 0) = l from List.append_nil l]; exact H5.out.1, H5.out.2⟩
  case round =>
    obtain ⟨k, so, sc, hk, rfl, rfl, hO, hB⟩ := hrel
    have HK : Hid (wr.ownsRow w.heap.size 5 1 (.slice so (l.length + 4 * k) sc) (l.length + 4 * k) (bv (l ++ bytesOf (ws.take k))) ∧ Below w.heap.size w wr) := ⟨hO, hB⟩
    by_cases hlt : k < ws.length
    · obtain ⟨x, hx⟩ : ∃ a, ws[k]? = some a := ⟨ws[k], List.getElem?_eq_getElem hlt⟩
      obtain ⟨b, off, hlo, hbl, q0⟩ := HL.out.2.1.at hx
      subst hlo
      have c0 := (hB.cell (p := ⟨b, off + k, none⟩) hbl).trans q0
      have hx4 : x < 4294967296 := HL.out.2.2 x (List.mem_of_getElem? hx)
      have HX4 : Hid (x < 4294967296) := hx4
      have hxI : (x : Int) ≤ 4294967295 := by omega
      have HLen : Hid ((l ++ bytesOf (ws.take k)).length = l.length + 4 * k) := (by rw [List.length_append, bytesOf_len, List.length_take, Nat.min_eq_left (by omega)] : (l ++ bytesOf (ws.take k)).length = l.length + 4 * k)
      have HT : Hid (l ++ bytesOf (ws.take (k + 1)) = (l ++ bytesOf (ws.take k)) ++ leN x 4) := (by rw [take_more' hx, bytesOf_snoc, List.append_assoc] : l ++ bytesOf (ws.take (k + 1)) = (l ++ bytesOf (ws.take k)) ++ leN x 4)
      have i1 : (k : Int) < (ws.length : Int) := by omega
      have i2 : (0 : Int) ≤ (k : Int) := by omega
      clear q0 hx hO hB hx4
      go_wp2_with (at_builtin; refine wpList_append_B rfl _ _ rfl w.heap.size (.slice so (l.length + 4 * k) sc) (l ++ bytesOf (ws.take k)) rfl (by rw [HLen.out]; exact bown_alloc HK.out.1 _) (some ⟨wr.heap.size, 0, none⟩) 4 (leN x 4) rfl (hasB_word wr HX4.out) (fun e => by cases e) (by rw [HLen.out]; show l.length + 4 * k + 4 ≤ _; omega) (by have := HK.out.2.size; simp; omega) ?_; intro v6 w6 hown6 hgr6; have H6 : Hid (w6.ownsRow w.heap.size 5 1 v6 (l.length + 4 * (k + 1)) (bv (l ++ bytesOf (ws.take (k + 1)))) ∧ Below w.heap.size w w6) := (by refine ⟨?_, bbelow_grown (HK.out.2.alloc HK.out.2.size _) (bown_alloc HK.out.1 _) hgr6 (by have := HK.out.2.size; simp; omega)⟩; rw [List.length_append, HLen.out] at hown6; rw [HT.out]; exact hown6); clear hown6 hgr6; obtain ⟨qo, qc, hv6⟩ := bown_slice H6.out.1; subst hv6)
      exact ⟨⟨k + 1, qo, qc, by omega, by rw [show (k : Int) + 1 = ((k + 1 : Nat) : Int) by omega], rfl, H6.out.1, H6.out.2⟩, by simp only [intOf]; omega⟩
    · obtain rfl : k = ws.length := by omega
      have HK2 : Hid (wr.ownsRow w.heap.size 5 1 (.slice so (l.length + 4 * ws.length) sc) (l.length + 4 * ws.length) (bv (l ++ bytesOf ws)) ∧ Below w.heap.size w wr) := ⟨by rw [List.take_length] at hO; exact hO, hB⟩
      clear hO hB HK
      go_wp2_with fail
      go_ret
      exact ⟨so, sc, rfl, HK2.out.1, HK2.out.2⟩
end Go.Proofs.YtamedcnjanichabGreatDoor
