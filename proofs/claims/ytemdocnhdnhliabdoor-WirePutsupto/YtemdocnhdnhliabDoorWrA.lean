/- numbers as bytes: mathematics; what at most eight bytes are (wire.number). -/
import Derived.Test.YtemdocnhdnhliabDoorCrD
namespace Go.Proofs.YtemdocnhdnhliabDoor
open Go.RowKit Go.Extern Cr

attribute [local go_sem] Oper.semAt_some

/-- the n lowest bytes of a number. -/
def leN : Nat → Nat → List Nat
  | _, 0 => []
  | v, n + 1 => v % 256 :: leN (v / 256) n
theorem leN_len (n : Nat) : ∀ v, (leN v n).length = n := by
  induction n with
  | zero => intro v; rfl
  | succ n ih => intro v; show (leN (v / 256) n).length + 1 = _; rw [ih]
theorem leN_bts (n : Nat) : ∀ v, Bts (leN v n) := by
  induction n with
  | zero => intro v x hx; cases hx
  | succ n ih =>
    intro v x hx
    rcases List.mem_cons.1 hx with rfl | h
    · omega
    · exact ih _ x h
theorem leN_num (n : Nat) : ∀ v, num (leN v n) = v % 256 ^ n := by
  induction n with
  | zero => intro v; show 0 = v % 1; omega
  | succ n ih =>
    intro v
    show v % 256 + 256 * num (leN (v / 256) n) = _
    rw [ih, Nat.pow_succ, Nat.mul_comm (256 ^ n), Nat.mod_mul]
theorem leN_snoc (n : Nat) : ∀ v, leN v (n + 1) = leN v n ++ [v / 256 ^ n % 256] := by
  induction n with
  | zero => intro v; show [v % 256] = [v / 1 % 256]; rw [Nat.div_one]
  | succ n ih =>
    intro v
    show v % 256 :: leN (v / 256) (n + 1) = v % 256 :: (leN (v / 256) n ++ [v / 256 ^ (n + 1) % 256])
    rw [ih, Nat.pow_succ, Nat.mul_comm (256 ^ n), ← Nat.div_div_eq_div_mul]
theorem num_le64 {l : List Nat} (h : Bts l) (hl : l.length ≤ 8) : num l < 18446744073709551616 := by
  have h1 := num_lt h
  have h2 : 2 ^ (8 * l.length) ≤ 2 ^ 64 := Nat.pow_le_pow_right (by omega) (by omega)
  have e : (2 : Nat) ^ 64 = 18446744073709551616 := by decide
  omega
theorem or_byte {x b : Nat} (hx : x < 72057594037927936) (hb : b < 256) : bits .or .u64 ((x : Int) * 256) (b : Int) = ((b + 256 * x : Nat) : Int) := by
  have e : (x : Int) * 256 = ((256 * x : Nat) : Int) := by omega
  have h := u64_or_nat (256 * x) b (by omega) (by omega)
  rw [e, h, Nat.or_comm, show 256 * x = 2 ^ 8 * x by omega, Nat.or_comm, ← Nat.two_pow_add_eq_or_of_lt hb, Nat.add_comm]
theorem or_none (b : Nat) (hb : b < 256) : bits .or .u64 0 (b : Int) = (b : Int) := by
  have h := or_byte (x := 0) (b := b) (by omega) hb
  simpa using h
theorem hasB_cell {w : World} {b off n c j a : Nat} {l : List Nat} (h : HasB w (.slice (some ⟨b, off, none⟩) n c) l) (hj : l[j]? = some a) : w.cell? ⟨b, off + j, none⟩ = some (.int .u8 (a : Int)) := by
  obtain ⟨b', off', e, _, hc⟩ := h.at hj
  injection e with e
  injection e with e1 e2 e3
  subst e1 e2
  exact hc
set_option maxRecDepth 100000 in
set_option maxHeartbeats 1000000 in
theorem number_1 (b off lc : Nat) (b0 : Nat) (w : World) (hl : HasB w (.slice (some ⟨b, off, none⟩) 1 lc) [b0]) (hb : Bts [b0]) :
    Calls Tryd.prog 33 #[.slice (some ⟨b, off, none⟩) 1 lc] w fun e w' => e = .returned (.int .u64 ((num [b0] : Nat) : Int)) ∧ w' = w := by
  have h0 : b0 < 256 := hb b0 (by simp)
  have c0 : w.cell? ⟨b, off, none⟩ = some (.int .u8 (b0 : Int)) := hasB_cell (j := 0) hl rfl
  have o0 := or_none b0 h0
  have l0 : b0 < 256 := h0
  have HN : Hid (num [b0] = b0) := by
    show num [b0] = _
    simp only [num]
    omega
  rw [HN.out]
  go_enter Tryd.func33, Tryd.ntmps33
  go_wp2_with fail
  go_ret
  exact ⟨rfl, rfl⟩
set_option maxRecDepth 100000 in
set_option maxHeartbeats 1000000 in
theorem number_2 (b off lc : Nat) (b0 b1 : Nat) (w : World) (hl : HasB w (.slice (some ⟨b, off, none⟩) 2 lc) [b0, b1]) (hb : Bts [b0, b1]) :
    Calls Tryd.prog 33 #[.slice (some ⟨b, off, none⟩) 2 lc] w fun e w' => e = .returned (.int .u64 ((num [b0, b1] : Nat) : Int)) ∧ w' = w := by
  have h0 : b0 < 256 := hb b0 (by simp)
  have c0 : w.cell? ⟨b, off, none⟩ = some (.int .u8 (b0 : Int)) := hasB_cell (j := 0) hl rfl
  have h1 : b1 < 256 := hb b1 (by simp)
  have c1 := hasB_cell (j := 1) hl rfl
  have o1 := or_none b1 h1
  have l1 : b1 < 256 := h1
  have o0 := or_byte (x := b1) (b := b0) (by omega) h0
  have l0 : b0 + 256 * b1 < 65536 := by omega
  have q0 : num [b0, b1] = b0 + 256 * num [b1] := rfl
  obtain ⟨y0, e0⟩ : ∃ y, y = b0 + 256 * b1 := ⟨_, rfl⟩
  rw [← e0] at o0 l0
  have HN : Hid (num [b0, b1] = y0) := by
    show num [b0, b1] = _
    simp only [num]
    omega
  clear q0 e0
  rw [HN.out]
  go_enter Tryd.func33, Tryd.ntmps33
  go_wp2_with fail
  go_ret
  exact ⟨rfl, rfl⟩
set_option maxRecDepth 100000 in
set_option maxHeartbeats 1000000 in
theorem number_3 (b off lc : Nat) (b0 b1 b2 : Nat) (w : World) (hl : HasB w (.slice (some ⟨b, off, none⟩) 3 lc) [b0, b1, b2]) (hb : Bts [b0, b1, b2]) :
    Calls Tryd.prog 33 #[.slice (some ⟨b, off, none⟩) 3 lc] w fun e w' => e = .returned (.int .u64 ((num [b0, b1, b2] : Nat) : Int)) ∧ w' = w := by
  have h0 : b0 < 256 := hb b0 (by simp)
  have c0 : w.cell? ⟨b, off, none⟩ = some (.int .u8 (b0 : Int)) := hasB_cell (j := 0) hl rfl
  have h1 : b1 < 256 := hb b1 (by simp)
  have c1 := hasB_cell (j := 1) hl rfl
  have h2 : b2 < 256 := hb b2 (by simp)
  have c2 := hasB_cell (j := 2) hl rfl
  have o2 := or_none b2 h2
  have l2 : b2 < 256 := h2
  have o1 := or_byte (x := b2) (b := b1) (by omega) h1
  have l1 : b1 + 256 * b2 < 65536 := by omega
  have q1 : num [b1, b2] = b1 + 256 * num [b2] := rfl
  obtain ⟨y1, e1⟩ : ∃ y, y = b1 + 256 * b2 := ⟨_, rfl⟩
  rw [← e1] at o1 l1
  have o0 := or_byte (x := y1) (b := b0) (by omega) h0
  have l0 : b0 + 256 * y1 < 16777216 := by omega
  have q0 : num [b0, b1, b2] = b0 + 256 * num [b1, b2] := rfl
  obtain ⟨y0, e0⟩ : ∃ y, y = b0 + 256 * y1 := ⟨_, rfl⟩
  rw [← e0] at o0 l0
  have HN : Hid (num [b0, b1, b2] = y0) := by
    show num [b0, b1, b2] = _
    simp only [num]
    omega
  clear q0 q1 e0 e1
  rw [HN.out]
  go_enter Tryd.func33, Tryd.ntmps33
  go_wp2_with fail
  go_ret
  exact ⟨rfl, rfl⟩
set_option maxRecDepth 100000 in
set_option maxHeartbeats 1000000 in
theorem number_4 (b off lc : Nat) (b0 b1 b2 b3 : Nat) (w : World) (hl : HasB w (.slice (some ⟨b, off, none⟩) 4 lc) [b0, b1, b2, b3]) (hb : Bts [b0, b1, b2, b3]) :
    Calls Tryd.prog 33 #[.slice (some ⟨b, off, none⟩) 4 lc] w fun e w' => e = .returned (.int .u64 ((num [b0, b1, b2, b3] : Nat) : Int)) ∧ w' = w := by
  have h0 : b0 < 256 := hb b0 (by simp)
  have c0 : w.cell? ⟨b, off, none⟩ = some (.int .u8 (b0 : Int)) := hasB_cell (j := 0) hl rfl
  have h1 : b1 < 256 := hb b1 (by simp)
  have c1 := hasB_cell (j := 1) hl rfl
  have h2 : b2 < 256 := hb b2 (by simp)
  have c2 := hasB_cell (j := 2) hl rfl
  have h3 : b3 < 256 := hb b3 (by simp)
  have c3 := hasB_cell (j := 3) hl rfl
  have o3 := or_none b3 h3
  have l3 : b3 < 256 := h3
  have o2 := or_byte (x := b3) (b := b2) (by omega) h2
  have l2 : b2 + 256 * b3 < 65536 := by omega
  have q2 : num [b2, b3] = b2 + 256 * num [b3] := rfl
  obtain ⟨y2, e2⟩ : ∃ y, y = b2 + 256 * b3 := ⟨_, rfl⟩
  rw [← e2] at o2 l2
  have o1 := or_byte (x := y2) (b := b1) (by omega) h1
  have l1 : b1 + 256 * y2 < 16777216 := by omega
  have q1 : num [b1, b2, b3] = b1 + 256 * num [b2, b3] := rfl
  obtain ⟨y1, e1⟩ : ∃ y, y = b1 + 256 * y2 := ⟨_, rfl⟩
  rw [← e1] at o1 l1
  have o0 := or_byte (x := y1) (b := b0) (by omega) h0
  have l0 : b0 + 256 * y1 < 4294967296 := by omega
  have q0 : num [b0, b1, b2, b3] = b0 + 256 * num [b1, b2, b3] := rfl
  obtain ⟨y0, e0⟩ : ∃ y, y = b0 + 256 * y1 := ⟨_, rfl⟩
  rw [← e0] at o0 l0
  have HN : Hid (num [b0, b1, b2, b3] = y0) := by
    show num [b0, b1, b2, b3] = _
    simp only [num]
    omega
  clear q0 q1 q2 e0 e1 e2
  rw [HN.out]
  go_enter Tryd.func33, Tryd.ntmps33
  go_wp2_with fail
  go_ret
  exact ⟨rfl, rfl⟩
set_option maxRecDepth 100000 in
set_option maxHeartbeats 1000000 in
theorem number_5 (b off lc : Nat) (b0 b1 b2 b3 b4 : Nat) (w : World) (hl : HasB w (.slice (some ⟨b, off, none⟩) 5 lc) [b0, b1, b2, b3, b4]) (hb : Bts [b0, b1, b2, b3, b4]) :
    Calls Tryd.prog 33 #[.slice (some ⟨b, off, none⟩) 5 lc] w fun e w' => e = .returned (.int .u64 ((num [b0, b1, b2, b3, b4] : Nat) : Int)) ∧ w' = w := by
  have h0 : b0 < 256 := hb b0 (by simp)
  have c0 : w.cell? ⟨b, off, none⟩ = some (.int .u8 (b0 : Int)) := hasB_cell (j := 0) hl rfl
  have h1 : b1 < 256 := hb b1 (by simp)
  have c1 := hasB_cell (j := 1) hl rfl
  have h2 : b2 < 256 := hb b2 (by simp)
  have c2 := hasB_cell (j := 2) hl rfl
  have h3 : b3 < 256 := hb b3 (by simp)
  have c3 := hasB_cell (j := 3) hl rfl
  have h4 : b4 < 256 := hb b4 (by simp)
  have c4 := hasB_cell (j := 4) hl rfl
  have o4 := or_none b4 h4
  have l4 : b4 < 256 := h4
  have o3 := or_byte (x := b4) (b := b3) (by omega) h3
  have l3 : b3 + 256 * b4 < 65536 := by omega
  have q3 : num [b3, b4] = b3 + 256 * num [b4] := rfl
  obtain ⟨y3, e3⟩ : ∃ y, y = b3 + 256 * b4 := ⟨_, rfl⟩
  rw [← e3] at o3 l3
  have o2 := or_byte (x := y3) (b := b2) (by omega) h2
  have l2 : b2 + 256 * y3 < 16777216 := by omega
  have q2 : num [b2, b3, b4] = b2 + 256 * num [b3, b4] := rfl
  obtain ⟨y2, e2⟩ : ∃ y, y = b2 + 256 * y3 := ⟨_, rfl⟩
  rw [← e2] at o2 l2
  have o1 := or_byte (x := y2) (b := b1) (by omega) h1
  have l1 : b1 + 256 * y2 < 4294967296 := by omega
  have q1 : num [b1, b2, b3, b4] = b1 + 256 * num [b2, b3, b4] := rfl
  obtain ⟨y1, e1⟩ : ∃ y, y = b1 + 256 * y2 := ⟨_, rfl⟩
  rw [← e1] at o1 l1
  have o0 := or_byte (x := y1) (b := b0) (by omega) h0
  have l0 : b0 + 256 * y1 < 1099511627776 := by omega
  have q0 : num [b0, b1, b2, b3, b4] = b0 + 256 * num [b1, b2, b3, b4] := rfl
  obtain ⟨y0, e0⟩ : ∃ y, y = b0 + 256 * y1 := ⟨_, rfl⟩
  rw [← e0] at o0 l0
  have HN : Hid (num [b0, b1, b2, b3, b4] = y0) := by
    show num [b0, b1, b2, b3, b4] = _
    simp only [num]
    omega
  clear q0 q1 q2 q3 e0 e1 e2 e3
  rw [HN.out]
  go_enter Tryd.func33, Tryd.ntmps33
  go_wp2_with fail
  go_ret
  exact ⟨rfl, rfl⟩
set_option maxRecDepth 100000 in
set_option maxHeartbeats 1000000 in
theorem number_6 (b off lc : Nat) (b0 b1 b2 b3 b4 b5 : Nat) (w : World) (hl : HasB w (.slice (some ⟨b, off, none⟩) 6 lc) [b0, b1, b2, b3, b4, b5]) (hb : Bts [b0, b1, b2, b3, b4, b5]) :
    Calls Tryd.prog 33 #[.slice (some ⟨b, off, none⟩) 6 lc] w fun e w' => e = .returned (.int .u64 ((num [b0, b1, b2, b3, b4, b5] : Nat) : Int)) ∧ w' = w := by
  have h0 : b0 < 256 := hb b0 (by simp)
  have c0 : w.cell? ⟨b, off, none⟩ = some (.int .u8 (b0 : Int)) := hasB_cell (j := 0) hl rfl
  have h1 : b1 < 256 := hb b1 (by simp)
  have c1 := hasB_cell (j := 1) hl rfl
  have h2 : b2 < 256 := hb b2 (by simp)
  have c2 := hasB_cell (j := 2) hl rfl
  have h3 : b3 < 256 := hb b3 (by simp)
  have c3 := hasB_cell (j := 3) hl rfl
  have h4 : b4 < 256 := hb b4 (by simp)
  have c4 := hasB_cell (j := 4) hl rfl
  have h5 : b5 < 256 := hb b5 (by simp)
  have c5 := hasB_cell (j := 5) hl rfl
  have o5 := or_none b5 h5
  have l5 : b5 < 256 := h5
  have o4 := or_byte (x := b5) (b := b4) (by omega) h4
  have l4 : b4 + 256 * b5 < 65536 := by omega
  have q4 : num [b4, b5] = b4 + 256 * num [b5] := rfl
  obtain ⟨y4, e4⟩ : ∃ y, y = b4 + 256 * b5 := ⟨_, rfl⟩
  rw [← e4] at o4 l4
  have o3 := or_byte (x := y4) (b := b3) (by omega) h3
  have l3 : b3 + 256 * y4 < 16777216 := by omega
  have q3 : num [b3, b4, b5] = b3 + 256 * num [b4, b5] := rfl
  obtain ⟨y3, e3⟩ : ∃ y, y = b3 + 256 * y4 := ⟨_, rfl⟩
  rw [← e3] at o3 l3
  have o2 := or_byte (x := y3) (b := b2) (by omega) h2
  have l2 : b2 + 256 * y3 < 4294967296 := by omega
  have q2 : num [b2, b3, b4, b5] = b2 + 256 * num [b3, b4, b5] := rfl
  obtain ⟨y2, e2⟩ : ∃ y, y = b2 + 256 * y3 := ⟨_, rfl⟩
  rw [← e2] at o2 l2
  have o1 := or_byte (x := y2) (b := b1) (by omega) h1
  have l1 : b1 + 256 * y2 < 1099511627776 := by omega
  have q1 : num [b1, b2, b3, b4, b5] = b1 + 256 * num [b2, b3, b4, b5] := rfl
  obtain ⟨y1, e1⟩ : ∃ y, y = b1 + 256 * y2 := ⟨_, rfl⟩
  rw [← e1] at o1 l1
  have o0 := or_byte (x := y1) (b := b0) (by omega) h0
  have l0 : b0 + 256 * y1 < 281474976710656 := by omega
  have q0 : num [b0, b1, b2, b3, b4, b5] = b0 + 256 * num [b1, b2, b3, b4, b5] := rfl
  obtain ⟨y0, e0⟩ : ∃ y, y = b0 + 256 * y1 := ⟨_, rfl⟩
  rw [← e0] at o0 l0
  have HN : Hid (num [b0, b1, b2, b3, b4, b5] = y0) := by
    show num [b0, b1, b2, b3, b4, b5] = _
    simp only [num]
    omega
  clear q0 q1 q2 q3 q4 e0 e1 e2 e3 e4
  rw [HN.out]
  go_enter Tryd.func33, Tryd.ntmps33
  go_wp2_with fail
  go_ret
  exact ⟨rfl, rfl⟩
set_option maxRecDepth 100000 in
set_option maxHeartbeats 1000000 in
theorem number_7 (b off lc : Nat) (b0 b1 b2 b3 b4 b5 b6 : Nat) (w : World) (hl : HasB w (.slice (some ⟨b, off, none⟩) 7 lc) [b0, b1, b2, b3, b4, b5, b6]) (hb : Bts [b0, b1, b2, b3, b4, b5, b6]) :
    Calls Tryd.prog 33 #[.slice (some ⟨b, off, none⟩) 7 lc] w fun e w' => e = .returned (.int .u64 ((num [b0, b1, b2, b3, b4, b5, b6] : Nat) : Int)) ∧ w' = w := by
  have h0 : b0 < 256 := hb b0 (by simp)
  have c0 : w.cell? ⟨b, off, none⟩ = some (.int .u8 (b0 : Int)) := hasB_cell (j := 0) hl rfl
  have h1 : b1 < 256 := hb b1 (by simp)
  have c1 := hasB_cell (j := 1) hl rfl
  have h2 : b2 < 256 := hb b2 (by simp)
  have c2 := hasB_cell (j := 2) hl rfl
  have h3 : b3 < 256 := hb b3 (by simp)
  have c3 := hasB_cell (j := 3) hl rfl
  have h4 : b4 < 256 := hb b4 (by simp)
  have c4 := hasB_cell (j := 4) hl rfl
  have h5 : b5 < 256 := hb b5 (by simp)
  have c5 := hasB_cell (j := 5) hl rfl
  have h6 : b6 < 256 := hb b6 (by simp)
  have c6 := hasB_cell (j := 6) hl rfl
  have o6 := or_none b6 h6
  have l6 : b6 < 256 := h6
  have o5 := or_byte (x := b6) (b := b5) (by omega) h5
  have l5 : b5 + 256 * b6 < 65536 := by omega
  have q5 : num [b5, b6] = b5 + 256 * num [b6] := rfl
  obtain ⟨y5, e5⟩ : ∃ y, y = b5 + 256 * b6 := ⟨_, rfl⟩
  rw [← e5] at o5 l5
  have o4 := or_byte (x := y5) (b := b4) (by omega) h4
  have l4 : b4 + 256 * y5 < 16777216 := by omega
  have q4 : num [b4, b5, b6] = b4 + 256 * num [b5, b6] := rfl
  obtain ⟨y4, e4⟩ : ∃ y, y = b4 + 256 * y5 := ⟨_, rfl⟩
  rw [← e4] at o4 l4
  have o3 := or_byte (x := y4) (b := b3) (by omega) h3
  have l3 : b3 + 256 * y4 < 4294967296 := by omega
  have q3 : num [b3, b4, b5, b6] = b3 + 256 * num [b4, b5, b6] := rfl
  obtain ⟨y3, e3⟩ : ∃ y, y = b3 + 256 * y4 := ⟨_, rfl⟩
  rw [← e3] at o3 l3
  have o2 := or_byte (x := y3) (b := b2) (by omega) h2
  have l2 : b2 + 256 * y3 < 1099511627776 := by omega
  have q2 : num [b2, b3, b4, b5, b6] = b2 + 256 * num [b3, b4, b5, b6] := rfl
  obtain ⟨y2, e2⟩ : ∃ y, y = b2 + 256 * y3 := ⟨_, rfl⟩
  rw [← e2] at o2 l2
  have o1 := or_byte (x := y2) (b := b1) (by omega) h1
  have l1 : b1 + 256 * y2 < 281474976710656 := by omega
  have q1 : num [b1, b2, b3, b4, b5, b6] = b1 + 256 * num [b2, b3, b4, b5, b6] := rfl
  obtain ⟨y1, e1⟩ : ∃ y, y = b1 + 256 * y2 := ⟨_, rfl⟩
  rw [← e1] at o1 l1
  have o0 := or_byte (x := y1) (b := b0) (by omega) h0
  have l0 : b0 + 256 * y1 < 72057594037927936 := by omega
  have q0 : num [b0, b1, b2, b3, b4, b5, b6] = b0 + 256 * num [b1, b2, b3, b4, b5, b6] := rfl
  obtain ⟨y0, e0⟩ : ∃ y, y = b0 + 256 * y1 := ⟨_, rfl⟩
  rw [← e0] at o0 l0
  have HN : Hid (num [b0, b1, b2, b3, b4, b5, b6] = y0) := by
    show num [b0, b1, b2, b3, b4, b5, b6] = _
    simp only [num]
    omega
  clear q0 q1 q2 q3 q4 q5 e0 e1 e2 e3 e4 e5
  rw [HN.out]
  go_enter Tryd.func33, Tryd.ntmps33
  go_wp2_with fail
  go_ret
  exact ⟨rfl, rfl⟩
set_option maxRecDepth 100000 in
set_option maxHeartbeats 1000000 in
theorem number_8 (b off lc : Nat) (b0 b1 b2 b3 b4 b5 b6 b7 : Nat) (w : World) (hl : HasB w (.slice (some ⟨b, off, none⟩) 8 lc) [b0, b1, b2, b3, b4, b5, b6, b7]) (hb : Bts [b0, b1, b2, b3, b4, b5, b6, b7]) :
    Calls Tryd.prog 33 #[.slice (some ⟨b, off, none⟩) 8 lc] w fun e w' => e = .returned (.int .u64 ((num [b0, b1, b2, b3, b4, b5, b6, b7] : Nat) : Int)) ∧ w' = w := by
  have h0 : b0 < 256 := hb b0 (by simp)
  have c0 : w.cell? ⟨b, off, none⟩ = some (.int .u8 (b0 : Int)) := hasB_cell (j := 0) hl rfl
  have h1 : b1 < 256 := hb b1 (by simp)
  have c1 := hasB_cell (j := 1) hl rfl
  have h2 : b2 < 256 := hb b2 (by simp)
  have c2 := hasB_cell (j := 2) hl rfl
  have h3 : b3 < 256 := hb b3 (by simp)
  have c3 := hasB_cell (j := 3) hl rfl
  have h4 : b4 < 256 := hb b4 (by simp)
  have c4 := hasB_cell (j := 4) hl rfl
  have h5 : b5 < 256 := hb b5 (by simp)
  have c5 := hasB_cell (j := 5) hl rfl
  have h6 : b6 < 256 := hb b6 (by simp)
  have c6 := hasB_cell (j := 6) hl rfl
  have h7 : b7 < 256 := hb b7 (by simp)
  have c7 := hasB_cell (j := 7) hl rfl
  have o7 := or_none b7 h7
  have l7 : b7 < 256 := h7
  have o6 := or_byte (x := b7) (b := b6) (by omega) h6
  have l6 : b6 + 256 * b7 < 65536 := by omega
  have q6 : num [b6, b7] = b6 + 256 * num [b7] := rfl
  obtain ⟨y6, e6⟩ : ∃ y, y = b6 + 256 * b7 := ⟨_, rfl⟩
  rw [← e6] at o6 l6
  have o5 := or_byte (x := y6) (b := b5) (by omega) h5
  have l5 : b5 + 256 * y6 < 16777216 := by omega
  have q5 : num [b5, b6, b7] = b5 + 256 * num [b6, b7] := rfl
  obtain ⟨y5, e5⟩ : ∃ y, y = b5 + 256 * y6 := ⟨_, rfl⟩
  rw [← e5] at o5 l5
  have o4 := or_byte (x := y5) (b := b4) (by omega) h4
  have l4 : b4 + 256 * y5 < 4294967296 := by omega
  have q4 : num [b4, b5, b6, b7] = b4 + 256 * num [b5, b6, b7] := rfl
  obtain ⟨y4, e4⟩ : ∃ y, y = b4 + 256 * y5 := ⟨_, rfl⟩
  rw [← e4] at o4 l4
  have o3 := or_byte (x := y4) (b := b3) (by omega) h3
  have l3 : b3 + 256 * y4 < 1099511627776 := by omega
  have q3 : num [b3, b4, b5, b6, b7] = b3 + 256 * num [b4, b5, b6, b7] := rfl
  obtain ⟨y3, e3⟩ : ∃ y, y = b3 + 256 * y4 := ⟨_, rfl⟩
  rw [← e3] at o3 l3
  have o2 := or_byte (x := y3) (b := b2) (by omega) h2
  have l2 : b2 + 256 * y3 < 281474976710656 := by omega
  have q2 : num [b2, b3, b4, b5, b6, b7] = b2 + 256 * num [b3, b4, b5, b6, b7] := rfl
  obtain ⟨y2, e2⟩ : ∃ y, y = b2 + 256 * y3 := ⟨_, rfl⟩
  rw [← e2] at o2 l2
  have o1 := or_byte (x := y2) (b := b1) (by omega) h1
  have l1 : b1 + 256 * y2 < 72057594037927936 := by omega
  have q1 : num [b1, b2, b3, b4, b5, b6, b7] = b1 + 256 * num [b2, b3, b4, b5, b6, b7] := rfl
  obtain ⟨y1, e1⟩ : ∃ y, y = b1 + 256 * y2 := ⟨_, rfl⟩
  rw [← e1] at o1 l1
  have o0 := or_byte (x := y1) (b := b0) (by omega) h0
  have l0 : b0 + 256 * y1 < 18446744073709551616 := by omega
  have q0 : num [b0, b1, b2, b3, b4, b5, b6, b7] = b0 + 256 * num [b1, b2, b3, b4, b5, b6, b7] := rfl
  obtain ⟨y0, e0⟩ : ∃ y, y = b0 + 256 * y1 := ⟨_, rfl⟩
  rw [← e0] at o0 l0
  have HN : Hid (num [b0, b1, b2, b3, b4, b5, b6, b7] = y0) := by
    show num [b0, b1, b2, b3, b4, b5, b6, b7] = _
    simp only [num]
    omega
  clear q0 q1 q2 q3 q4 q5 q6 e0 e1 e2 e3 e4 e5 e6
  rw [HN.out]
  go_enter Tryd.func33, Tryd.ntmps33
  go_wp2_with fail
  go_ret
  exact ⟨rfl, rfl⟩
theorem number_calls (b off lc k : Nat) (l : List Nat) (w : World) (hl : HasB w (.slice (some ⟨b, off, none⟩) k lc) l) (hb : Bts l) (h1 : 1 ≤ l.length) (h8 : l.length ≤ 8) (hk : l.length = k) :
    Calls Tryd.prog 33 #[.slice (some ⟨b, off, none⟩) k lc] w fun e w' => e = .returned (.int .u64 ((num l : Nat) : Int)) ∧ w' = w := by
  subst hk
  match l, h1, h8, hl, hb with
  | [b0], _, _, hl, hb => exact number_1 b off lc b0 w hl hb
  | [b0, b1], _, _, hl, hb => exact number_2 b off lc b0 b1 w hl hb
  | [b0, b1, b2], _, _, hl, hb => exact number_3 b off lc b0 b1 b2 w hl hb
  | [b0, b1, b2, b3], _, _, hl, hb => exact number_4 b off lc b0 b1 b2 b3 w hl hb
  | [b0, b1, b2, b3, b4], _, _, hl, hb => exact number_5 b off lc b0 b1 b2 b3 b4 w hl hb
  | [b0, b1, b2, b3, b4, b5], _, _, hl, hb => exact number_6 b off lc b0 b1 b2 b3 b4 b5 w hl hb
  | [b0, b1, b2, b3, b4, b5, b6], _, _, hl, hb => exact number_7 b off lc b0 b1 b2 b3 b4 b5 b6 w hl hb
  | [b0, b1, b2, b3, b4, b5, b6, b7], _, _, hl, hb => exact number_8 b off lc b0 b1 b2 b3 b4 b5 b6 b7 w hl hb
end Go.Proofs.YtemdocnhdnhliabDoor
