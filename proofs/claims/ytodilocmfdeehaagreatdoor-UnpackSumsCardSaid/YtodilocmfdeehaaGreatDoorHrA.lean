/- links and where they stand, as values; the small functions of hier: tail, head, isPlain, sameRow; fault.First. -/
import Derived.Test.YtodilocmfdeehaaGreatDoorCheck
import Derived.Test.YtodilocmfdeehaaGreatDoorHrM
import Derived.BigQuiet
namespace Go.Proofs.YtodilocmfdeehaaGreatDoor.Hi
open Go.RowKit Go.Extern

attribute [local go_sem] Oper.semAt_some

def lvl (l : Lk) : Value := .agg #[.int .u32 (l.hd : Int), .int .u64 (l.wt : Int), .int .u32 (l.lf : Int), .int .u32 (l.rt : Int)]
def svl (s : Sd) : Value := .agg #[.int .u32 (s.lk.hd : Int), .int .u64 (s.lk.wt : Int), .int .u32 (s.lk.lf : Int), .int .u32 (s.lk.rt : Int), .int .u32 (s.rk : Int), .bool s.up]

set_option maxRecDepth 100000 in
theorem tail_calls (s : Sd) (w : World) : Calls Tryz.prog 106 #[svl s] w fun e w' => e = .returned (.int .u32 (s.tail : Int)) ∧ Below w.heap.size w w' := by
  obtain ⟨⟨hd, wt, lf, rt⟩, rk, up⟩ := s
  unfold svl Sd.tail
  dsimp only
  cases up
  all_goals
    go_enter Tryz.func106, Tryz.ntmps106
    go_wp2
    go_ret
    exact ⟨rfl, (Below.refl _ _).alloc (Nat.le_refl _) _⟩
set_option maxRecDepth 100000 in
theorem head_calls (s : Sd) (w : World) : Calls Tryz.prog 107 #[svl s] w fun e w' => e = .returned (.int .u32 (s.head : Int)) ∧ Below w.heap.size w w' := by
  obtain ⟨⟨hd, wt, lf, rt⟩, rk, up⟩ := s
  unfold svl Sd.head
  dsimp only
  cases up
  all_goals
    go_enter Tryz.func107, Tryz.ntmps107
    go_wp2
    go_ret
    exact ⟨rfl, (Below.refl _ _).alloc (Nat.le_refl _) _⟩
set_option maxRecDepth 100000 in
theorem plain_calls (l : Lk) (w : World) : Calls Tryz.prog 105 #[lvl l] w fun e w' => e = .returned (.bool l.plain) ∧ Below w.heap.size w w' := by
  obtain ⟨hd, wt, lf, rt⟩ := l
  unfold lvl Lk.plain noLink
  dsimp only
  by_cases h1 : lf = 4294967295
  · subst h1
    by_cases h2 : rt = 4294967295
    · subst h2
      go_enter Tryz.func105, Tryz.ntmps105
      go_wp2
      go_ret
      exact ⟨rfl, (Below.refl _ _).alloc (Nat.le_refl _) _⟩
    · have g2 : ((rt : Int) == 4294967295) = false := by simp; omega
      have g3 : (rt == 4294967295) = false := by simp; omega
      go_enter Tryz.func105, Tryz.ntmps105
      go_wp2
      go_ret
      exact ⟨by rw [g3]; rfl, (Below.refl _ _).alloc (Nat.le_refl _) _⟩
  · have g1 : ((lf : Int) == 4294967295) = false := by simp; omega
    have g3 : (lf == 4294967295) = false := by simp; omega
    go_enter Tryz.func105, Tryz.ntmps105
    go_wp2
    go_ret
    exact ⟨by rw [g3]; rfl, (Below.refl _ _).alloc (Nat.le_refl _) _⟩
set_option maxRecDepth 100000 in
theorem sameRow_calls (s t : Sd) (w : World) : Calls Tryz.prog 86 #[svl s, svl t] w fun e w' => e = .returned (.bool (sameRow s t)) ∧ Below w.heap.size w w' := by
  obtain ⟨⟨hd, wt, lf, rt⟩, rk, up⟩ := s
  obtain ⟨⟨hd2, wt2, lf2, rt2⟩, rk2, up2⟩ := t
  unfold svl sameRow
  dsimp only
  by_cases h1 : rk = rk2
  · subst h1
    cases up <;> cases up2
    all_goals
      go_enter Tryz.func86, Tryz.ntmps86
      go_wp2
      go_ret
      exact ⟨by simp, ((Below.refl _ _).alloc (Nat.le_refl _) _).alloc (by simp) _⟩
  · have g1 : ((rk : Int) == (rk2 : Int)) = false := by simp; omega
    have g3 : (rk == rk2) = false := by simp; omega
    go_enter Tryz.func86, Tryz.ntmps86
    go_wp2
    go_ret
    exact ⟨by rw [g3]; rfl, ((Below.refl _ _).alloc (Nat.le_refl _) _).alloc (by simp) _⟩

/-- an error value. -/
def IsE (v : Value) : Prop := v = .nilIface ∨ ∃ t x, v = .iface t x
/-- the first of three errors: told by how many are nil ahead of it. -/
def First3 (a b c v : Value) : Prop := (a ≠ .nilIface ∧ v = a) ∨ (a = .nilIface ∧ b ≠ .nilIface ∧ v = b) ∨ (a = .nilIface ∧ b = .nilIface ∧ v = c)
set_option maxRecDepth 100000 in
set_option maxHeartbeats 1000000 in
theorem first_calls (bl : Nat) (cap : Nat) (a b c : Value) (w : World) (ha : IsE a) (hb : IsE b) (hc : IsE c) (h0 : w.cell? ⟨bl, 0, none⟩ = some a) (h1 : w.cell? ⟨bl, 1, none⟩ = some b) (h2 : w.cell? ⟨bl, 2, none⟩ = some c) :
    Calls Tryz.prog 55 #[.slice (some ⟨bl, 0, none⟩) 3 cap] w fun e w' => ∃ v, e = .returned v ∧ First3 a b c v ∧ Below w.heap.size w w' := by
  have HA : Hid (IsE a) := ha
  have HB : Hid (IsE b) := hb
  have HC : Hid (IsE c) := hc
  clear ha hb hc
  go_enter Tryz.func55, Tryz.ntmps55
  go_wp2_with fail
  go_loopw [7] (fun iv wr => ∃ k : Nat, k ≤ 3 ∧ iv = .int .i64 k ∧ wr = w ∧ (0 < k → a = .nilIface) ∧ (1 < k → b = .nilIface) ∧ (2 < k → c = .nilIface)) (fun iv _ => 3 - (intOf iv).toNat)
  case atStart => exact ⟨0, by omega, rfl, rfl, fun h => by omega, fun h => by omega, fun h => by omega⟩
  case round =>
    obtain ⟨k, hk, rfl, rfl, g0, g1, g2⟩ := hrel
    have G : Hid ((0 < k → a = .nilIface) ∧ (1 < k → b = .nilIface) ∧ (2 < k → c = .nilIface)) := ⟨g0, g1, g2⟩
    clear g0 g1 g2
    rcases (by omega : k = 0 ∨ k = 1 ∨ k = 2 ∨ k = 3) with rfl | rfl | rfl | rfl
    · rcases HA.out with h | ⟨t, x, h⟩
      · rw [h] at h0
        go_wp2
        go_roundw
        case rel => exact ⟨1, by omega, rfl, trivial, fun _ => h, fun h => by omega, fun h => by omega⟩
        case measure => simp [intOf]
      · rw [h] at h0
        go_wp2
        go_ret
        exact ⟨_, rfl, Or.inl ⟨by rw [h]; simp, h.symm⟩, Below.refl _ _⟩
    · rcases HB.out with h | ⟨t, x, h⟩
      · rw [h] at h1
        go_wp2
        go_roundw
        case rel => exact ⟨2, by omega, rfl, trivial, fun _ => G.out.1 (by omega), fun _ => h, fun h => by omega⟩
        case measure => simp [intOf]
      · rw [h] at h1
        go_wp2
        go_ret
        exact ⟨_, rfl, Or.inr (Or.inl ⟨G.out.1 (by omega), by rw [h]; simp, h.symm⟩), Below.refl _ _⟩
    · rcases HC.out with h | ⟨t, x, h⟩
      · rw [h] at h2
        go_wp2
        go_roundw
        case rel => exact ⟨3, by omega, rfl, trivial, fun _ => G.out.1 (by omega), fun _ => G.out.2.1 (by omega), fun _ => h⟩
        case measure => simp [intOf]
      · rw [h] at h2
        go_wp2
        go_ret
        exact ⟨_, rfl, Or.inr (Or.inr ⟨G.out.1 (by omega), G.out.2.1 (by omega), h.symm⟩), Below.refl _ _⟩
    · go_wp2
      go_ret
      exact ⟨_, rfl, Or.inr (Or.inr ⟨G.out.1 (by omega), G.out.2.1 (by omega), (G.out.2.2 (by omega)).symm⟩), Below.refl _ _⟩
end Go.Proofs.YtodilocmfdeehaaGreatDoor.Hi
