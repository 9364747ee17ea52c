/- check sums: Update and Join, by both texts. -/
import Derived.Test.YtjjfnioplddppaaDoorCrB
namespace Go.Proofs.YtjjfnioplddppaaDoor
open Go.RowKit Go.Extern Cr

theorem u32_signed : IntKind.u32.signed = false := rfl
theorem u32_max : IntKind.u32.max = 4294967295 := by kernel_rfl
attribute [local go_sem] Oper.semAt_some u32_signed u32_max

/-- what the program's table holds. -/
def HasFours (w : World) : Prop := ∀ i, i < 16 → w.cell? ⟨0, i, none⟩ = some (.int .u32 ((F4.getD i 0 : Nat) : Int))
/-- bytes in memory. -/
def HasB (w : World) (lv : Value) (xs : List Nat) : Prop :=
  ∃ ao cap, lv = .slice ao xs.length cap ∧ ∀ (j a : Nat), xs[j]? = some a → ∃ b off, ao = some ⟨b, off, none⟩ ∧ b < w.heap.size ∧ w.cell? ⟨b, off + j, none⟩ = some (.int .u8 (a : Int))
theorem HasB.keep {w w' : World} {lv : Value} {xs : List Nat} (h : HasB w lv xs) (hb : Below w.heap.size w w') : HasB w' lv xs := by
  obtain ⟨ao, cap, e, hc⟩ := h
  refine ⟨ao, cap, e, fun j a hj => ?_⟩
  obtain ⟨b, off, ea, hl, h0⟩ := hc j a hj
  exact ⟨b, off, ea, Nat.lt_of_lt_of_le hl hb.size, (hb.cell (p := ⟨b, _, none⟩) hl).trans h0⟩
theorem HasB.at {w : World} {ao : Option Addr} {n cap : Nat} {xs : List Nat} (h : HasB w (.slice ao n cap) xs) {k : Nat} {a : Nat} (hp : xs[k]? = some a) :
    ∃ b off, ao = some ⟨b, off, none⟩ ∧ b < w.heap.size ∧ w.cell? ⟨b, off + k, none⟩ = some (.int .u8 (a : Int)) := by
  obtain ⟨ao', cap', e, hc⟩ := h
  injection e with e1 e2 e3
  subst e1
  exact hc k a hp
theorem reg_more {l : List Nat} {i : Nat} {v x : Nat} (h : l[i]? = some v) : reg x (l.take (i + 1)) = Tn 8 (reg x (l.take i) ^^^ v) := by
  rw [List.take_add_one, h, reg_append]; rfl
theorem bts_at {l : List Nat} (h : Bts l) {i v : Nat} (hi : l[i]? = some v) : v < 256 := h v (List.mem_of_getElem? hi)
theorem and_15 (c : Nat) (h : c < 4294967296) : bits .and .u32 (c : Int) 15 = ((c % 16 : Nat) : Int) := by
  have := u32_and_nat c 15 h (by omega)
  rw [show c &&& 15 = c % 16 from Nat.and_two_pow_sub_one_eq_mod c 4] at this
  exact this
theorem m32_xor {c : Nat} (h : c < 4294967296) : bits .xor .u32 4294967295 (c : Int) = ((M32 ^^^ c : Nat) : Int) := xor_nat (a := 4294967295) (by omega) h
theorem four_eq (x : Nat) : ((x / 16) ^^^ F4.getD (x % 16) 0) = Tn 4 x := (four_is x).symm
theorem f4_lt (i : Nat) : F4.getD i 0 < 4294967296 := by
  by_cases h : i < 16
  · have := F4_is ⟨i, h⟩
    rw [← this]
    exact Tn_lt 4 (by show i < _; omega)
  · have e : F4[i]? = none := List.getElem?_eq_none (by show 16 ≤ i; omega)
    rw [List.getD_eq_getElem?_getD, e]
    show 0 < _
    omega

set_option maxRecDepth 100000 in
set_option maxHeartbeats 4000000 in
theorem cUpdate_calls (c : Nat) (hc : c < 4294967296) (lo : Option Addr) (lc : Nat) (l : List Nat) (w : World) (hf : HasFours w) (hl : HasB w (.slice lo l.length lc) l) (hb : Bts l) (hm : l.length ≤ 4611686018427387904) :
    Calls Tryd.prog 10 #[.int .u32 (c : Int), .slice lo l.length lc] w fun e w' => e = .returned (.int .u32 ((upd c l : Nat) : Int)) ∧ w' = w := by
  have hx0 := m_lt hc
  have ex := m32_xor hc
  go_enter Tryd.func10, Tryd.ntmps10
  go_wp2_with fail
  go_loopw [5, 12] (fun xv nv wr => ∃ k : Nat, k ≤ l.length ∧ nv = .int .i64 k ∧ xv = .int .u32 ((reg (M32 ^^^ c) (l.take k) : Nat) : Int) ∧ wr = w) (fun _ nv _ => l.length - (intOf nv).toNat)
  case atStart => exact ⟨0, Nat.zero_le _, rfl, rfl, rfl⟩
  case round =>
    obtain ⟨k, hk, rfl, rfl, rfl⟩ := hrel
    have hr := reg_lt (hb.take k) hx0
    by_cases hlt : k < l.length
    · obtain ⟨v, hv⟩ : ∃ v, l[k]? = some v := ⟨l[k], List.getElem?_eq_getElem hlt⟩
      have hv8 := bts_at hb hv
      obtain ⟨b, off, hlo, hbl, q0⟩ := hl.at hv
      subst hlo
      have i1 : (k : Int) < (l.length : Int) := by omega
      have HR : Hid (reg (M32 ^^^ c) (l.take (k + 1)) = Tn 8 (reg (M32 ^^^ c) (l.take k) ^^^ v)) := reg_more hv
      generalize reg (M32 ^^^ c) (l.take k) = x at hr HR ⊢
      have e1 : bits .xor .u32 (x : Int) (v : Int) = ((x ^^^ v : Nat) : Int) := xor_nat hr (by omega)
      have hy : x ^^^ v < 4294967296 := Nat.xor_lt_two_pow (n := 32) hr (by omega)
      generalize x ^^^ v = y at e1 hy HR
      have e2 := and_15 y hy
      have c2 := hf (y % 16) (by omega)
      have e3 : bits .xor .u32 ((y : Int) / 16) ((F4.getD (y % 16) 0 : Nat) : Int) = ((Tn 4 y : Nat) : Int) := by
        rw [show (y : Int) / 16 = ((y / 16 : Nat) : Int) by omega, xor_nat (by omega) (f4_lt _), four_eq]
      generalize F4.getD (y % 16) 0 = t2 at c2 e3
      have hz := Tn_lt 4 (c := y) hy
      have HE : Hid (Tn 8 y = Tn 4 (Tn 4 y)) := eight_is y
      generalize Tn 4 y = z at e3 hz HE
      have e4 := and_15 z hz
      have c4 := hf (z % 16) (by omega)
      have e5 : bits .xor .u32 ((z : Int) / 16) ((F4.getD (z % 16) 0 : Nat) : Int) = ((Tn 4 z : Nat) : Int) := by
        rw [show (z : Int) / 16 = ((z / 16 : Nat) : Int) by omega, xor_nat (by omega) (f4_lt _), four_eq]
      generalize F4.getD (z % 16) 0 = t4 at c4 e5
      have j1 : ((y % 16 : Nat) : Int) < 16 := by omega
      have j2 : ((z % 16 : Nat) : Int) < 16 := by omega
      go_wp2_with fail
      refine ⟨⟨k + 1, by omega, rfl, by rw [HR.out, HE.out], by trivial⟩, by simp only [intOf]; omega⟩
    · obtain rfl : k = l.length := by omega
      rw [List.take_length] at hr ⊢
      have e1 := m32_xor hr
      go_wp2_with fail
      go_ret
      exact ⟨rfl, rfl⟩

set_option maxRecDepth 100000 in
theorem cSum_calls (lo : Option Addr) (lc : Nat) (l : List Nat) (w : World) (hf : HasFours w) (hl : HasB w (.slice lo l.length lc) l) (hb : Bts l) (hm : l.length ≤ 4611686018427387904) :
    Calls Tryd.prog 5 #[.slice lo l.length lc] w fun e w' => e = .returned (.int .u32 ((upd 0 l : Nat) : Int)) ∧ w' = w := by
  go_enter Tryd.func5, Tryd.ntmps5
  go_wp2_with (go_at_call 10; refine (cUpdate_calls 0 (by omega) _ _ _ _ hf hl hb hm).mono ?_; rintro e w' ⟨rfl, rfl⟩)
  go_ret
  exact ⟨rfl, rfl⟩
end Go.Proofs.YtjjfnioplddppaaDoor
