/- check sums: Update and Join, by both texts. -/
import Derived.Test.YtemdocnhdnhliacCrB
namespace Go.Proofs.Ytemdocnhdnhliac
open Go.RowKit Go.Extern Cr

theorem u32_signed : IntKind.u32.signed = false := rfl
theorem u32_max : IntKind.u32.max = 4294967295 := by kernel_rfl
/-- bytes in memory. -/
def HasB (w : World) (lv : Value) (xs : List Nat) : Prop :=
  ∃ ao cap, lv = .slice ao xs.length cap ∧ ∀ (j a : Nat), xs[j]? = some a → ∃ b off, ao = some ⟨b, off, none⟩ ∧ b < w.heap.size ∧ w.cell? ⟨b, off + j, none⟩ = some (.int .u8 (a : Int))
theorem HasB.keep {w w' : World} {lv : Value} {xs : List Nat} (h : HasB w lv xs) (hb : Below w.heap.size w w') : HasB w' lv xs := by
  obtain ⟨ao, cap, e, hc⟩ := h
  refine ⟨ao, cap, e, fun j a hj => ?_⟩
  obtain ⟨b, off, ea, hl, h0⟩ := hc j a hj
  exact ⟨b, off, ea, Nat.lt_of_lt_of_le hl hb.size, (hb.cell (p := ⟨b, _, none⟩) hl).trans h0⟩
theorem HasB.at {w : World} {ao : Option Addr} {n cap : Nat} {xs : List Nat} (h : HasB w (.slice ao n cap) xs) {k : Nat} {a : Nat} (hp : xs[k]? = some a) :
    ∃ b off, ao = some ⟨b, off, none⟩ ∧ b < w.heap.size ∧ w.cell? ⟨b, off + k, none⟩ = some (.int .u8 (a : Int)) := by
  obtain ⟨ao', cap', e, hc⟩ := h
  injection e with e1 e2 e3
  subst e1
  exact hc k a hp
theorem reg_more {l : List Nat} {i : Nat} {v x : Nat} (h : l[i]? = some v) : reg x (l.take (i + 1)) = Tn 8 (reg x (l.take i) ^^^ v) := by
  rw [List.take_add_one, h, reg_append]; rfl
theorem bts_at {l : List Nat} (h : Bts l) {i v : Nat} (hi : l[i]? = some v) : v < 256 := h v (List.mem_of_getElem? hi)
theorem and_15 (c : Nat) (h : c < 4294967296) : bits .and .u32 (c : Int) 15 = ((c % 16 : Nat) : Int) := by
  have := u32_and_nat c 15 h (by omega)
  rw [show c &&& 15 = c % 16 from Nat.and_two_pow_sub_one_eq_mod c 4] at this
  exact this
theorem m32_xor {c : Nat} (h : c < 4294967296) : bits .xor .u32 4294967295 (c : Int) = ((M32 ^^^ c : Nat) : Int) := xor_nat (a := 4294967295) (by omega) h
theorem four_eq (x : Nat) : ((x / 16) ^^^ F4.getD (x % 16) 0) = Tn 4 x := (four_is x).symm
theorem f4_lt (i : Nat) : F4.getD i 0 < 4294967296 := by
  by_cases h : i < 16
  · have := F4_is ⟨i, h⟩
    rw [← this]
    exact Tn_lt 4 (by show i < _; omega)
  · have e : F4[i]? = none := List.getElem?_eq_none (by show 16 ≤ i; omega)
    rw [List.getD_eq_getElem?_getD, e]
    show 0 < _
    omega

end Go.Proofs.Ytemdocnhdnhliac
