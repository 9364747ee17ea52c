/- slices.Insert of one half into a row of one's own. -/
import Derived.Test.YtcfpkbmeblfhoaaOvC
import Derived.Lib.Overlaps
namespace Go.Proofs.Ytcfpkbmeblfhoaa
open Go.RowKit Go.Extern Go.Sort

attribute [local go_sem] Oper.semAt_some

theorem Try.elemH : Try.prog.underlying 52 = some (.slice (Try.prog.elem 52)) := by kernel_rfl
theorem Try.sizeH (w : World) : (sizeOf (Try.prog.elem 52)).run Try.prog w = .ok 3 w := by kernel_rfl
theorem hsl_to (b n c i : Nat) (hi : i ≤ c) (w : World) : (Instr.slice 52 (.slice (some ⟨b, 0, none⟩) n c) none (some (.int .i64 (i : Int))) none).run Try.prog w = .ok (.slice (some ⟨b, 0, none⟩) i c) w := by
  rw [run_slice_h (ht := Try.elemH) (h0 := by omega) (h2 := by omega), Try.sizeH]
  have e2 : (i : Int).toNat = i := by omega
  simp only [Result.andThen_ok, sliced, e2]
  simp [Addr.add]
theorem hsl_from (b n c i : Nat) (h : n ≤ c) (hi : i < n) (w : World) : (Instr.slice 52 (.slice (some ⟨b, 0, none⟩) n c) (some (.int .i64 (i : Int))) none none).run Try.prog w = .ok (.slice (some ⟨b, i * 3, none⟩) (n - i) (c - i)) w := by
  have e2 : (i : Int).toNat = i := by omega
  rw [run_slice_l (ht := Try.elemH) (h0 := by omega) (h1 := by omega), Try.sizeH]
  simp only [Result.andThen_ok, sliced, e2]
  rw [if_neg (by omega)]
  show Result.ok (Value.slice (some ((⟨b, 0, none⟩ : Addr).add (i * 3))) _ _) w = _
  rw [Addr.add_lit, Nat.zero_add]
theorem hsl_end (ao : Option Addr) (n c : Nat) : ∃ bo bc, ∀ w, (Instr.slice 52 (.slice ao n c) (some (.int .i64 (n : Int))) none none).run Try.prog w = .ok (.slice bo 0 bc) w := by
  have e2 : (n : Int).toNat = n := by omega
  refine ⟨if c = n then ao else ao.map (·.add (n * 3)), c - n, fun w => ?_⟩
  rw [run_slice_l (ht := Try.elemH) (h0 := by omega) (h1 := by omega), Try.sizeH]
  simp only [Result.andThen_ok, sliced, e2, Nat.sub_self]
/-- a list with one more at a place. -/
def insH (l : List H3) (i : Nat) (h : H3) : List H3 := l.take i ++ h :: l.drop i
theorem insH_len {l : List H3} {i : Nat} {h : H3} (hi : i ≤ l.length) : (insH l i h).length = l.length + 1 := by
  unfold insH
  simp
  omega
theorem flatH_take (l : List H3) (i : Nat) : (flatH l).take (i * 3) = flatH (l.take i) := by
  rcases Nat.lt_or_ge i l.length with h | h
  · have e : l = l.take i ++ l.drop i := (List.take_append_drop i l).symm
    have hl : (flatH (l.take i)).length = i * 3 := by rw [flatH_len, List.length_take, Nat.min_eq_left (by omega)]
    conv => lhs; rw [e, flatH_append]
    rw [List.take_append_of_le_length (by omega), List.take_of_length_le (by omega)]
  · rw [List.take_of_length_le (by rw [flatH_len]; omega), List.take_of_length_le h]
theorem flatH_drop (l : List H3) (i : Nat) : (flatH l).drop (i * 3) = flatH (l.drop i) := by
  rcases Nat.lt_or_ge i l.length with h | h
  · have e : l = l.take i ++ l.drop i := (List.take_append_drop i l).symm
    have hl : (flatH (l.take i)).length = i * 3 := by rw [flatH_len, List.length_take, Nat.min_eq_left (by omega)]
    conv => lhs; rw [e, flatH_append]
    rw [List.drop_append_of_le_length (by omega), List.drop_of_length_le (by omega)]
    simp
  · rw [List.drop_of_length_le (by rw [flatH_len]; omega), List.drop_of_length_le h]
    rfl

end Go.Proofs.Ytcfpkbmeblfhoaa
