/- slices.Insert of one half into a row of one's own, ahead of its end. -/
import Derived.Test.YtcfpkbmeblfhoaaOvI
namespace Go.Proofs.Ytcfpkbmeblfhoaa
open Go.RowKit Go.Extern Go.Sort

attribute [local go_sem] Oper.semAt_some

/-- a half's cells. -/
def hC (h : H3) : List Value := [.int .i64 h.1, .int .u64 h.2.1, .int .i64 h.2.2]
theorem flatH_ins (l : List H3) (i : Nat) (h : H3) : flatH (insH l i h) = flatH (l.take i) ++ (hC h ++ flatH (l.drop i)) := by
  unfold insH
  rw [flatH_append]
  congr 1
/-- what is laid first behind, then in between. -/
theorem lay_shift {C : List Value} {l : List H3} {n i : Nat} {h : H3} (hl : l.length = n) (hi : i < n) (hC1 : C.take (n * 3) = flatH l) (hC2 : (n + 1) * 3 ≤ C.length) :
    ((C.take ((i + 1) * 3) ++ flatH (l.drop i) ++ C.drop ((i + 1) * 3 + (flatH (l.drop i)).length)).take (i * 3) ++ hC h ++ (C.take ((i + 1) * 3) ++ flatH (l.drop i) ++ C.drop ((i + 1) * 3 + (flatH (l.drop i)).length)).drop (i * 3 + 3)).take ((n + 1) * 3) = flatH (insH l i h) := by
  have e1 : (C.take ((i + 1) * 3)).length = (i + 1) * 3 := by rw [List.length_take]; omega
  have e2 : (flatH (l.drop i)).length = (n - i) * 3 := by rw [flatH_len, List.length_drop, hl]
  have e3 : C.take (i * 3) = flatH (l.take i) := by
    rw [← flatH_take, ← hC1, List.take_take, Nat.min_eq_left (by omega)]
  have e4 : (flatH (l.take i)).length = i * 3 := by rw [flatH_len, List.length_take, hl, Nat.min_eq_left (by omega)]
  have x1 : (C.take ((i + 1) * 3) ++ flatH (l.drop i) ++ C.drop ((i + 1) * 3 + (flatH (l.drop i)).length)).take (i * 3) = flatH (l.take i) := by
    rw [List.append_assoc, List.take_append_of_le_length (by omega), List.take_take, Nat.min_eq_left (by omega), e3]
  have x2 : (C.take ((i + 1) * 3) ++ flatH (l.drop i) ++ C.drop ((i + 1) * 3 + (flatH (l.drop i)).length)).drop (i * 3 + 3) = flatH (l.drop i) ++ C.drop ((i + 1) * 3 + (flatH (l.drop i)).length) := by
    rw [List.append_assoc, show i * 3 + 3 = (C.take ((i + 1) * 3)).length by omega, List.drop_left]
  rw [x1, x2, flatH_ins]
  generalize C.drop ((i + 1) * 3 + (flatH (l.drop i)).length) = R
  rw [show flatH (l.take i) ++ hC h ++ (flatH (l.drop i) ++ R) = (flatH (l.take i) ++ (hC h ++ flatH (l.drop i))) ++ R by simp]
  exact List.take_left' (by simp [hC, e4, e2]; omega)
theorem lay_grow {Z : List Value} {l : List H3} {n i : Nat} {h : H3} (hl : l.length = n) (hi : i < n) (hZ1 : Z.take (i * 3) = flatH (l.take i)) :
    ((Z.take (i * 3) ++ hC h ++ Z.drop (i * 3 + 3)).take ((i + 1) * 3) ++ flatH (l.drop i) ++ (Z.take (i * 3) ++ hC h ++ Z.drop (i * 3 + 3)).drop ((i + 1) * 3 + (flatH (l.drop i)).length)).take ((n + 1) * 3) = flatH (insH l i h) := by
  have e2 : (flatH (l.drop i)).length = (n - i) * 3 := by rw [flatH_len, List.length_drop, hl]
  have e4 : (flatH (l.take i)).length = i * 3 := by rw [flatH_len, List.length_take, hl, Nat.min_eq_left (by omega)]
  have e5 : (flatH (l.take i) ++ hC h).length = (i + 1) * 3 := by simp [hC, e4]; omega
  rw [hZ1]
  generalize (flatH (l.take i) ++ hC h ++ Z.drop (i * 3 + 3)).drop ((i + 1) * 3 + (flatH (l.drop i)).length) = R
  rw [← e5, List.take_left, flatH_ins]
  rw [show flatH (l.take i) ++ hC h ++ flatH (l.drop i) ++ R = (flatH (l.take i) ++ (hC h ++ flatH (l.drop i))) ++ R by simp]
  exact List.take_left' (by simp [hC, e4, e2]; omega)
theorem hC_one (h : H3) : ∀ v ∈ hC h, v.oneCell' = true := by
  intro v hv
  simp [hC] at hv
  rcases hv with rfl | rfl | rfl <;> rfl
theorem sizeH3 : (Try.prog.info? 57).map (·.size) = some 3 := by kernel_rfl

end Go.Proofs.Ytcfpkbmeblfhoaa
