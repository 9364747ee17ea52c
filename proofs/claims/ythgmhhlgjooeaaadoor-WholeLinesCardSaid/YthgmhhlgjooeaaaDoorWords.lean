/- fault.kindWord and api.Errno's Error: the words of a kind, and of a number. -/
import Derived.Test.YthgmhhlgjooeaaaDoorProg
import Derived.Test.YthgmhhlgjooeaaaDoorShelf
import Derived.WalkKit
import Derived.WalkSpells
import Derived.WalkLawsBesides
import Derived.Deep.WholeRow
import Derived.Lib.ItoaLen
namespace Go.Proofs.YthgmhhlgjooeaaaDoor.F1
open Go.RowKit Go.Extern

/-- the word of a kind. -/
def kindBytes (k : Int) : List UInt8 :=
  if k = 1 then [108, 105, 110, 101] else if k = 2 then [98, 121, 116, 101] else if k = 3 then [110, 111, 100, 101] else if k = 4 then [97, 114, 99] else if k = 5 then [115, 116, 101, 112] else [112, 108, 97, 99, 101]

theorem kindWord_calls (k : Int) (w : World) :
    Calls Tryd.prog 11 #[.int .i64 k] w fun e w' => e = .returned (.string ⟨(kindBytes k).toArray⟩) ∧ w' = w := by
  by_cases h1 : k = 1
  · subst h1
    go_enter Tryd.func11, Tryd.ntmps11
    go_wp2
    go_ret
    exact ⟨rfl, rfl⟩
  by_cases h2 : k = 2
  · subst h2
    go_enter Tryd.func11, Tryd.ntmps11
    go_wp2
    go_ret
    exact ⟨rfl, rfl⟩
  by_cases h3 : k = 3
  · subst h3
    go_enter Tryd.func11, Tryd.ntmps11
    go_wp2
    go_ret
    exact ⟨rfl, rfl⟩
  by_cases h4 : k = 4
  · subst h4
    go_enter Tryd.func11, Tryd.ntmps11
    go_wp2
    go_ret
    exact ⟨rfl, rfl⟩
  by_cases h5 : k = 5
  · subst h5
    go_enter Tryd.func11, Tryd.ntmps11
    go_wp2
    go_ret
    exact ⟨rfl, rfl⟩
  have e1 : (k == 1) = false := beq_eq_false_iff_ne.2 h1
  have e2 : (k == 2) = false := beq_eq_false_iff_ne.2 h2
  have e3 : (k == 3) = false := beq_eq_false_iff_ne.2 h3
  have e4 : (k == 4) = false := beq_eq_false_iff_ne.2 h4
  have e5 : (k == 5) = false := beq_eq_false_iff_ne.2 h5
  have HK : Hid (kindBytes k = [112, 108, 97, 99, 101]) := by show _ = _; simp [kindBytes, h1, h2, h3, h4, h5]
  clear h1 h2 h3 h4 h5
  go_enter Tryd.func11, Tryd.ntmps11
  go_wp2
  go_ret
  exact ⟨by rw [HK.out]; rfl, rfl⟩

/-- what the numbers 1 to 20 say. -/
def numWords : List (List UInt8) := [
  [97, 32, 110, 117, 109, 98, 101, 114, 32, 111, 117, 116, 115, 105, 100, 101, 32, 105, 116, 115, 32, 114, 97, 110, 103, 101],
  [116, 111, 111, 32, 108, 111, 110, 103],
  [97, 32, 119, 111, 114, 100, 32, 116, 104, 97, 116, 32, 109, 97, 121, 32, 110, 111, 116, 32, 115, 116, 97, 110, 100, 32, 116, 104, 101, 114, 101],
  [110, 111, 116, 32, 97, 32, 110, 117, 109, 98, 101, 114],
  [97, 32, 119, 111, 114, 100, 32, 111, 114, 32, 97, 32, 108, 105, 110, 101, 32, 108, 97, 99, 107, 115],
  [115, 111, 109, 101, 116, 104, 105, 110, 103, 32, 98, 101, 104, 105, 110, 100, 32, 116, 104, 101, 32, 101, 110, 100],
  [110, 111, 32, 115, 117, 99, 104, 32, 110, 111, 100, 101],
  [97, 32, 119, 101, 105, 103, 104, 116, 32, 111, 117, 116, 115, 105, 100, 101, 32, 105, 116, 115, 32, 114, 97, 110, 103, 101],
  [109, 111, 114, 101, 32, 116, 104, 97, 110, 32, 109, 97, 121, 32, 98, 101],
  [116, 111, 111, 32, 115, 104, 111, 114, 116],
  [110, 111, 32, 105, 109, 97, 103, 101],
  [97, 110, 111, 116, 104, 101, 114, 32, 118, 101, 114, 115, 105, 111, 110],
  [116, 104, 101, 32, 99, 104, 101, 99, 107, 32, 115, 117, 109, 32, 100, 111, 101, 115, 110, 39, 116, 32, 102, 105, 116],
  [110, 111, 116, 32, 105, 110, 32, 102, 111, 114, 109],
  [110, 111, 116, 32, 116, 114, 117, 101],
  [110, 111, 32, 119, 97, 108, 107],
  [110, 111, 32, 115, 117, 99, 104, 32, 104, 97, 110, 100, 108, 101],
  [110, 111, 32, 109, 111, 114, 101, 32, 114, 111, 111, 109],
  [110, 105, 108],
  [110, 111, 32, 111, 114, 100, 101, 114, 32, 111, 102, 32, 116, 104, 101, 32, 110, 111, 100, 101, 115]]
def wordsArr : Array Value := (numWords.map fun l => Value.string ⟨l.toArray⟩).toArray

theorem wpList_build_to {P : Program} {ops : Array Oper} {rest : List Oper} {o : Oper} {a : Act} {w : World} {Q : Exit → Act → World → Prop} (hg : o.guard = none) (t : TypeId) (parts : Array (Nat × Operand)) (ho : o.op = .build t parts) (c : Array Value)
    (hf : P.built t (parts.map fun (i, x) => (i, a.eval x)).toList = some c)
    (h : wpList P ops Q rest (a.put o.dst (.agg c)) w) : wpList P ops Q (o :: rest) a w :=
  wpList_build hg t parts ho (by rw [hf]; rfl) (by rw [hf]; exact h)

theorem words_at (i : Nat) (h : i < 20) : wordsArr[i]? = some (.string ⟨(numWords.getD i []).toArray⟩) := by
  have hl : numWords.length = 20 := rfl
  unfold wordsArr
  rw [List.getElem?_toArray, List.getElem?_map, List.getD_eq_getElem?_getD, List.getElem?_eq_getElem (by omega)]
  rfl

set_option maxHeartbeats 1000000 in
theorem errno_calls (n : Int) (h0 : 1 ≤ n) (h1 : n ≤ 20) (w : World) : Calls Tryd.prog 14 #[.int .i64 n] w fun e w' => e = .returned (.string ⟨(numWords.getD (n - 1).toNat []).toArray⟩) ∧ Below w.heap.size w w' := by
  have g1 : ¬ n < 1 := by omega
  have g2 : ¬ 20 < n := by omega
  obtain ⟨i, rfl⟩ : ∃ i : Nat, n = (i : Int) + 1 := ⟨(n - 1).toNat, by omega⟩
  have hi : i < 20 := by omega
  have ei : ((i : Int) + 1 - 1).toNat = i := by omega
  rw [ei]
  clear ei
  have hw := words_at i hi
  generalize numWords.getD i [] = nw at *
  have hst : (storeCells ⟨w.heap.size, 0, none⟩ wordsArr.toList).run Tryd.prog (w.alloc (.cells #[.string ⟨#[]⟩, .string ⟨#[]⟩, .string ⟨#[]⟩, .string ⟨#[]⟩, .string ⟨#[]⟩, .string ⟨#[]⟩, .string ⟨#[]⟩, .string ⟨#[]⟩, .string ⟨#[]⟩, .string ⟨#[]⟩, .string ⟨#[]⟩, .string ⟨#[]⟩, .string ⟨#[]⟩, .string ⟨#[]⟩, .string ⟨#[]⟩, .string ⟨#[]⟩, .string ⟨#[]⟩, .string ⟨#[]⟩, .string ⟨#[]⟩, .string ⟨#[]⟩] 65)) = .ok () (w.alloc (.cells wordsArr 65)) :=
    run_storeCells_new w 65 _ wordsArr (by kernel_rfl) (by kernel_rfl) (by kernel_rfl)
  go_enter Tryd.func14, Tryd.ntmps14
  go_wp2_with (refine wpList_build_to rfl 65 _ rfl wordsArr (by kernel_rfl) ?_)
  obtain ⟨hlt, he⟩ := Array.getElem?_eq_some_iff.1 hw
  have HE : Hid (wordsArr[i] = .string ⟨nw.toArray⟩) := he
  clear he hw hst
  go_ret
  refine ⟨?_, (Below.refl _ _).alloc (Nat.le_refl _) _⟩
  show Ending.returned wordsArr[i] = _
  rw [HE.out]

/-- what a number says. -/
def numText (n : Int) : List UInt8 := if 1 ≤ n ∧ n ≤ 20 then numWords.getD (n - 1).toNat [] else [101, 114, 114, 111, 114, 32] ++ Lib.itoa n


/-- strconv.Itoa, with what it lays. -/
theorem itoa_calls (n : Int) (h0 : -9223372036854775808 ≤ n) (h1 : n ≤ 9223372036854775807) (w : World) (htab : Lib.TabIs Tryd.prog w "internal/strconv.uint64pow10" .u64 Lib.pow10Tab) :
    Calls Tryd.prog 12 #[.int .i64 n] w fun e w' => e = .returned (.string ⟨(Lib.itoa n).toArray⟩) ∧ Below w.heap.size w w' := by
  refine (Tryd.strconv_Itoa n h0 h1 w htab).mono ?_
  rintro e w' ⟨rfl, k, os, rfl⟩
  refine ⟨rfl, ?_, ?_, ?_, ?_, fun j hj => ?_⟩
  · rfl
  · rfl
  · rfl
  · show w.heap.size ≤ ((w.drewN k).heap ++ os).size
    rw [Array.size_append]; show w.heap.size ≤ w.heap.size + _; omega
  · show ((w.drewN k).heap ++ os)[j]? = _
    exact Array.getElem?_append_left hj

set_option maxHeartbeats 1000000 in
theorem errno_far (n : Int) (hn : n < 1 ∨ 20 < n) (h0 : -9223372036854775808 ≤ n) (h1 : n ≤ 9223372036854775807) (w : World) (htab : Lib.TabIs Tryd.prog w "internal/strconv.uint64pow10" .u64 Lib.pow10Tab) :
    Calls Tryd.prog 14 #[.int .i64 n] w fun e w' => e = .returned (.string ⟨([101, 114, 114, 111, 114, 32] ++ Lib.itoa n).toArray⟩) ∧ Below w.heap.size w w' := by
  have HTAB : Hid (Lib.TabIs Tryd.prog w "internal/strconv.uint64pow10" .u64 Lib.pow10Tab) := htab
  clear htab
  have hil : ¬ 9223372036854775807 < 6 + (Lib.itoa n).length := by have := Lib.itoa_length_le n h0 h1; omega
  rcases hn with hn | hn
  · go_enter Tryd.func14, Tryd.ntmps14
    go_wp2_with (go_at_call 12; refine (itoa_calls n h0 h1 _ HTAB.out).mono ?_; rintro e w' ⟨rfl, hw⟩)
    go_ret
    refine ⟨?_, hw⟩
    show Ending.returned (.string (ByteArray.mk [101, 114, 114, 111, 114, 32].toArray ++ ByteArray.mk (Lib.itoa n).toArray)) = _
    rw [ByteArray.mk_append_mk]; rfl
  · have hn' : ¬ n < 1 := by omega
    go_enter Tryd.func14, Tryd.ntmps14
    go_wp2_with (go_at_call 12; refine (itoa_calls n h0 h1 _ HTAB.out).mono ?_; rintro e w' ⟨rfl, hw⟩)
    go_ret
    refine ⟨?_, hw⟩
    show Ending.returned (.string (ByteArray.mk [101, 114, 114, 111, 114, 32].toArray ++ ByteArray.mk (Lib.itoa n).toArray)) = _
    rw [ByteArray.mk_append_mk]; rfl

/-- api.Errno's Error, whatever the number. -/
theorem errno_any (n : Int) (h0 : -9223372036854775808 ≤ n) (h1 : n ≤ 9223372036854775807) (w : World) (htab : Lib.TabIs Tryd.prog w "internal/strconv.uint64pow10" .u64 Lib.pow10Tab) :
    Calls Tryd.prog 14 #[.int .i64 n] w fun e w' => e = .returned (.string ⟨(numText n).toArray⟩) ∧ Below w.heap.size w w' := by
  by_cases h : 1 ≤ n ∧ n ≤ 20
  · rw [numText, if_pos h]
    exact errno_calls n h.1 h.2 w
  · rw [numText, if_neg h]
    exact errno_far n (by omega) h0 h1 w htab
end Go.Proofs.YthgmhhlgjooeaaaDoor.F1
