/- scan's isGap; strings.Cut at one byte; strings.Clone. -/
import Derived.Test.YthgmhhlgjooeaaaGreatDoorGtA
import Derived.Test.YthgmhhlgjooeaaaGreatDoorGtS
namespace Go.Proofs.YthgmhhlgjooeaaaGreatDoor.Gt
open Go Go.Lib Go.RowKit

attribute [local go_sem] Oper.semAt_some

set_option maxRecDepth 100000 in
theorem gap_calls (x : Nat) (w : World) : Calls Tryz.prog 58 #[.int .i32 (x : Int)] w fun e w' => e = .returned (.bool (gapR x)) ∧ w' = w := by
  unfold gapR
  by_cases h1 : x = 32
  · subst h1
    go_enter Tryz.func58, Tryz.ntmps58
    go_wp2
    go_ret
    exact ⟨rfl, rfl⟩
  · have d1 : ((x : Int) == 32) = false := beq_eq_false_iff_ne.2 (by omega)
    have n1 : (x == 32) = false := beq_eq_false_iff_ne.2 h1
    by_cases h2 : x = 9
    · subst h2
      go_enter Tryz.func58, Tryz.ntmps58
      go_wp2
      go_ret
      exact ⟨rfl, rfl⟩
    · have d2 : ((x : Int) == 9) = false := beq_eq_false_iff_ne.2 (by omega)
      have n2 : (x == 9) = false := beq_eq_false_iff_ne.2 h2
      by_cases h3 : x = 13
      · subst h3
        go_enter Tryz.func58, Tryz.ntmps58
        go_wp2
        go_ret
        exact ⟨rfl, rfl⟩
      · have d3 : ((x : Int) == 13) = false := beq_eq_false_iff_ne.2 (by omega)
        have n3 : (x == 13) = false := beq_eq_false_iff_ne.2 h3
        have HN : Hid ((x == 32 || x == 9 || x == 13) = false) := by show _ = _; rw [n1, n2, n3]; rfl
        clear n1 n2 n3
        go_enter Tryz.func58, Tryz.ntmps58
        go_wp2
        go_ret
        exact ⟨by rw [HN.out]; rfl, rfl⟩
theorem gap_pred (w : World) : PredAtRunes Tryz.prog 58 #[] gapR w := fun W x _ _ => by
  refine (gap_calls x W).mono ?_
  rintro e w' ⟨rfl, rfl⟩
  exact ⟨rfl, 0, rfl⟩
/-- what Cut answers, at one byte. -/
def CutA (s : ByteArray) (c : UInt8) (w : World) (e : Ending) (w' : World) : Prop := ∃ (a b : ByteArray) (f : Bool), e = .returned (.tuple #[.string a, .string b, .bool f]) ∧ bs a = (bs s).takeWhile (fun x => x != c) ∧ bs b = ((bs s).dropWhile fun x => x != c).drop 1 ∧ Below w.heap.size w w'
theorem index_lt (c : UInt8) : ∀ (l : By) (i : Nat), indexByte l c = (i : Int) → i < l.length
  | [], i, h => by simp [indexByte] at h
  | b :: r, i, h => by
    unfold indexByte at h
    split at h
    · simp; omega
    · split at h
      · omega
      · rename_i h2
        have g := indexByte_ge r c
        have := index_lt c r (i - 1) (by simp at h2; omega)
        simp
        omega

set_option maxRecDepth 100000 in
set_option maxHeartbeats 2000000 in
theorem slcut_calls (s : ByteArray) (c : UInt8) (w : World) (hs : s.size ≤ 281474976710656) : Calls Tryz.prog 56 #[.string s, .string ⟨#[c]⟩] w (CutA s c w) := by
  rcases ix c (bs s) with ⟨h1, h2, h3⟩ | ⟨i, h1, h2, h3⟩
  · have HI : Hid (Calls Tryz.prog 78 #[.string s, .string ⟨#[c]⟩] w fun e w' => e = .returned (.int .i64 (-1)) ∧ w' = w) := by
      have g := Tryz.stringslite_Index_one s c w
      rw [show indexByte s.data.toList c = -1 from h1] at g
      exact g
    have HA : Hid (bs s = (bs s).takeWhile (fun x => x != c) ∧ bs ⟨#[]⟩ = ((bs s).dropWhile fun x => x != c).drop 1) := ⟨h2.symm, by rw [h3]; rfl⟩
    clear h1 h2 h3
    go_enter Tryz.func56, Tryz.ntmps56
    go_wp2_with fail
    refine HI.out.mono ?_
    rintro e w' ⟨rfl, rfl⟩
    go_wp2
    go_ret3
    exact ⟨s, ⟨#[]⟩, false, rfl, HA.out.1, HA.out.2, Below.refl _ _⟩
  · have hil : i < s.size := by have := index_lt c (bs s) i h1; rw [bs_len] at this; exact this
    have HI : Hid (Calls Tryz.prog 78 #[.string s, .string ⟨#[c]⟩] w fun e w' => e = .returned (.int .i64 (i : Int)) ∧ w' = w) := by
      have g := Tryz.stringslite_Index_one s c w
      rw [show indexByte s.data.toList c = (i : Int) from h1] at g
      exact g
    have HA : Hid (bs (s.extract 0 i) = (bs s).takeWhile (fun x => x != c) ∧ bs (s.extract (i + 1) s.size) = ((bs s).dropWhile fun x => x != c).drop 1) := by
      refine ⟨by rw [bs_extract, h2]; simp, ?_⟩
      rw [bs_extract, h3, ← bs_len, ← List.length_drop, List.take_length]
    clear h1 h2 h3
    have c1 : (0 : Int) ≤ (i : Int) := by omega
    have c2 : (i : Int) ≤ (s.size : Int) := by omega
    have c3 : (0 : Int) ≤ (i : Int) + 1 := by omega
    have c4 : (i : Int) + 1 ≤ (s.size : Int) := by omega
    have c5 : decide ((i : Int) ≥ 0) = true := by simp
    have c6 : IntKind.i64.wrap ((i : Int) + 1) = (i : Int) + 1 := by rw [IntKind.wrap_i64] <;> omega
    go_enter Tryz.func56, Tryz.ntmps56
    go_wp2_with fail
    refine HI.out.mono ?_
    rintro e w' ⟨rfl, rfl⟩
    go_upto_region 3 with fail
    go_quiet (fail)
    go_wp2
    go_ret3
    exact ⟨_, _, true, rfl, HA.out.1, HA.out.2, ⟨rfl, rfl, rfl, Nat.le_refl _, fun _ _ => rfl⟩⟩
set_option maxRecDepth 100000 in
theorem cut_calls (s : ByteArray) (c : UInt8) (w : World) (hs : s.size ≤ 281474976710656) : Calls Tryz.prog 43 #[.string s, .string ⟨#[c]⟩] w (CutA s c w) := by
  go_enter Tryz.func43, Tryz.ntmps43
  go_wp2_with fail
  refine (slcut_calls s c w hs).mono ?_
  rintro e w' ⟨a, b, f, rfl, h1, h2, h3⟩
  have HA : Hid (bs a = (bs s).takeWhile (fun x => x != c) ∧ bs b = ((bs s).dropWhile fun x => x != c).drop 1 ∧ Below w.heap.size w w') := ⟨h1, h2, h3⟩
  clear h1 h2 h3
  go_wp2
  go_ret3
  exact ⟨a, b, f, rfl, HA.out.1, HA.out.2.1, HA.out.2.2⟩
set_option maxRecDepth 100000 in
theorem clone_calls (s : ByteArray) (w : World) (hs : s.size ≤ 281474976710656) : Calls Tryz.prog 60 #[.string s] w fun e w' => e = .returned (.string s) ∧ Below w.heap.size w w' := by
  go_enter Tryz.func60, Tryz.ntmps60
  go_wp2_with fail
  refine (Tryz.stringslite_Clone s w hs).mono ?_
  rintro e w' ⟨rfl, hb⟩
  have HB : Hid (Below w.heap.size w w') := hb
  clear hb
  go_wp2
  go_ret
  exact ⟨rfl, HB.out⟩
end Go.Proofs.YthgmhhlgjooeaaaGreatDoor.Gt
