/- numbers, lines and rows of texts: plain mathematics. -/
import Derived.Test.YthgmhhlgjooeaaaGreatDoorGtM
import Derived.Lib.IndexBytes
import Derived.Lib.IndexMore
namespace Go.Proofs.YthgmhhlgjooeaaaGreatDoor.Gt
open Go Go.Lib

def dig (b : UInt8) : Bool := decide (48 ≤ b.toNat) && decide (b.toNat ≤ 57)
/-- is a word a number? -/
def isNum (w : By) : Bool := !(w == []) && !(w[0]? == some 48 && decide (1 < w.length)) && w.all dig
def valF (n : Nat) (w : By) : Nat := w.foldl (fun n b => n * 10 + (b.toNat - 48)) n
/-- the number that a word is. -/
def val (w : By) : Nat := valF 0 w
theorem valF_ge : ∀ (w : By) (n : Nat), n ≤ valF n w
  | [], n => Nat.le_refl _
  | b :: r, n => by
    have := valF_ge r (n * 10 + (b.toNat - 48))
    show n ≤ valF (n * 10 + (b.toNat - 48)) r
    omega
theorem valF_step {w : By} {k : Nat} {b : UInt8} (h : w[k]? = some b) : val (w.take (k + 1)) = val (w.take k) * 10 + (b.toNat - 48) := by
  unfold val valF
  rw [List.take_add_one, h, List.foldl_append]
  rfl
theorem val_take (w : By) (k : Nat) : val (w.take k) ≤ val w := by
  have e : valF 0 w = valF (valF 0 (w.take k)) (w.drop k) := by
    unfold valF
    rw [← List.foldl_append, List.take_append_drop]
  show valF 0 (w.take k) ≤ valF 0 w
  rw [e]
  exact valF_ge _ _
/-- is a number beyond a greatest one? as it is asked ahead of the sum. -/
theorem beyond (n d most : Nat) (hd : d ≤ 9) : (most / 10 < n ∨ (n = most / 10 ∧ most % 10 < d)) ↔ most < n * 10 + d := by omega
/-- by which error a number is refused. -/
def numE (w : By) (most : Nat) : Int := if isNum w then (if most < val w then 1 else 0) else 4

/-- the first line of a text, and what is behind it. -/
def lineOf (l : By) : By := l.takeWhile fun b => b != 10
def restOf (l : By) : By := (l.dropWhile fun b => b != 10).drop 1
theorem rest_lt {l : By} (h : l ≠ []) : (restOf l).length < l.length := by
  unfold restOf
  rw [List.length_drop]
  have h1 : (l.dropWhile fun b => b != 10).length ≤ l.length := (List.dropWhile_sublist _).length_le
  have h2 : 0 < l.length := List.length_pos_iff.2 h
  omega
theorem ix (c : UInt8) : ∀ (l : By), (indexByte l c = -1 ∧ l.takeWhile (fun b => b != c) = l ∧ (l.dropWhile fun b => b != c) = []) ∨ (∃ i : Nat, indexByte l c = (i : Int) ∧ l.takeWhile (fun b => b != c) = l.take i ∧ (l.dropWhile fun b => b != c).drop 1 = l.drop (i + 1))
  | [] => Or.inl ⟨rfl, rfl, rfl⟩
  | b :: r => by
    cases e : (b == c) with
    | true =>
      refine Or.inr ⟨0, by simp [indexByte, e], ?_, ?_⟩
      · simp [bne, e]
      · simp [bne, e]
    | false =>
      rcases ix c r with ⟨h1, h2, h3⟩ | ⟨i, h1, h2, h3⟩
      · refine Or.inl ⟨by simp [indexByte, e, h1], ?_, ?_⟩
        · rw [List.takeWhile_cons]
          simp [bne, e] at h2 ⊢
          exact h2
        · rw [List.dropWhile_cons]
          simp [bne, e] at h3 ⊢
          exact h3
      · refine Or.inr ⟨i + 1, ?_, ?_, ?_⟩
        · rw [indexByte, e, h1]
          have : ((i : Int) == -1) = false := beq_eq_false_iff_ne.2 (by omega)
          simp [this]
        · rw [List.takeWhile_cons]
          simp only [bne, e, Bool.not_false, if_true]
          rw [List.take_succ_cons, ← h2]
          rfl
        · rw [List.dropWhile_cons]
          simp only [bne, e, Bool.not_false, if_true]
          exact h3
theorem cut_one (l : By) (c : UInt8) : (cut l [c]).1 = l.takeWhile (fun b => b != c) ∧ (cut l [c]).2.1 = (l.dropWhile fun b => b != c).drop 1 := by
  unfold cut
  rw [index_one]
  rcases ix c l with ⟨h1, h2, h3⟩ | ⟨i, h1, h2, h3⟩
  · rw [h1, if_neg (by decide), h2, h3]
    exact ⟨rfl, rfl⟩
  · rw [h1, if_pos (by omega), h2, h3]
    exact ⟨rfl, rfl⟩
/-- what stands ahead of a remark. -/
def hashOf (l : By) : By := l.takeWhile fun b => b != 35
/-- may all its bytes stand there? -/
def rightL (l : By) : Bool := (hashOf l).all fun b => gap b || okB b
def wordsOf (l : By) : List By := wordsL (hashOf l)
abbrev Row := Nat × List By
/-- the rows of a text from a line on, or an error and its line. -/
def rowsF : Nat → Nat → By → List Row → (Int × Nat) × List Row
  | 0, _, _, acc => ((0, 0), acc)
  | f + 1, n, l, acc =>
    if l = [] then ((0, 0), acc)
    else if 200 < (lineOf l).length then ((2, n), [])
    else if rightL (lineOf l) = false then ((3, n), [])
    else rowsF f (n + 1) (restOf l) (if wordsOf (lineOf l) = [] then acc else acc ++ [(n, wordsOf (lineOf l))])
theorem rowsF_more : ∀ (f g n : Nat) (l : By) (acc : List Row), l.length ≤ f → l.length ≤ g → rowsF f n l acc = rowsF g n l acc
  | 0, g, n, l, acc, h1, _ => by
    have e : l = [] := List.eq_nil_of_length_eq_zero (by omega)
    subst e
    cases g with
    | zero => rfl
    | succ g => simp [rowsF]
  | f + 1, 0, n, l, acc, _, h2 => by
    have e : l = [] := List.eq_nil_of_length_eq_zero (by omega)
    subst e
    simp [rowsF]
  | f + 1, g + 1, n, l, acc, h1, h2 => by
    unfold rowsF
    by_cases e : l = []
    · rw [if_pos e, if_pos e]
    · have := rest_lt e
      rw [if_neg e, if_neg e, rowsF_more f g (n + 1) (restOf l) _ (by omega) (by omega)]
/-- the error of a text's rows; its rows. -/
def rowsE (t : By) : Int × List (Int × Int) := if 1048576 < t.length then (2, []) else if (rowsF t.length 1 t []).1.1 = 0 then (0, []) else ((rowsF t.length 1 t []).1.1, [(1, ((rowsF t.length 1 t []).1.2 : Int))])
def rowsR (t : By) : List Row := if 1048576 < t.length then [] else (rowsF t.length 1 t []).2
/-- a line more. -/
theorem rows_step {n : Nat} {l : By} {acc : List Row} (h : l ≠ []) (h1 : (lineOf l).length ≤ 200) (h2 : rightL (lineOf l) = true) : rowsF l.length n l acc = rowsF (restOf l).length (n + 1) (restOf l) (if wordsOf (lineOf l) = [] then acc else acc ++ [(n, wordsOf (lineOf l))]) := by
  have hl := rest_lt h
  obtain ⟨f, hf⟩ : ∃ f, l.length = f + 1 := ⟨l.length - 1, by omega⟩
  rw [hf, rowsF, if_neg h, if_neg (by omega), if_neg (by rw [h2]; decide)]
  exact rowsF_more _ _ _ _ _ (by omega) (Nat.le_refl _)
theorem rows_long {n : Nat} {l : By} {acc : List Row} (h : l ≠ []) (h1 : 200 < (lineOf l).length) : rowsF l.length n l acc = ((2, n), []) := by
  obtain ⟨f, hf⟩ : ∃ f, l.length = f + 1 := ⟨l.length - 1, by have := List.length_pos_iff.2 h; omega⟩
  rw [hf, rowsF, if_neg h, if_pos h1]
theorem rows_word {n : Nat} {l : By} {acc : List Row} (h : l ≠ []) (h1 : (lineOf l).length ≤ 200) (h2 : rightL (lineOf l) = false) : rowsF l.length n l acc = ((3, n), []) := by
  obtain ⟨f, hf⟩ : ∃ f, l.length = f + 1 := ⟨l.length - 1, by have := List.length_pos_iff.2 h; omega⟩
  rw [hf, rowsF, if_neg h, if_neg (by omega), if_pos h2]
end Go.Proofs.YthgmhhlgjooeaaaGreatDoor.Gt
