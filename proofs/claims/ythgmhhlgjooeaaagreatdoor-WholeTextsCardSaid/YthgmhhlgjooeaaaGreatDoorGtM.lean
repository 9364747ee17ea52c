/- texts, byte by byte: lines, words, numbers: plain mathematics; and FieldsFunc at gaps. -/
import Derived.Lib.FieldsP
import Derived.Laws.RangeAny
namespace Go.Proofs.YthgmhhlgjooeaaaGreatDoor.Gt
open Go Go.Lib

abbrev By := List UInt8
/-- does a byte part words? -/
def gap (b : UInt8) : Bool := b == 32 || b == 9 || b == 13
/-- may a byte stand in a word? -/
def okB (b : UInt8) : Bool := decide (33 ≤ b.toNat) && decide (b.toNat ≤ 126)
/-- the words of bytes, the first one having begun with cur. -/
def wordsF : By → By → List By
  | cur, [] => if cur = [] then [] else [cur]
  | cur, b :: r => if gap b then (if cur = [] then wordsF [] r else cur :: wordsF [] r) else wordsF (cur ++ [b]) r
def wordsL (l : By) : List By := wordsF [] l
/-- all bytes of words may stand there, just if all bytes but gaps may. -/
theorem words_ok : ∀ (l cur : By), ((wordsF cur l).all fun w => w.all okB) = (cur.all okB && l.all fun b => gap b || okB b)
  | [], cur => by
    unfold wordsF
    by_cases e : cur = []
    · rw [if_pos e, e]; rfl
    · rw [if_neg e]; simp
  | b :: r, cur => by
    unfold wordsF
    by_cases g : gap b = true
    · rw [if_pos g]
      by_cases e : cur = []
      · rw [if_pos e, words_ok r [], e]
        simp [g]
      · rw [if_neg e, List.all_cons, words_ok r []]
        simp [g]
    · rw [if_neg g, words_ok r (cur ++ [b])]
      have g' : gap b = false := by simpa using g
      simp [g', Bool.and_assoc]
theorem words_ne : ∀ (l cur : By), ∀ w ∈ wordsF cur l, w ≠ []
  | [], cur, w, hw => by
    unfold wordsF at hw
    split at hw
    · cases hw
    · rename_i e
      rw [List.mem_singleton.1 hw]
      exact e
  | b :: r, cur, w, hw => by
    unfold wordsF at hw
    split at hw
    · split at hw
      · exact words_ne r [] w hw
      · rename_i e
        rcases List.mem_cons.1 hw with rfl | hw
        · exact e
        · exact words_ne r [] w hw
    · exact words_ne r (cur ++ [b]) w hw

/-- a gap, by its rune. -/
def gapR (r : Nat) : Bool := r == 32 || r == 9 || r == 13
theorem gapR_byte (b : UInt8) : gapR b.toNat = gap b := by
  have h : ∀ c : UInt8, (b.toNat == c.toNat) = (b == c) := fun c => by
    by_cases e : b = c
    · rw [e, beq_self_eq_true, beq_self_eq_true]
    · rw [beq_eq_false_iff_ne.2 e, beq_eq_false_iff_ne.2 (fun q => e (UInt8.toNat_inj.1 q))]
  unfold gapR gap
  rw [← h 32, ← h 9, ← h 13]
  rfl
/-- what a rune takes of a string: beyond its first byte only bytes above 127. -/
theorem decode_takes (s : ByteArray) (pos : Nat) (h : pos < s.size) (ha : 128 ≤ (s[pos]'h).toNat) : pos + (Utf8.decode s pos).2 ≤ s.size ∧ ∀ k, k < (Utf8.decode s pos).2 → 128 ≤ (s.get! (pos + k)).toNat := by
  have hn : ¬ (s[pos]'h).toNat < 128 := by omega
  have h0 : 128 ≤ (s.get! (pos + 0)).toNat := by rw [get_at s pos h]; exact ha
  have one : pos + 1 ≤ s.size ∧ ∀ k, k < 1 → 128 ≤ (s.get! (pos + k)).toNat := ⟨by omega, fun k hk => by rw [Nat.lt_one_iff.1 hk]; exact h0⟩
  simp only [Utf8.decode, get_at s pos h, hn, if_false]
  split
  · rename_i c
    simp only [Bool.and_eq_true, decide_eq_true_eq, beq_iff_eq] at c
    split
    · refine ⟨by omega, fun k hk => ?_⟩
      rcases (show k = 0 ∨ k = 1 by simp at hk; omega) with rfl | rfl
      · exact h0
      · omega
    · exact one
  · split
    · rename_i c
      simp only [Bool.and_eq_true, decide_eq_true_eq, beq_iff_eq] at c
      split
      · refine ⟨by omega, fun k hk => ?_⟩
        rcases (show k = 0 ∨ k = 1 ∨ k = 2 by simp at hk; omega) with rfl | rfl | rfl
        · exact h0
        · omega
        · omega
      · exact one
    · split
      · rename_i c
        simp only [Bool.and_eq_true, decide_eq_true_eq, beq_iff_eq] at c
        split
        · refine ⟨by omega, fun k hk => ?_⟩
          rcases (show k = 0 ∨ k = 1 ∨ k = 2 ∨ k = 3 by simp at hk; omega) with rfl | rfl | rfl | rfl
          · exact h0
          · omega
          · omega
          · omega
        · exact one
      · exact one
/-- the bytes of a string. -/
def bs (s : ByteArray) : By := s.data.toList
theorem bs_len (s : ByteArray) : (bs s).length = s.size := Array.length_toList
theorem bs_extract (s : ByteArray) (a b : Nat) : bs (s.extract a b) = ((bs s).drop a).take (b - a) := by
  unfold bs
  rw [ByteArray.data_extract, Array.toList_extract]
theorem bs_get (s : ByteArray) (i : Nat) (h : i < s.size) : (bs s)[i]? = some (s.get! i) := by
  have h2 : i < s.data.size := h
  show s.data.toList[i]? = some s.data[i]!
  rw [Array.getElem?_toList, Array.getElem?_eq_getElem h2, getElem!_pos s.data i h2]
theorem words_skip : ∀ (B cur r : By), (∀ b ∈ B, gap b = false) → wordsF cur (B ++ r) = wordsF (cur ++ B) r
  | [], cur, r, _ => by simp
  | b :: B, cur, r, h => by
    rw [List.cons_append, wordsF, if_neg (by rw [h b (by simp)]; decide), words_skip B (cur ++ [b]) r fun c hc => h c (by simp [hc])]
    simp
theorem high_gap {b : UInt8} (h : 128 ≤ b.toNat) : gap b = false := by
  rw [← gapR_byte]
  unfold gapR
  simp
  omega
/-- what has begun, at a place. -/
def begun (s : ByteArray) (pos : Nat) : Option Nat → By
  | none => []
  | some a => ((bs s).drop a).take (pos - a)
theorem begun_more (s : ByteArray) {pos n a : Nat} (ha : a ≤ pos) : begun s (pos + n) (some a) = begun s pos (some a) ++ ((bs s).drop pos).take n := by
  show ((bs s).drop a).take (pos + n - a) = ((bs s).drop a).take (pos - a) ++ ((bs s).drop pos).take n
  have e : pos + n - a = (pos - a) + n := by omega
  rw [e, List.take_add, List.drop_drop, show a + (pos - a) = pos by omega]
theorem fields_from (s : ByteArray) : ∀ (f pos : Nat) (st : Option Nat) (acc : List (Nat × Nat)), s.size ≤ pos + f → (∀ a, st = some a → a < pos ∧ pos ≤ s.size) →
    (closeSpans s (spansFromP gapR s f pos st acc)).map (fun x => bs (s.extract x.1 x.2)) = acc.map (fun x => bs (s.extract x.1 x.2)) ++ wordsF (begun s pos st) ((bs s).drop pos) := by
  intro f
  induction f with
  | zero =>
    intro pos st acc hf hst
    have e : (bs s).drop pos = [] := List.drop_eq_nil_of_le (by rw [bs_len]; omega)
    rw [e]
    cases st with
    | none => simp [spansFromP, closeSpans, begun, wordsF]
    | some a =>
      obtain ⟨h1, h2⟩ := hst a rfl
      have hp : pos = s.size := by omega
      have hb : begun s pos (some a) = bs (s.extract a s.size) := by rw [bs_extract, hp]; rfl
      have hne : begun s pos (some a) ≠ [] := by
        rw [hb]
        intro q
        have := congrArg List.length q
        rw [bs_extract, List.length_take, List.length_drop, bs_len] at this
        simp at this
        omega
      unfold wordsF
      rw [if_neg hne, hb]
      simp [spansFromP, closeSpans]
  | succ f ih =>
    intro pos st acc hf hst
    by_cases hlt : pos < s.size
    · have hd : (bs s).drop pos = s.get! pos :: (bs s).drop (pos + 1) := by
        have := bs_get s pos hlt
        rw [List.drop_eq_getElem_cons (by rw [bs_len]; exact hlt)]
        congr 1
        exact Option.some.inj ((List.getElem?_eq_getElem _).symm.trans this)
      have hg0 : s.get! (pos + 0) = s[pos]'hlt := get_at s pos hlt
      rw [Nat.add_zero] at hg0
      have hne : ∀ a, st = some a → begun s pos (some a) ≠ [] := fun a ha q => by
        obtain ⟨h1, h2⟩ := hst a ha
        have := congrArg List.length q
        unfold begun at this
        rw [List.length_take, List.length_drop, bs_len] at this
        simp at this
        omega
      rcases Nat.lt_or_ge (s[pos]'hlt).toNat 128 with hlow | hhigh
      · have hdec := decode_ascii s pos hlt hlow
        rw [hd]
        cases hgp : gap (s.get! pos) with
        | true =>
          have hgr : gapR (Utf8.decode s pos).1 = true := by rw [hdec, ← hg0, gapR_byte]; exact hgp
          cases st with
          | none =>
            rw [spansFromP, if_pos hlt, if_pos hgr]
            rw [hdec, ih (pos + 1) none acc (by omega) (fun a ha => by cases ha)]
            rw [wordsF, if_pos hgp]
            show _ = _ ++ (if ([] : By) = [] then _ else _)
            rw [if_pos rfl]
            rfl
          | some a =>
            obtain ⟨h1, h2⟩ := hst a rfl
            rw [spansFromP, if_pos hlt, if_pos hgr]
            rw [hdec, ih (pos + 1) none (acc ++ [(a, pos)]) (by omega) (fun a ha => by cases ha)]
            rw [wordsF, if_pos hgp, if_neg (hne a rfl)]
            have e : bs (s.extract a pos) = begun s pos (some a) := by rw [bs_extract]; rfl
            simp [e, begun]
        | false =>
          have hgr : ¬ gapR (Utf8.decode s pos).1 = true := by rw [hdec, ← hg0, gapR_byte, hgp]; decide
          have ht1 : ((bs s).drop pos).take 1 = [s.get! pos] := by rw [hd]; rfl
          cases st with
          | none =>
            rw [spansFromP, if_pos hlt, if_neg hgr]
            rw [hdec, ih (pos + 1) (some pos) acc (by omega) (fun a ha => by injection ha with ha; subst ha; omega)]
            rw [wordsF, if_neg (by rw [hgp]; decide)]
            have e : begun s (pos + 1) (some pos) = [s.get! pos] := by
              show ((bs s).drop pos).take (pos + 1 - pos) = _
              rw [show pos + 1 - pos = 1 by omega, ht1]
            rw [e]
            rfl
          | some a =>
            obtain ⟨h1, h2⟩ := hst a rfl
            rw [spansFromP, if_pos hlt, if_neg hgr]
            rw [hdec, ih (pos + 1) (some a) acc (by omega) (fun b hb => by injection hb with hb; subst hb; omega)]
            rw [wordsF, if_neg (by rw [hgp]; decide), begun_more s (by omega), ht1]
      · obtain ⟨d1, d2⟩ := decode_high s pos hlt hhigh
        obtain ⟨d3, d4⟩ := decode_takes s pos hlt hhigh
        have hgr : ¬ gapR (Utf8.decode s pos).1 = true := by
          unfold gapR
          simp
          omega
        obtain ⟨n, hn⟩ : ∃ n, (Utf8.decode s pos).2 = n := ⟨_, rfl⟩
        rw [hn] at d2 d3 d4
        have hB : ∀ b ∈ ((bs s).drop pos).take n, gap b = false := fun b hb => by
          obtain ⟨k, hk⟩ := List.getElem?_of_mem hb
          rw [List.getElem?_take] at hk
          split at hk
          · rename_i hkn
            rw [List.getElem?_drop, bs_get s (pos + k) (by omega)] at hk
            rw [← Option.some.inj hk]
            exact high_gap (d4 k hkn)
          · cases hk
        have hsp : (bs s).drop pos = ((bs s).drop pos).take n ++ (bs s).drop (pos + n) := by
          rw [← List.drop_drop, List.take_append_drop]
        cases st with
        | none =>
          rw [spansFromP, if_pos hlt, if_neg hgr]
          rw [hn, ih (pos + n) (some pos) acc (by omega) (fun a ha => by injection ha with ha; subst ha; omega)]
          rw [hsp, words_skip _ _ _ hB]
          have e : begun s (pos + n) (some pos) = ((bs s).drop pos).take n := by
            show ((bs s).drop pos).take (pos + n - pos) = _
            rw [show pos + n - pos = n by omega]
          rw [e]
          simp [begun]
        | some a =>
          obtain ⟨h1, h2⟩ := hst a rfl
          rw [spansFromP, if_pos hlt, if_neg hgr]
          rw [hn, ih (pos + n) (some a) acc (by omega) (fun b hb => by injection hb with hb; subst hb; omega)]
          rw [begun_more s (by omega)]
          conv => rhs; rw [hsp]
          rw [words_skip _ _ _ hB]
    · rw [spansFromP_end _ _ _ _ _ _ hlt]
      have e : (bs s).drop pos = [] := List.drop_eq_nil_of_le (by rw [bs_len]; omega)
      rw [e]
      cases st with
      | none => simp [closeSpans, begun, wordsF]
      | some a =>
        obtain ⟨h1, h2⟩ := hst a rfl
        have hp : pos = s.size := by omega
        have hb : begun s pos (some a) = bs (s.extract a s.size) := by rw [bs_extract, hp]; rfl
        have hne : begun s pos (some a) ≠ [] := by
          rw [hb]
          intro q
          have := congrArg List.length q
          rw [bs_extract, List.length_take, List.length_drop, bs_len] at this
          simp at this
          omega
        unfold wordsF
        rw [if_neg hne, hb]
        simp [closeSpans]
/-- strings.FieldsFunc at gaps: the words. -/
theorem fields_words (s : ByteArray) : (goFieldsP gapR s).map bs = wordsL (bs s) := by
  have g := fields_from s s.size 0 none [] (by omega) (fun a ha => by cases ha)
  unfold goFieldsP spansOfP wordsL
  rw [List.map_map]
  simpa [begun, Function.comp_def] using g
end Go.Proofs.YthgmhhlgjooeaaaGreatDoor.Gt
