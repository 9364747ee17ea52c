/- a text blown up by blanks, remarks and empty lines: plain mathematics; and what is read is right. -/
import Derived.Test.YtghbekpilhnkfabDoorGuM
namespace Go.Proofs.YtghbekpilhnkfabDoor.Gt
open Go Go.Lib

/-! what is read is right -/
theorem val_lt {R : List Row} {k : Nat} {word : By} {B : List (Nat × Int)} (h : rE R k word B = 0) {j : Nat} {b : Nat × Int} (hj : B[j]? = some b) (hb : b.2 ≠ 0) : val (wdK R k (j + 1)) < b.1 := by
  unfold rE at h
  cases e : R[k]? with
  | none => rw [e] at h; cases h
  | some r =>
    rw [e] at h
    have h1 := (row_num h).2 j b hj
    unfold wdK
    rw [List.getD_eq_getElem?_getD (l := R), e]
    rcases h1 with h1 | h1
    · exact h1
    · exact absurd h1 hb
theorem arcK_ok {R : List Row} {N k : Nat} (h : rE R k awd (bA N) = 0) : ArcOk N (arcK R k) := by
  have h1 := val_lt h (j := 0) (b := (N, 7)) rfl (by show (7 : Int) ≠ 0; decide)
  have h2 := val_lt h (j := 1) (b := (N, 7)) rfl (by show (7 : Int) ≠ 0; decide)
  have h3 := val_lt h (j := 2) (b := (2147483648, 8)) rfl (by decide)
  unfold ArcOk arcK
  simp only [Nat.zero_add, Nat.reduceAdd] at h1 h2 h3 ⊢
  omega
theorem gF_ok {R : List Row} {N : Nat} : ∀ (m k : Nat) (acc : List Arc3), (gF R N m k acc).1.1 = 0 → ∃ ys, (gF R N m k acc).2 = acc ++ ys ∧ ys.length = m ∧ ∀ a ∈ ys, ArcOk N a
  | 0, k, acc, h => by
    rw [gF] at h ⊢
    split at h
    · rename_i h1
      exact absurd h h1
    · split at h
      · cases h
      · rename_i h1 h2
        rw [if_neg h1, if_neg h2]
        exact ⟨[], (List.append_nil _).symm, rfl, by simp⟩
  | m + 1, k, acc, h => by
    rw [gF] at h ⊢
    split at h
    · rename_i h1
      exact absurd h h1
    · rename_i h1
      rw [if_neg h1]
      obtain ⟨ys, e1, e2, e3⟩ := gF_ok m (k + 1) _ h
      refine ⟨arcK R k :: ys, by rw [e1, List.append_assoc]; rfl, by simp [e2], fun a ha => ?_⟩
      rcases List.mem_cons.1 ha with rfl | ha
      · exact arcK_ok (by omega)
      · exact e3 a ha
theorem gR_right {R : List Row} (h : (gR R).1.1 = 0) : GOk (gR R).2.1 (gR R).2.2 := by
  unfold gR at h ⊢
  split at h
  · rename_i h1
    exact absurd h h1
  · rename_i h1
    have h0 : rE R 0 gwd bG = 0 := by omega
    rw [if_neg h1]
    split at h
    · rename_i h2
      rw [if_pos h2]
      obtain ⟨ys, e1, e2, e3⟩ := gF_ok _ _ _ h2
      have n1 := val_lt h0 (j := 0) (b := (65537, 9)) rfl (by decide)
      have n2 := val_lt h0 (j := 1) (b := (262145, 9)) rfl (by decide)
      simp only [Nat.zero_add] at n1 n2
      refine ⟨by show val _ ≤ _; omega, ?_, ?_⟩
      · show (gF _ _ _ _ _).2.length ≤ _
        rw [e1, List.nil_append, e2]
        have : val (wdK R 0 (1 + 1)) = val (wdK R 0 2) := rfl
        omega
      · show ∀ a ∈ (gF _ _ _ _ _).2, _
        rw [e1, List.nil_append]
        exact e3
    · rename_i h2
      exact absurd h h2
theorem psG_right {t : By} (h : psE t = (0, [])) : GOk (psG t).1 (psG t).2 := by
  unfold psE at h
  unfold psG
  split at h
  · rename_i h1
    rw [if_pos h1]
    by_cases h2 : (gR (rowsR t)).1.1 = 0
    · exact gR_right h2
    · rw [if_neg h2] at h
      exact absurd (congrArg Prod.snd h) (by simp)
  · rename_i h1
    exact absurd h h1
/-! graphs of rows whose words are alike -/
theorem rE_words {R S : List Row} (h : R.map (·.2) = S.map (·.2)) (k : Nat) (word : By) (B : List (Nat × Int)) : rE R k word B = rE S k word B := by
  have e := congrArg (fun l => l[k]?) h
  simp only [List.getElem?_map] at e
  unfold rE
  cases h1 : R[k]? with
  | none => cases h2 : S[k]? with
    | none => rfl
    | some s => rw [h1, h2] at e; cases e
  | some r => cases h2 : S[k]? with
    | none => rw [h1, h2] at e; cases e
    | some s =>
      rw [h1, h2] at e
      simp only [Option.map_some, Option.some.injEq] at e
      simp only [e]
theorem wdK_words {R S : List Row} (h : R.map (·.2) = S.map (·.2)) (k j : Nat) : wdK R k j = wdK S k j := by
  have e := congrArg (fun l => l[k]?) h
  simp only [List.getElem?_map] at e
  unfold wdK
  rw [List.getD_eq_getElem?_getD (l := R), List.getD_eq_getElem?_getD (l := S)]
  cases h1 : R[k]? with
  | none => cases h2 : S[k]? with
    | none => rfl
    | some s => rw [h1, h2] at e; cases e
  | some r => cases h2 : S[k]? with
    | none => rw [h1, h2] at e; cases e
    | some s =>
      rw [h1, h2] at e
      simp only [Option.map_some, Option.some.injEq] at e
      simp only [Option.getD_some, e]
theorem gF_words {R S : List Row} (h : R.map (·.2) = S.map (·.2)) (N : Nat) : ∀ (m k : Nat) (acc : List Arc3), (gF R N m k acc).1.1 = (gF S N m k acc).1.1 ∧ (gF R N m k acc).2 = (gF S N m k acc).2
  | 0, k, acc => by
    have hl : R.length = S.length := by simpa using congrArg List.length h
    rw [gF, gF, rE_words h, hl]
    split
    · exact ⟨rfl, rfl⟩
    · split
      · exact ⟨rfl, rfl⟩
      · exact ⟨rfl, rfl⟩
  | m + 1, k, acc => by
    have ea : arcK R k = arcK S k := by unfold arcK; rw [wdK_words h, wdK_words h, wdK_words h]
    rw [gF, gF, rE_words h, ea]
    split
    · exact ⟨rfl, rfl⟩
    · exact gF_words h N m (k + 1) _
theorem gR_words {R S : List Row} (h : R.map (·.2) = S.map (·.2)) : (gR R).1.1 = (gR S).1.1 ∧ (gR R).2 = (gR S).2 := by
  unfold gR
  rw [rE_words h, wdK_words h 0 1, wdK_words h 0 2]
  obtain ⟨e1, e2⟩ := gF_words h (val (wdK S 0 1)) (val (wdK S 0 2)) 1 []
  split
  · exact ⟨rfl, rfl⟩
  · rw [e1, e2]
    split
    · exact ⟨rfl, rfl⟩
    · exact ⟨e1, rfl⟩
/-! the text, blown up -/
def wd (b : UInt8) : By := if b = 10 then [9, 10, 32, 32, 35, 32, 109, 111, 114, 101, 10] else if b = 32 then [32, 9] else [b]
def hdr : By := [35, 32, 97, 32, 103, 114, 97, 112, 104, 10, 10]
def wideL (t : By) : By := hdr ++ t.flatMap wd
def moreL : By := [32, 32, 35, 32, 109, 111, 114, 101]
/-- is a line too long? -/
def tooW : Nat → By → Bool
  | _, [] => false
  | n, b :: r => if 200 < (if b = 10 then 0 else n + 1) then true else tooW (if b = 10 then 0 else n + 1) r
theorem tooW_line : ∀ (l r : By) (n : Nat), (∀ b ∈ l, b ≠ 10) → n ≤ 200 → tooW n (l ++ r) = if 200 < n + l.length then true else tooW (n + l.length) r
  | [], r, n, _, hn => by
    rw [List.nil_append, List.length_nil, Nat.add_zero, if_neg (by omega)]
  | a :: l, r, n, h, hn => by
    have ha : a ≠ 10 := h a (by simp)
    rw [List.cons_append, tooW, if_neg ha]
    by_cases h1 : 200 < n + 1
    · rw [if_pos h1, if_pos (by simp; omega)]
    · rw [if_neg h1, tooW_line l r (n + 1) (fun b hb => h b (by simp [hb])) (by omega), show n + 1 + l.length = n + (a :: l).length by simp; omega]
theorem line_no (l : By) : ∀ b ∈ lineOf l, b ≠ 10 := by
  unfold lineOf
  induction l with
  | nil => simp
  | cons a l ih =>
    intro b hb
    rw [List.takeWhile_cons] at hb
    split at hb
    · rename_i h
      rcases List.mem_cons.1 hb with rfl | hb
      · exact bne_iff_ne.1 h
      · exact ih b hb
    · cases hb
/-- a text is its first line and what is behind it. -/
theorem line_split (l : By) : (l = lineOf l ∧ restOf l = []) ∨ l = lineOf l ++ 10 :: restOf l := by
  unfold lineOf restOf
  induction l with
  | nil => exact Or.inl ⟨rfl, rfl⟩
  | cons a l ih =>
    by_cases h : a = 10
    · subst h
      exact Or.inr rfl
    · have hb : (a != 10) = true := bne_iff_ne.2 h
      rw [List.takeWhile_cons, List.dropWhile_cons, hb]
      rcases ih with ⟨e1, e2⟩ | e
      · exact Or.inl ⟨by rw [if_pos rfl, ← e1], by rw [if_pos rfl]; exact e2⟩
      · exact Or.inr (by rw [if_pos rfl, if_pos rfl, List.cons_append, ← e])
theorem line_of {l r : By} (h : ∀ b ∈ l, b ≠ 10) : lineOf (l ++ 10 :: r) = l ∧ restOf (l ++ 10 :: r) = r := by
  have h1 := takeW_stop l r (fun b => b != 10) 10 (fun b hb => bne_iff_ne.2 (h b hb)) (by decide)
  unfold lineOf restOf
  rw [h1.1, h1.2]
  exact ⟨rfl, rfl⟩
theorem line_all {l : By} (h : ∀ b ∈ l, b ≠ 10) : lineOf l = l ∧ restOf l = [] := by
  have h1 : l.takeWhile (fun b => b != 10) = l := takeW_all fun b hb => bne_iff_ne.2 (h b hb)
  refine ⟨h1, ?_⟩
  rcases line_split l with ⟨_, e⟩ | e
  · exact e
  · unfold lineOf at e
    rw [h1] at e
    have := congrArg List.length e
    simp at this
theorem wd_no {l : By} (h : ∀ b ∈ l, b ≠ 10) : ∀ b ∈ l.flatMap wd, b ≠ 10 := by
  intro b hb
  rw [List.mem_flatMap] at hb
  obtain ⟨a, ha, hb⟩ := hb
  unfold wd at hb
  rw [if_neg (h a ha)] at hb
  split at hb
  · simp at hb
    rcases hb with rfl | rfl <;> decide
  · simp at hb
    rw [hb]
    exact h a ha
theorem wd_words : ∀ (l cur tl : By), (∀ b ∈ l, b ≠ 10) → (tl = [] ∨ tl = [9]) → wordsF cur (l.flatMap wd ++ tl) = wordsF cur l
  | [], cur, tl, _, ht => by
    rcases ht with rfl | rfl
    · rfl
    · show wordsF cur [9] = wordsF cur []
      have e9 : wordsF cur [9] = if gap 9 then (if cur = [] then wordsF [] [] else cur :: wordsF [] []) else wordsF (cur ++ [9]) [] := wordsF.eq_2 cur 9 []
      have e8 : wordsF cur [] = if cur = [] then [] else [cur] := wordsF.eq_1 cur
      have e7 : wordsF [] [] = [] := rfl
      rw [e9, if_pos (by decide : gap 9 = true), e8, e7]
  | a :: l, cur, tl, h, ht => by
    have ih := fun c => wd_words l c tl (fun b hb => h b (by simp [hb])) ht
    have ha : a ≠ 10 := h a (by simp)
    have e : (a :: l).flatMap wd ++ tl = wd a ++ (l.flatMap wd ++ tl) := by simp
    rw [e]
    unfold wd
    rw [if_neg ha]
    by_cases h32 : a = 32
    · subst h32
      rw [if_pos rfl]
      show wordsF cur (32 :: 9 :: (l.flatMap wd ++ tl)) = wordsF cur (32 :: l)
      have e9 : wordsF [] (9 :: (l.flatMap wd ++ tl)) = wordsF [] l := by
        rw [wordsF, if_pos (by decide : gap 9 = true), if_pos rfl, ih]
      rw [wordsF, if_pos (by decide : gap 32 = true), e9, wordsF, if_pos (by decide : gap 32 = true)]
    · rw [if_neg h32]
      show wordsF cur (a :: (l.flatMap wd ++ tl)) = wordsF cur (a :: l)
      rw [wordsF, wordsF, ih, ih]
theorem wd_right {l : By} (h : ∀ b ∈ l, b ≠ 10) (h2 : (l.all fun b => gap b || okB b) = true) : ((l.flatMap wd).all fun b => gap b || okB b) = true := by
  refine List.all_eq_true.2 fun b hb => ?_
  rw [List.mem_flatMap] at hb
  obtain ⟨a, ha, hb⟩ := hb
  have h3 := List.all_eq_true.1 h2 a ha
  unfold wd at hb
  rw [if_neg (h a ha)] at hb
  split at hb
  · simp at hb
    rcases hb with rfl | rfl <;> decide
  · simp at hb
    rw [hb]
    exact h3
theorem wd_35 {l : By} (h : ∀ b ∈ l, b ≠ 10) (h2 : ∀ b ∈ l, b ≠ 35) : ∀ b ∈ l.flatMap wd, b ≠ 35 := by
  intro b hb
  rw [List.mem_flatMap] at hb
  obtain ⟨a, ha, hb⟩ := hb
  unfold wd at hb
  rw [if_neg (h a ha)] at hb
  split at hb
  · simp at hb
    rcases hb with rfl | rfl <;> decide
  · simp at hb
    rw [hb]
    exact h2 a ha
theorem hash_split (l : By) : (l = hashOf l ∧ ∀ b ∈ l, b ≠ 35) ∨ (∃ r, l = hashOf l ++ 35 :: r ∧ ∀ b ∈ hashOf l, b ≠ 35) := by
  unfold hashOf
  induction l with
  | nil => exact Or.inl ⟨rfl, by simp⟩
  | cons a l ih =>
    by_cases h : a = 35
    · subst h
      exact Or.inr ⟨l, rfl, by simp⟩
    · have hb : (a != 35) = true := bne_iff_ne.2 h
      rw [List.takeWhile_cons, hb, if_pos rfl]
      rcases ih with ⟨e1, e2⟩ | ⟨r, e, e2⟩
      · refine Or.inl ⟨by rw [← e1], fun b hb => ?_⟩
        rcases List.mem_cons.1 hb with rfl | hb
        · exact h
        · exact e2 b hb
      · refine Or.inr ⟨r, by rw [List.cons_append, ← e], fun b hb => ?_⟩
        rcases List.mem_cons.1 hb with rfl | hb
        · exact h
        · exact e2 b hb
/-- a line, blown up: what stands there is right, and the words are the same. -/
theorem wd_line {l tl : By} (h : ∀ b ∈ l, b ≠ 10) (hr : rightL l = true) (ht : tl = [] ∨ tl = [9]) : rightL (l.flatMap wd ++ tl) = true ∧ wordsOf (l.flatMap wd ++ tl) = wordsOf l := by
  unfold rightL wordsOf wordsL at *
  have hno : ∀ b ∈ hashOf l, b ≠ 10 := fun b hb => h b ((List.takeWhile_sublist _).subset hb)
  have htl : ∀ b ∈ tl, b ≠ 35 := by rcases ht with rfl | rfl <;> simp
  rcases hash_split l with ⟨e1, e2⟩ | ⟨r, e, e2⟩
  · have e3 : hashOf (l.flatMap wd ++ tl) = l.flatMap wd ++ tl := takeW_all fun b hb => bne_iff_ne.2 (by
      rcases List.mem_append.1 hb with hb | hb
      · exact wd_35 h e2 b hb
      · exact htl b hb)
    rw [e3]
    rw [← e1] at hr ⊢
    refine ⟨?_, wd_words l [] tl h ht⟩
    rw [List.all_append, wd_right h hr, Bool.true_and]
    rcases ht with rfl | rfl <;> rfl
  · have e3 : hashOf (l.flatMap wd ++ tl) = (hashOf l).flatMap wd := by
      have e4 : l.flatMap wd ++ tl = (hashOf l).flatMap wd ++ 35 :: (r.flatMap wd ++ tl) := by
        conv => lhs; rw [e]
        rw [List.flatMap_append, List.flatMap_cons, List.append_assoc]
        have : wd 35 = [35] := rfl
        rw [this]
        simp
      rw [e4]
      exact (takeW_stop _ _ (fun b => b != 35) 35 (fun b hb => bne_iff_ne.2 (wd_35 hno e2 b hb)) (by decide)).1
    rw [e3]
    refine ⟨wd_right hno hr, ?_⟩
    have := wd_words (hashOf l) [] [] hno (Or.inl rfl)
    rw [List.append_nil] at this
    exact this
/-- what is said of the rows of a text that is blown up: none is refused, and the words are those; or a line is too long. -/
def WideOk (S : (Int × Nat) × List Row) (R : List Row) (W : By) : Prop := (S.1.1 = 0 ∧ S.2.map (·.2) = R.map (·.2)) ∨ (S.1.1 = 2 ∧ tooW 0 W = true)
theorem tooW_long {l : By} (h : 200 < (lineOf l).length) : tooW 0 l = true := by
  rcases line_split l with ⟨e, _⟩ | e
  · have := tooW_line (lineOf l) [] 0 (line_no l) (by omega)
    rw [List.append_nil, ← e] at this
    rw [this, if_pos (by rw [← e] at h; omega)]
  · have := tooW_line (lineOf l) (10 :: restOf l) 0 (line_no l) (by omega)
    rw [← e] at this
    rw [this, if_pos (by omega)]
theorem tooW_rest {l : By} (h : (lineOf l).length ≤ 200) (h2 : tooW 0 (restOf l) = true) : tooW 0 l = true := by
  rcases line_split l with ⟨e, e2⟩ | e
  · rw [e2] at h2; cases h2
  · have := tooW_line (lineOf l) (10 :: restOf l) 0 (line_no l) (by omega)
    rw [← e, if_neg (by omega), tooW, if_pos rfl, if_neg (by omega)] at this
    rw [this]
    exact h2
/-- a line more of a text that is blown up. -/
theorem wide_line {n : Nat} {W : By} {acc R : List Row} (hne : W ≠ []) (hr : rightL (lineOf W) = true) (h : (lineOf W).length ≤ 200 → WideOk (rowsF (restOf W).length (n + 1) (restOf W) (if wordsOf (lineOf W) = [] then acc else acc ++ [(n, wordsOf (lineOf W))])) R (restOf W)) : WideOk (rowsF W.length n W acc) R W := by
  by_cases hl : 200 < (lineOf W).length
  · rw [rows_long hne hl]
    exact Or.inr ⟨rfl, tooW_long hl⟩
  · rw [rows_step hne (by omega) hr]
    rcases h (by omega) with h | ⟨h1, h2⟩
    · exact Or.inl h
    · exact Or.inr ⟨h1, tooW_rest (by omega) h2⟩
theorem rows_wide (N : Nat) : ∀ (l : By) (n m : Nat) (acc bcc : List Row), l.length ≤ N → (rowsF l.length n l acc).1.1 = 0 → bcc.map (·.2) = acc.map (·.2) → WideOk (rowsF (l.flatMap wd).length m (l.flatMap wd) bcc) (rowsF l.length n l acc).2 (l.flatMap wd) := by
  induction N with
  | zero =>
    intro l n m acc bcc hN h0 hb
    have : l = [] := List.eq_nil_of_length_eq_zero (by omega)
    subst this
    exact Or.inl ⟨rfl, hb⟩
  | succ N ih =>
    intro l n m acc bcc hN h0 hb
    by_cases hne : l = []
    · subst hne
      exact Or.inl ⟨rfl, hb⟩
    · by_cases hlong : 200 < (lineOf l).length
      · rw [rows_long hne hlong] at h0; cases h0
      · cases hrt : rightL (lineOf l) with
        | false => rw [rows_word hne (by omega) hrt] at h0; cases h0
        | true =>
          rw [rows_step hne (by omega) hrt] at h0 ⊢
          have hno := line_no l
          have hlt := rest_lt hne
          have hacc : ∀ k, (if wordsOf (lineOf l) = [] then bcc else bcc ++ [(k, wordsOf (lineOf l))]).map (·.2) = (if wordsOf (lineOf l) = [] then acc else acc ++ [(n, wordsOf (lineOf l))]).map (·.2) := fun k => by
            split
            · exact hb
            · rw [List.map_append, List.map_append, hb]; rfl
          rcases line_split l with ⟨e, e2⟩ | e
          · rw [e2] at h0 ⊢
            obtain ⟨g1, g2⟩ := wd_line (tl := []) hno hrt (Or.inl rfl)
            rw [List.append_nil] at g1 g2
            have hl := line_all (wd_no hno)
            rw [← e] at g1 g2 hl
            have hwn : l.flatMap wd ≠ [] := by
              intro q
              rcases l with _ | ⟨a, l⟩
              · exact hne rfl
              · have := congrArg List.length q
                rw [List.flatMap_cons, List.length_append] at this
                unfold wd at this
                split at this
                · simp at this
                · split at this <;> simp at this
            refine wide_line hwn (by rw [hl.1]; exact g1) fun _ => ?_
            rw [hl.1, hl.2, g2]
            refine Or.inl ⟨rfl, ?_⟩
            have := hacc m
            rw [← e] at this ⊢
            exact this
          · obtain ⟨g1, g2⟩ := wd_line (tl := [9]) hno hrt (Or.inr rfl)
            have eW : l.flatMap wd = ((lineOf l).flatMap wd ++ [9]) ++ 10 :: (moreL ++ 10 :: (restOf l).flatMap wd) := by
              conv => lhs; rw [e]
              rw [List.flatMap_append, List.flatMap_cons]
              have : wd 10 = [9, 10, 32, 32, 35, 32, 109, 111, 114, 101, 10] := rfl
              rw [this]
              simp [moreL]
            have hl := line_of (l := (lineOf l).flatMap wd ++ [9]) (r := moreL ++ 10 :: (restOf l).flatMap wd) (fun b hb => by
              rcases List.mem_append.1 hb with hb | hb
              · exact wd_no hno b hb
              · simp at hb; rw [hb]; decide)
            have hm := line_of (l := moreL) (r := (restOf l).flatMap wd) (by decide)
            have key : WideOk (rowsF (l.flatMap wd).length m (l.flatMap wd) bcc) (rowsF (restOf l).length (n + 1) (restOf l) (if wordsOf (lineOf l) = [] then acc else acc ++ [(n, wordsOf (lineOf l))])).2 (l.flatMap wd) := by
              rw [eW]
              refine wide_line (by simp) (by rw [hl.1]; exact g1) fun _ => ?_
              rw [hl.1, hl.2, g2]
              refine wide_line (by simp) (by rw [hm.1]; decide) fun _ => ?_
              rw [hm.1, hm.2, if_pos (by decide : wordsOf moreL = [])]
              exact ih (restOf l) (n + 1) (m + 1 + 1) _ _ (by omega) h0 (hacc m)
            exact key
theorem wide_len (t : By) : (wideL t).length ≤ 11 + 11 * t.length := by
  unfold wideL
  rw [List.length_append]
  have : (t.flatMap wd).length ≤ 11 * t.length := by
    induction t with
    | nil => exact Nat.le_refl _
    | cons a t ih =>
      rw [List.flatMap_cons, List.length_append]
      have h1 : (wd a).length ≤ 11 := by
        unfold wd
        split
        · exact Nat.le_refl _
        · split <;> simp
      simp only [List.length_cons]
      omega
  show 11 + _ ≤ _
  omega
/-- a text that is read, blown up: it is read alike, or a line is too long. -/
theorem ps_wide {t : By} (h : psE t = (0, [])) (hl : t.length ≤ 2000) : (psE (wideL t) = (0, []) ∧ psG (wideL t) = psG t) ∨ (psE (wideL t) ≠ (0, []) ∧ tooW 0 (wideL t) = true) := by
  have hwl := wide_len t
  have hE : rowsE t = (0, []) := by
    unfold psE at h
    split at h
    · assumption
    · rename_i h1; exact absurd h h1
  have hF : (rowsF t.length 1 t []).1.1 = 0 := by
    unfold rowsE at hE
    rw [if_neg (by omega)] at hE
    by_cases h2 : (rowsF t.length 1 t []).1.1 = 0
    · exact h2
    · rw [if_neg h2] at hE
      exact absurd (congrArg Prod.snd hE) (by simp)
  have hR : rowsR t = (rowsF t.length 1 t []).2 := by unfold rowsR; rw [if_neg (by omega)]
  have e1 : lineOf (wideL t) = [35, 32, 97, 32, 103, 114, 97, 112, 104] ∧ restOf (wideL t) = 10 :: t.flatMap wd := line_of (l := [35, 32, 97, 32, 103, 114, 97, 112, 104]) (r := 10 :: t.flatMap wd) (by decide)
  have e2 : lineOf (10 :: t.flatMap wd) = [] ∧ restOf (10 :: t.flatMap wd) = t.flatMap wd := line_of (l := []) (by simp)
  have key : WideOk (rowsF (wideL t).length 1 (wideL t) []) (rowsF t.length 1 t []).2 (wideL t) := by
    refine wide_line (by unfold wideL hdr; simp) (by rw [e1.1]; decide) fun _ => ?_
    rw [e1.1, e1.2, if_pos (by decide : wordsOf [35, 32, 97, 32, 103, 114, 97, 112, 104] = [])]
    refine wide_line (by simp) (by rw [e2.1]; decide) fun _ => ?_
    rw [e2.1, e2.2, if_pos (by decide : wordsOf [] = [])]
    exact rows_wide t.length t 1 _ [] [] (Nat.le_refl _) hF rfl
  rcases key with ⟨k1, k2⟩ | ⟨k1, k2⟩
  · left
    have hE2 : rowsE (wideL t) = (0, []) := by unfold rowsE; rw [if_neg (by omega), if_pos k1]
    have hR2 : rowsR (wideL t) = (rowsF (wideL t).length 1 (wideL t) []).2 := by unfold rowsR; rw [if_neg (by omega)]
    rw [← hR, ← hR2] at k2
    obtain ⟨w1, w2⟩ := gR_words k2
    unfold psE psG
    unfold psE at h
    rw [if_pos hE] at h
    rw [if_pos hE2, if_pos hE2, if_pos hE]
    refine ⟨?_, w2⟩
    by_cases h3 : (gR (rowsR t)).1.1 = 0
    · rw [if_pos (by rw [w1]; exact h3)]
    · rw [if_neg h3] at h
      exact absurd (congrArg Prod.snd h) (by simp)
  · right
    refine ⟨?_, k2⟩
    have hE2 : rowsE (wideL t) = (2, [(1, ((rowsF (wideL t).length 1 (wideL t) []).1.2 : Int))]) := by
      unfold rowsE
      rw [if_neg (by omega), if_neg (by rw [k1]; decide), k1]
    unfold psE
    rw [if_neg (by rw [hE2]; simp), hE2]
    simp
end Go.Proofs.YtghbekpilhnkfabDoor.Gt
