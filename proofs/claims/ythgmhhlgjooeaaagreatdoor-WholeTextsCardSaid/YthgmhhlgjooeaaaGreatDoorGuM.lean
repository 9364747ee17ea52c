/- what is printed, and what it is read as: plain mathematics. -/
import Derived.Test.YthgmhhlgjooeaaaGreatDoorGtK
import Derived.Lib.ItoaLen
namespace Go.Proofs.YthgmhhlgjooeaaaGreatDoor.Gt
open Go Go.Lib

/-- a row as it is printed. -/
def numL (ns : List Int) : By := ns.flatMap fun n => 32 :: itoa n
def rowL (word : By) (ns : List Int) : By := word ++ numL ns ++ [10]
theorem numL_append (a b : List Int) : numL (a ++ b) = numL a ++ numL b := by simp [numL]
theorem numL_cons (n : Int) (ns : List Int) : numL (n :: ns) = 32 :: (itoa n ++ numL ns) := rfl
/-- a graph as it is printed. -/
def arcNs (a : Arc3) : List Int := [a.1, a.2.1, a.2.2]
abbrev PR := By × List Int
def txt (L : List PR) : By := L.flatMap fun p => rowL p.1 p.2
def prR (N : Int) (xs : List Arc3) : List PR := (gwd, [N, (xs.length : Int)]) :: (xs.map (fun a => (awd, arcNs a)) ++ [(ewd, [])])
def prL (N : Int) (xs : List Arc3) : By := txt (prR N xs)
theorem txt_append (a b : List PR) : txt (a ++ b) = txt a ++ txt b := by simp [txt]
theorem txt_cons (p : PR) (b : List PR) : txt (p :: b) = rowL p.1 p.2 ++ txt b := rfl

/-! numerals -/
theorem dig_of (k : Nat) (h : k < 10) : dig (UInt8.ofNat (48 + k)) = true ∧ (UInt8.ofNat (48 + k)).toNat - 48 = k := by
  have : (UInt8.ofNat (48 + k)).toNat = 48 + k := by
    rw [UInt8.toNat_ofNat']
    exact Nat.mod_eq_of_lt (by omega)
  unfold dig
  rw [this]
  constructor
  · simp; omega
  · omega
theorem dec_digs (u : Nat) : ∀ b ∈ decDigits u, dig b = true := by
  induction u using Nat.strongRecOn with
  | _ u ih =>
    intro b hb
    rw [decDigits] at hb
    split at hb
    · rename_i h
      rw [List.mem_singleton] at hb
      rw [hb]
      exact (dig_of u h).1
    · rename_i h
      rw [List.mem_append] at hb
      rcases hb with hb | hb
      · exact ih (u / 10) (by omega) b hb
      · simp only [List.mem_singleton] at hb
        rw [hb]
        exact (dig_of (u % 10) (Nat.mod_lt _ (by decide))).1
theorem dec_ne (u : Nat) : decDigits u ≠ [] := by
  rw [decDigits]
  split
  · simp
  · simp
theorem dec_val (u : Nat) : val (decDigits u) = u := by
  induction u using Nat.strongRecOn with
  | _ u ih =>
    rw [decDigits]
    split
    · rename_i h
      show 0 * 10 + ((UInt8.ofNat (48 + u)).toNat - 48) = u
      rw [(dig_of u h).2]
      omega
    · rename_i h
      have h1 := ih (u / 10) (by omega)
      unfold val valF at h1 ⊢
      rw [List.foldl_append, h1]
      show u / 10 * 10 + ((UInt8.ofNat (48 + u % 10)).toNat - 48) = u
      rw [(dig_of (u % 10) (Nat.mod_lt _ (by decide))).2]
      omega
theorem dec_head (u : Nat) (h : 0 < u) : (decDigits u)[0]? ≠ some 48 := by
  induction u using Nat.strongRecOn with
  | _ u ih =>
    rw [decDigits]
    split
    · rename_i h1
      intro e
      have e2 : UInt8.ofNat (48 + u) = 48 := Option.some.inj e
      have h2 := (dig_of u h1).2
      rw [e2] at h2
      have : (48 : UInt8).toNat - 48 = 0 := by decide
      omega
    · rename_i h1
      have h2 := ih (u / 10) (by omega) (by omega)
      have h3 := List.length_pos_iff.2 (dec_ne (u / 10))
      rw [List.getElem?_append_left h3]
      exact h2
theorem dec_num (u : Nat) : isNum (decDigits u) = true := by
  have h1 : (decDigits u == []) = false := beq_eq_false_iff_ne.2 (dec_ne u)
  have h2 : (decDigits u).all dig = true := List.all_eq_true.2 (dec_digs u)
  have h3 : ((decDigits u)[0]? == some 48 && decide (1 < (decDigits u).length)) = false := by
    rcases Nat.eq_zero_or_pos u with e | e
    · subst e
      rw [decDigits_one (by decide)]
      rfl
    · rw [beq_eq_false_iff_ne.2 (dec_head u e)]
      rfl
  unfold isNum
  rw [h1, h2, h3]
  rfl
theorem itoa_dec {n : Int} (h : 0 ≤ n) : itoa n = decDigits n.toNat := by unfold itoa; rw [if_neg (by omega)]
theorem itoa_num {n : Int} (h : 0 ≤ n) : isNum (itoa n) = true ∧ (val (itoa n) : Int) = n := by
  rw [itoa_dec h]
  exact ⟨dec_num _, by rw [dec_val]; omega⟩
/-- a byte of a word of a printed row. -/
def inW (b : UInt8) : Bool := dig b || (decide (97 ≤ b.toNat) && decide (b.toNat ≤ 122))
theorem inW_facts {b : UInt8} (h : inW b = true) : gap b = false ∧ okB b = true ∧ b ≠ 35 ∧ b ≠ 10 := by
  have h1 : 48 ≤ b.toNat ∧ b.toNat ≤ 122 := by
    unfold inW dig at h
    simp only [Bool.or_eq_true, Bool.and_eq_true, decide_eq_true_eq] at h
    omega
  refine ⟨?_, ?_, ?_, ?_⟩
  · unfold gap
    have e1 : (b == 32) = false := beq_eq_false_iff_ne.2 (by rintro rfl; exact absurd h1.1 (by decide))
    have e2 : (b == 9) = false := beq_eq_false_iff_ne.2 (by rintro rfl; exact absurd h1.1 (by decide))
    have e3 : (b == 13) = false := beq_eq_false_iff_ne.2 (by rintro rfl; exact absurd h1.1 (by decide))
    rw [e1, e2, e3]
    rfl
  · unfold okB
    simp
    omega
  · rintro rfl; exact absurd h1.1 (by decide)
  · rintro rfl; exact absurd h1.1 (by decide)
theorem dec_in (u : Nat) : ∀ b ∈ decDigits u, inW b = true := fun b hb => by unfold inW; rw [dec_digs u b hb]; rfl
/-! a printed line, and its words -/
/-- a row whose words are such bytes. -/
def RowOk (p : PR) : Prop := p.1 ≠ [] ∧ (∀ b ∈ p.1, inW b = true) ∧ (∀ n ∈ p.2, 0 ≤ n ∧ n ≤ 9223372036854775807) ∧ p.1.length + 22 * p.2.length ≤ 200
theorem words_numL : ∀ (ns : List Int) (cur : By), cur ≠ [] → (∀ n ∈ ns, 0 ≤ n) → wordsF cur (numL ns) = cur :: ns.map itoa
  | [], cur, h, _ => by
    show wordsF cur [] = _
    rw [wordsF, if_neg h]
    rfl
  | n :: ns, cur, h, hn => by
    have h0 : 0 ≤ n := hn n (by simp)
    have h1 : itoa n ≠ [] := by rw [itoa_dec h0]; exact dec_ne _
    rw [numL_cons, wordsF, if_pos (by decide), if_neg h, words_skip (itoa n) [] (numL ns) (fun b hb => (inW_facts (dec_in _ b (by rw [itoa_dec h0] at hb; exact hb))).1), List.nil_append, words_numL ns _ h1 fun m hm => hn m (by simp [hm])]
    rfl
theorem row_bytes {p : PR} (h : RowOk p) : ∀ b ∈ p.1 ++ numL p.2, b = 32 ∨ inW b = true := by
  intro b hb
  rw [List.mem_append] at hb
  rcases hb with hb | hb
  · exact Or.inr (h.2.1 b hb)
  · unfold numL at hb
    rw [List.mem_flatMap] at hb
    obtain ⟨n, hn, hb⟩ := hb
    rw [List.mem_cons] at hb
    rcases hb with hb | hb
    · exact Or.inl hb
    · rw [itoa_dec (h.2.2.1 n hn).1] at hb
      exact Or.inr (dec_in _ b hb)
theorem takeW_all {l : By} {q : UInt8 → Bool} (h : ∀ b ∈ l, q b = true) : l.takeWhile q = l := by
  induction l with
  | nil => rfl
  | cons a l ih => rw [List.takeWhile_cons, if_pos (h a (by simp)), ih fun b hb => h b (by simp [hb])]
theorem takeW_stop : ∀ (l r : By) (q : UInt8 → Bool) (c : UInt8), (∀ b ∈ l, q b = true) → q c = false → (l ++ c :: r).takeWhile q = l ∧ (l ++ c :: r).dropWhile q = c :: r
  | [], r, q, c, _, hc => by
    constructor
    · rw [List.nil_append, List.takeWhile_cons, hc]; rfl
    · rw [List.nil_append, List.dropWhile_cons, hc]; rfl
  | a :: l, r, q, c, h, hc => by
    have h1 := takeW_stop l r q c (fun b hb => h b (by simp [hb])) hc
    have h2 := h a (by simp)
    constructor
    · rw [List.cons_append, List.takeWhile_cons, if_pos h2, h1.1]
    · rw [List.cons_append, List.dropWhile_cons, if_pos h2, h1.2]
theorem row_line {p : PR} (h : RowOk p) (r : By) : lineOf (rowL p.1 p.2 ++ r) = p.1 ++ numL p.2 ∧ restOf (rowL p.1 p.2 ++ r) = r := by
  have hb : ∀ b ∈ p.1 ++ numL p.2, (b != 10) = true := fun b hb => by
    rcases row_bytes h b hb with e | e
    · rw [e]; decide
    · exact bne_iff_ne.2 (inW_facts e).2.2.2
  have e : rowL p.1 p.2 ++ r = (p.1 ++ numL p.2) ++ 10 :: r := by unfold rowL; simp
  have h1 := takeW_stop _ r (fun b => b != 10) 10 hb (by decide)
  unfold lineOf restOf
  rw [e, h1.1, h1.2]
  exact ⟨rfl, rfl⟩
theorem row_hash {p : PR} (h : RowOk p) : hashOf (p.1 ++ numL p.2) = p.1 ++ numL p.2 := takeW_all fun b hb => by
  rcases row_bytes h b hb with e | e
  · rw [e]; decide
  · exact bne_iff_ne.2 (inW_facts e).2.2.1
theorem row_right {p : PR} (h : RowOk p) : rightL (p.1 ++ numL p.2) = true := by
  unfold rightL
  rw [row_hash h]
  refine List.all_eq_true.2 fun b hb => ?_
  rcases row_bytes h b hb with e | e
  · rw [e]; decide
  · rw [(inW_facts e).2.1, Bool.or_true]
theorem row_words {p : PR} (h : RowOk p) : wordsOf (p.1 ++ numL p.2) = p.1 :: p.2.map itoa := by
  unfold wordsOf wordsL
  rw [row_hash h, words_skip _ _ _ fun b hb => (inW_facts (h.2.1 b hb)).1, List.nil_append, words_numL _ _ h.1 fun n hn => (h.2.2.1 n hn).1]
theorem numL_size : ∀ (ns : List Int), (∀ n ∈ ns, 0 ≤ n ∧ n ≤ 9223372036854775807) → (numL ns).length ≤ 22 * ns.length
  | [], _ => Nat.zero_le _
  | n :: ns, h => by
    have h0 := h n (by simp)
    have h1 := itoa_length_le n (by omega) h0.2
    have h2 := numL_size ns fun m hm => h m (by simp [hm])
    rw [numL_cons]
    simp only [List.length_cons, List.length_append]
    omega
/-- the rows of what is printed, numbered. -/
def rwN : Nat → List PR → List Row
  | _, [] => []
  | n, p :: r => (n, p.1 :: p.2.map itoa) :: rwN (n + 1) r
theorem rwN_len : ∀ (n : Nat) (L : List PR), (rwN n L).length = L.length
  | _, [] => rfl
  | n, p :: r => by rw [rwN, List.length_cons, rwN_len (n + 1) r, List.length_cons]
theorem rwN_get : ∀ (n : Nat) (L : List PR) (k : Nat), (rwN n L)[k]? = L[k]?.map fun p => (n + k, p.1 :: p.2.map itoa)
  | _, [], k => by simp [rwN]
  | n, p :: r, 0 => by simp [rwN]
  | n, p :: r, k + 1 => by
    rw [rwN, List.getElem?_cons_succ, rwN_get (n + 1) r k, List.getElem?_cons_succ, show n + 1 + k = n + (k + 1) by omega]
theorem rows_txt : ∀ (L : List PR) (n : Nat) (acc : List Row), (∀ p ∈ L, RowOk p) → rowsF (txt L).length n (txt L) acc = ((0, 0), acc ++ rwN n L)
  | [], n, acc, _ => by
    show rowsF 0 n [] acc = _
    rw [rowsF, rwN, List.append_nil]
  | p :: L, n, acc, h => by
    have hp := h p (by simp)
    have hl := row_line hp (txt L)
    have hs := numL_size p.2 hp.2.2.1
    have hn : rowL p.1 p.2 ++ txt L ≠ [] := by
      intro e
      have := congrArg List.length e
      simp [rowL] at this
    rw [txt_cons, rows_step hn (by rw [hl.1, List.length_append]; have := hp.2.2.2; omega) (by rw [hl.1]; exact row_right hp), hl.1, hl.2, row_words hp, if_neg (by simp), rows_txt L (n + 1) _ fun q hq => h q (by simp [hq]), rwN, List.append_assoc]
    rfl
theorem rowsE_txt {L : List PR} (h : ∀ p ∈ L, RowOk p) (hl : (txt L).length ≤ 1048576) : rowsE (txt L) = (0, []) ∧ rowsR (txt L) = rwN 1 L := by
  constructor
  · unfold rowsE
    rw [if_neg (by omega), rows_txt L 1 [] h, if_pos rfl]
  · unfold rowsR
    rw [if_neg (by omega), rows_txt L 1 [] h]
    exact List.nil_append _
/-! the graph that printed rows are -/
theorem numsE_fit : ∀ (ns : List Int) (bd : List (Nat × Int)), (∀ (j : Nat) (n : Int) (b : Nat × Int), ns[j]? = some n → bd[j]? = some b → 0 ≤ n ∧ n < (b.1 : Int)) → numsE (ns.map itoa) bd = 0 := by
  intro ns bd h
  refine numsE_all _ _ fun j u c hu hc => ?_
  rw [List.getElem?_map] at hu
  cases e : ns[j]? with
  | none => rw [e] at hu; cases hu
  | some n =>
    rw [e] at hu
    simp only [Option.map_some, Option.some.injEq] at hu
    have h1 := h j n c e hc
    have h2 := itoa_num h1.1
    unfold bnE
    rw [← hu, if_pos h2.1, if_pos (by omega)]
theorem rowE_fit {word : By} {ns : List Int} {bd : List (Nat × Int)} (hl : ns.length = bd.length) (h : ∀ (j : Nat) (n : Int) (b : Nat × Int), ns[j]? = some n → bd[j]? = some b → 0 ≤ n ∧ n < (b.1 : Int)) : rowE (word :: ns.map itoa) word bd = 0 := by
  unfold rowE
  rw [if_neg (by simp), if_neg (by simp; omega), if_neg (by simp; omega)]
  exact numsE_fit ns bd h
theorem rowE_word {word w2 : By} {r : List By} {bd : List (Nat × Int)} (h : w2 ≠ word) : rowE (w2 :: r) word bd = 3 := by
  unfold rowE
  rw [if_pos (by simpa using h)]
theorem rowE_extra {word : By} {ns : List Int} {bd : List (Nat × Int)} (h : bd.length < ns.length) : rowE (word :: ns.map itoa) word bd = 6 := by
  unfold rowE
  rw [if_neg (by simp), if_neg (by simp; omega), if_pos (by simp; omega)]
theorem rE_is {L : List PR} {n k : Nat} {p : PR} (h : L[k]? = some p) (word : By) (B : List (Nat × Int)) : rE (rwN n L) k word B = rowE (p.1 :: p.2.map itoa) word B := by
  unfold rE
  rw [rwN_get, h]
  rfl
theorem wdK_at {L : List PR} {n k j : Nat} {p : PR} {v : Int} (h : L[k]? = some p) (hj : p.2[j]? = some v) : wdK (rwN n L) k (j + 1) = itoa v := by
  unfold wdK
  simp only [List.getD_eq_getElem?_getD, rwN_get, h]
  simp [hj]
/-- is an arc right in a graph of N nodes? -/
def ArcOk (N : Nat) (a : Arc3) : Prop := 0 ≤ a.1 ∧ a.1 < (N : Int) ∧ 0 ≤ a.2.1 ∧ a.2.1 < (N : Int) ∧ 0 ≤ a.2.2 ∧ a.2.2 ≤ 2147483647
theorem arc_fit {N : Nat} {a : Arc3} (h : ArcOk N a) : ∀ (j : Nat) (n : Int) (b : Nat × Int), (arcNs a)[j]? = some n → (bA N)[j]? = some b → 0 ≤ n ∧ n < (b.1 : Int) := by
  intro j n b hn hb
  obtain ⟨h1, h2, h3, h4, h5, h6⟩ := h
  match j with
  | 0 => simp [arcNs, bA] at hn hb; subst hn hb; exact ⟨h1, h2⟩
  | 1 => simp [arcNs, bA] at hn hb; subst hn hb; exact ⟨h3, h4⟩
  | 2 => simp [arcNs, bA] at hn hb; subst hn hb; exact ⟨h5, by show a.2.2 < ((2147483648 : Nat) : Int); omega⟩
  | j + 3 => simp [arcNs] at hn
theorem arcK_at {L : List PR} {n k : Nat} {N : Nat} {a : Arc3} (h : L[k]? = some (awd, arcNs a)) (ha : ArcOk N a) : arcK (rwN n L) k = a := by
  unfold arcK
  rw [wdK_at (j := 0) (v := a.1) h rfl, wdK_at (j := 1) (v := a.2.1) h rfl, wdK_at (j := 2) (v := a.2.2) h rfl, (itoa_num ha.1).2, (itoa_num ha.2.2.1).2, (itoa_num ha.2.2.2.2.1).2]
theorem gF_arcs {L : List PR} {n N : Nat} : ∀ (ys : List Arc3) (m k : Nat) (acc : List Arc3), (∀ (i : Nat) (a : Arc3), ys[i]? = some a → L[k + i]? = some (awd, arcNs a) ∧ ArcOk N a) → gF (rwN n L) N (ys.length + m) k acc = gF (rwN n L) N m (k + ys.length) (acc ++ ys)
  | [], m, k, acc, _ => by simp
  | a :: ys, m, k, acc, h => by
    have h0 := h 0 a rfl
    rw [Nat.add_zero] at h0
    have e : rE (rwN n L) k awd (bA N) = 0 := by rw [rE_is h0.1]; exact rowE_fit rfl (arc_fit h0.2)
    rw [show (a :: ys).length + m = (ys.length + m) + 1 by simp; omega, gF, if_neg (by rw [e]; decide), arcK_at h0.1 h0.2, gF_arcs ys m (k + 1) _ fun i b hb => by
      have := h (i + 1) b (by simpa using hb)
      rw [show k + 1 + i = k + (i + 1) by omega]
      exact this]
    rw [List.append_assoc, show k + 1 + ys.length = k + (a :: ys).length by simp; omega]
    rfl
theorem gF_end {L : List PR} {n N k : Nat} {acc : List Arc3} (h : L[k]? = some (ewd, [])) (hl : L.length = k + 1) : gF (rwN n L) N 0 k acc = ((0, 0), acc) := by
  have e : rE (rwN n L) k ewd [] = 0 := by rw [rE_is h]; exact rowE_fit rfl (by intro j n b hn; simp at hn)
  rw [gF, if_neg (by rw [e]; decide), if_neg (by rw [rwN_len]; omega)]
/-- a right graph. -/
def GOk (N : Nat) (xs : List Arc3) : Prop := N ≤ 65536 ∧ xs.length ≤ 262144 ∧ ∀ a ∈ xs, ArcOk N a
theorem prR_len (N : Int) (xs : List Arc3) : (prR N xs).length = xs.length + 2 := by simp [prR]
theorem prR_arc {N : Int} {xs : List Arc3} {i : Nat} {a : Arc3} (h : xs[i]? = some a) : (prR N xs)[1 + i]? = some (awd, arcNs a) := by
  have hi := (List.getElem?_eq_some_iff.1 h).1
  unfold prR
  rw [show 1 + i = i + 1 by omega, List.getElem?_cons_succ, List.getElem?_append_left (by simpa using hi), List.getElem?_map, h]
  rfl
theorem prR_end (N : Int) (xs : List Arc3) : (prR N xs)[1 + xs.length]? = some (ewd, []) := by
  unfold prR
  rw [show 1 + xs.length = xs.length + 1 by omega, List.getElem?_cons_succ, List.getElem?_append_right (by simp)]
  simp
theorem prR_ok {N : Nat} {xs : List Arc3} (h : GOk N xs) : ∀ p ∈ prR N xs, RowOk p := by
  intro p hp
  unfold prR at hp
  rw [List.mem_cons, List.mem_append, List.mem_map, List.mem_singleton] at hp
  have hN := h.1
  have hL := h.2.1
  rcases hp with rfl | ⟨a, ha, rfl⟩ | rfl
  · refine ⟨by show gwd ≠ []; decide, by show ∀ b ∈ gwd, inW b = true; decide, ?_, by simp [gwd]⟩
    intro n hn
    simp at hn
    rcases hn with rfl | rfl <;> omega
  · refine ⟨by show awd ≠ []; decide, by show ∀ b ∈ awd, inW b = true; decide, ?_, by simp [awd, arcNs]⟩
    obtain ⟨h1, h2, h3, h4, h5, h6⟩ := h.2.2 a ha
    intro n hn
    simp [arcNs] at hn
    rcases hn with rfl | rfl | rfl <;> omega
  · exact ⟨by show ewd ≠ []; decide, by show ∀ b ∈ ewd, inW b = true; decide, by simp, by simp [ewd]⟩
theorem head_fit {N : Nat} {m : Nat} (hN : N ≤ 65536) (hm : m ≤ 262144) : ∀ (j : Nat) (n : Int) (b : Nat × Int), [(N : Int), (m : Int)][j]? = some n → bG[j]? = some b → 0 ≤ n ∧ n < (b.1 : Int) := by
  intro j n b hn hb
  match j with
  | 0 => simp [bG] at hn hb; subst hn hb; exact ⟨by omega, by show (N : Int) < ((65537 : Nat) : Int); omega⟩
  | 1 => simp [bG] at hn hb; subst hn hb; exact ⟨by omega, by show (m : Int) < ((262145 : Nat) : Int); omega⟩
  | j + 2 => simp at hn
theorem gR_first {L : List PR} {n N m : Nat} (h : L[0]? = some (gwd, [(N : Int), (m : Int)])) (hN : N ≤ 65536) (hm : m ≤ 262144) : gR (rwN n L) = if (gF (rwN n L) N m 1 []).1.1 = 0 then ((0, 0), N, (gF (rwN n L) N m 1 []).2) else ((gF (rwN n L) N m 1 []).1, 0, []) := by
  have e : rE (rwN n L) 0 gwd bG = 0 := by rw [rE_is h]; exact rowE_fit rfl (head_fit hN hm)
  have e1 : val (wdK (rwN n L) 0 1) = N := by
    rw [wdK_at (j := 0) (v := (N : Int)) h rfl]
    have := (itoa_num (n := (N : Int)) (by omega)).2
    omega
  have e2 : val (wdK (rwN n L) 0 2) = m := by
    rw [wdK_at (j := 1) (v := (m : Int)) h rfl]
    have := (itoa_num (n := (m : Int)) (by omega)).2
    omega
  unfold gR
  rw [if_neg (by rw [e]; decide), e1, e2]
theorem gR_pr {N : Nat} {xs : List Arc3} (h : GOk N xs) : gR (rwN 1 (prR N xs)) = ((0, 0), N, xs) := by
  have e : gF (rwN 1 (prR N xs)) N xs.length 1 [] = ((0, 0), xs) := by
    have h1 := gF_arcs (L := prR N xs) (n := 1) (N := N) xs 0 1 [] fun i a ha => ⟨prR_arc ha, h.2.2 a (List.mem_of_getElem? ha)⟩
    rw [Nat.add_zero, List.nil_append] at h1
    rw [h1]
    exact gF_end (prR_end N xs) (by rw [prR_len]; omega)
  rw [gR_first (L := prR N xs) rfl h.1 h.2.1, e]
  rfl
theorem ps_pr {N : Nat} {xs : List Arc3} (h : GOk N xs) (hl : (prL N xs).length ≤ 1048576) : psE (prL N xs) = (0, []) ∧ psG (prL N xs) = (N, xs) := by
  have h1 := rowsE_txt (prR_ok h) hl
  unfold psE psG prL
  rw [if_pos h1.1, if_pos h1.1, h1.2, gR_pr h]
  exact ⟨rfl, rfl⟩
theorem numL_any : ∀ (ns : List Int), (∀ n ∈ ns, -9223372036854775808 ≤ n ∧ n ≤ 9223372036854775807) → (numL ns).length ≤ 22 * ns.length
  | [], _ => Nat.zero_le _
  | n :: ns, h => by
    have h0 := h n (by simp)
    have h1 := itoa_length_le n h0.1 h0.2
    have h2 := numL_any ns fun m hm => h m (by simp [hm])
    rw [numL_cons]
    simp only [List.length_cons, List.length_append]
    omega
end Go.Proofs.YthgmhhlgjooeaaaGreatDoor.Gt
