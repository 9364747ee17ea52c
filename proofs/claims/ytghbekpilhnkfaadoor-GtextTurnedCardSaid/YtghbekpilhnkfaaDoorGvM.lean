/- a printed graph with a row left out, doubled, or with a word more: plain mathematics. -/
import Derived.Test.YtghbekpilhnkfaaDoorGuM
namespace Go.Proofs.YtghbekpilhnkfaaDoor.Gt
open Go Go.Lib

/-- the lines of a text that end, the first one having begun with cur. -/
def lnsA : By → By → List By
  | _, [] => []
  | cur, b :: r => if b = 10 then cur :: lnsA [] r else lnsA (cur ++ [b]) r
theorem lnsA_line : ∀ (l cur r : By), (∀ b ∈ l, b ≠ 10) → lnsA cur (l ++ 10 :: r) = (cur ++ l) :: lnsA [] r
  | [], cur, r, _ => by rw [List.nil_append, lnsA, if_pos rfl, List.append_nil]
  | a :: l, cur, r, h => by
    rw [List.cons_append, lnsA, if_neg (h a (by simp)), lnsA_line l (cur ++ [a]) r fun b hb => h b (by simp [hb]), List.append_assoc]
    rfl
def lineT (p : PR) : By := p.1 ++ numL p.2
theorem rowL_eq (p : PR) : rowL p.1 p.2 = lineT p ++ [10] := rfl
theorem lnsA_txt : ∀ (L : List PR), (∀ p ∈ L, RowOk p) → lnsA [] (txt L) = L.map lineT
  | [], _ => rfl
  | p :: L, h => by
    have hp := h p (by simp)
    have e : txt (p :: L) = lineT p ++ 10 :: txt L := by rw [txt_cons, rowL_eq]; simp
    rw [e, lnsA_line _ _ _ fun b hb => (by
      rcases row_bytes hp b hb with e | e
      · rw [e]; decide
      · exact (inW_facts e).2.2.2), lnsA_txt L fun q hq => h q (by simp [hq])]
    rfl
/-- what the law makes of the rows from the i-th on. -/
def outF (k : Int) : Nat → List PR → By
  | _, [] => []
  | i, p :: r => (if (i : Int) ≠ k then lineT p ++ [10] else []) ++ outF k (i + 1) r
def twF (k : Int) : Nat → List PR → By
  | _, [] => []
  | i, p :: r => (lineT p ++ [10] ++ (if (i : Int) = k then lineT p ++ [10] else [])) ++ twF k (i + 1) r
def moF (k : Int) : Nat → List PR → By
  | _, [] => []
  | i, p :: r => (lineT p ++ (if (i : Int) = k then [32, 48] else []) ++ [10]) ++ moF k (i + 1) r
theorem off_txt (k : Int) : ∀ (L : List PR) (i : Nat), (∀ j, j < L.length → ((i + j : Nat) : Int) ≠ k) → outF k i L = txt L ∧ twF k i L = txt L ∧ moF k i L = txt L
  | [], _, _ => ⟨rfl, rfl, rfl⟩
  | p :: L, i, h => by
    have h0 : (i : Int) ≠ k := h 0 (by simp)
    obtain ⟨e1, e2, e3⟩ := off_txt k L (i + 1) fun j hj => by
      have := h (j + 1) (by simpa using hj)
      rw [show i + 1 + j = i + (j + 1) by omega]
      exact this
    rw [outF, twF, moF, e1, e2, e3, if_pos h0, if_neg h0, if_neg h0, txt_cons, rowL_eq]
    simp
theorem at_txt (k : Nat) : ∀ (L1 : List PR) (p : PR) (L2 : List PR) (i : Nat), i + L1.length = k → outF k i (L1 ++ p :: L2) = txt (L1 ++ L2) ∧ twF k i (L1 ++ p :: L2) = txt (L1 ++ p :: p :: L2) ∧ moF k i (L1 ++ p :: L2) = txt (L1 ++ (p.1, p.2 ++ [0]) :: L2)
  | [], p, L2, i, h => by
    have hi : (i : Int) = (k : Int) := by simp at h; omega
    obtain ⟨e1, e2, e3⟩ := off_txt k L2 (i + 1) fun j hj => by omega
    have z0 : itoa 0 = [48] := by rw [itoa_dec (by decide)]; exact decDigits_one (by decide)
    simp only [List.nil_append]
    rw [outF, twF, moF, e1, e2, e3, if_neg (by omega), if_pos hi, if_pos hi, txt_cons, txt_cons, txt_cons, rowL_eq, rowL_eq]
    refine ⟨rfl, by simp, ?_⟩
    simp [lineT, numL, z0]
  | q :: L1, p, L2, i, h => by
    have hi : (i : Int) ≠ (k : Int) := by simp at h; omega
    obtain ⟨e1, e2, e3⟩ := at_txt k L1 p L2 (i + 1) (by simp at h; omega)
    simp only [List.cons_append]
    rw [outF, twF, moF, e1, e2, e3, if_pos hi, if_neg hi, if_neg hi, txt_cons, txt_cons, txt_cons, rowL_eq]
    simp
theorem txt_size : ∀ (L : List PR), (∀ p ∈ L, RowOk p) → (txt L).length ≤ 201 * L.length
  | [], _ => Nat.zero_le _
  | p :: L, h => by
    have hp := h p (by simp)
    have h1 := numL_size p.2 hp.2.2.1
    have h2 := txt_size L fun q hq => h q (by simp [hq])
    have h3 := hp.2.2.2
    rw [txt_cons, List.length_append]
    unfold rowL
    simp only [List.length_append, List.length_cons, List.length_nil]
    omega
theorem lnE_rw {n : Nat} {L : List PR} {k : Nat} (h : k < L.length) : lnE (rwN n L) k = n + k := by
  have hp : L[k]? = some L[k] := List.getElem?_eq_getElem h
  unfold lnE
  rw [if_pos (by rw [rwN_len]; exact h), lnK, List.getD_eq_getElem?_getD, rwN_get, hp]
  rfl
/-- rows whose arcs stop being arcs. -/
theorem gR_stop {L : List PR} {N m : Nat} (ys : List Arc3) (c : Int) (hc : c ≠ 0) (h0 : L[0]? = some (gwd, [(N : Int), (m : Int)])) (hN : N ≤ 65536) (hm : m ≤ 262144) (hy : ∀ (i : Nat) (a : Arc3), ys[i]? = some a → L[1 + i]? = some (awd, arcNs a) ∧ ArcOk N a) (hl : 1 + ys.length < L.length)
    (hs : (ys.length < m ∧ rE (rwN 1 L) (1 + ys.length) awd (bA N) = c) ∨ (ys.length = m ∧ rE (rwN 1 L) (1 + ys.length) ewd [] = c)) : gR (rwN 1 L) = ((c, 1 + (1 + ys.length)), 0, []) := by
  have key : gF (rwN 1 L) N m 1 [] = ((c, 1 + (1 + ys.length)), []) := by
    rcases hs with ⟨h1, h2⟩ | ⟨h1, h2⟩
    · obtain ⟨d, rfl⟩ : ∃ d, m = ys.length + (d + 1) := ⟨m - ys.length - 1, by omega⟩
      rw [gF_arcs ys (d + 1) 1 [] hy, gF, h2, if_pos hc, lnE_rw hl]
    · have e := gF_arcs (L := L) (n := 1) (N := N) ys 0 1 [] hy
      rw [Nat.add_zero, h1] at e
      rw [e, gF]
      rw [← h1, h2, if_pos hc, lnE_rw hl]
  rw [gR_first h0 hN hm, key, if_neg hc]
theorem ps_stop {L : List PR} {c : Int} {l : Nat} (hok : ∀ p ∈ L, RowOk p) (hl : L.length ≤ 204) (hc : c ≠ 0) (h : gR (rwN 1 L) = ((c, l), 0, [])) : psE (txt L) = (c, [(1, (l : Int))]) := by
  have h1 := txt_size L hok
  have h2 := rowsE_txt hok (by omega)
  unfold psE
  rw [if_pos h2.1, h2.2, h, if_neg hc]
/-- the law's three texts. -/
theorem turned_ps {N : Nat} {xs : List Arc3} {k : Nat} (hg : GOk N xs) (h1 : 1 ≤ k) (h2 : k ≤ xs.length) (h3 : xs.length ≤ 200) :
    psE (outF k 0 (prR N xs)) = (3, [(1, ((xs.length + 1 : Nat) : Int))]) ∧ psE (twF k 0 (prR N xs)) = (3, [(1, ((xs.length + 1 + 1 : Nat) : Int))]) ∧ psE (moF k 0 (prR N xs)) = (6, [(1, ((k + 1 : Nat) : Int))]) ∧ (outF k 0 (prR N xs)).length ≤ 50000 ∧ (twF k 0 (prR N xs)).length ≤ 50000 ∧ (moF k 0 (prR N xs)).length ≤ 50000 := by
  obtain ⟨j, rfl⟩ : ∃ j, k = j + 1 := ⟨k - 1, by omega⟩
  have hj : xs[j]? = some (xs[j]'(by omega)) := List.getElem?_eq_getElem (by omega)
  obtain ⟨a, ha⟩ : ∃ a, xs[j]? = some a := ⟨_, hj⟩
  have hsplit : xs = xs.take j ++ a :: xs.drop (j + 1) := by
    have := List.getElem?_eq_some_iff.1 ha
    obtain ⟨hl, he⟩ := this
    rw [← he, ← List.drop_eq_getElem_cons hl, List.take_append_drop]
  have hok := prR_ok hg
  have haok : ArcOk N a := hg.2.2 a (List.mem_of_getElem? ha)
  obtain ⟨A, hA⟩ : ∃ A, xs.take j = A := ⟨_, rfl⟩
  obtain ⟨B, hB⟩ : ∃ B, xs.drop (j + 1) = B := ⟨_, rfl⟩
  rw [hA, hB] at hsplit
  have hAl : A.length = j := by rw [← hA, List.length_take]; omega
  have hxl : xs.length = j + 1 + B.length := by rw [hsplit, List.length_append, List.length_cons, hAl]; omega
  have hAok : ∀ b ∈ A, ArcOk N b := fun b hb => hg.2.2 b (by rw [hsplit]; simp [hb])
  have hBok : ∀ b ∈ B, ArcOk N b := fun b hb => hg.2.2 b (by rw [hsplit]; simp [hb])
  let R : Arc3 → PR := fun b => (awd, arcNs b)
  let hd : PR := (gwd, [(N : Int), (xs.length : Int)])
  have hL : prR N xs = (hd :: A.map R) ++ R a :: (B.map R ++ [(ewd, [])]) := by
    show (gwd, [(N : Int), (xs.length : Int)]) :: (xs.map R ++ [(ewd, [])]) = _
    have : xs.map R = A.map R ++ R a :: B.map R := by
      conv => lhs; rw [hsplit]
      rw [List.map_append, List.map_cons]
    rw [this]
    simp [hd]
  obtain ⟨e1, e2, e3⟩ := at_txt (j + 1) (hd :: A.map R) (R a) (B.map R ++ [(ewd, [])]) 0 (by simp [hAl])
  rw [hL] at hok
  have okh : ∀ p ∈ hd :: A.map R, RowOk p := fun p hp => hok p (List.mem_append_left _ hp)
  have oka : RowOk (R a) := hok _ (by simp)
  have okb : ∀ p ∈ B.map R ++ [((ewd, []) : PR)], RowOk p := fun p hp => hok p (List.mem_append_right _ (List.mem_cons_of_mem _ hp))
  have ok1 : ∀ p ∈ (hd :: A.map R) ++ (B.map R ++ [(ewd, [])]), RowOk p := fun p hp => by
    rcases List.mem_append.1 hp with hp | hp
    · exact okh p hp
    · exact okb p hp
  have ok2 : ∀ p ∈ (hd :: A.map R) ++ R a :: R a :: (B.map R ++ [(ewd, [])]), RowOk p := fun p hp => by
    rcases List.mem_append.1 hp with hp | hp
    · exact okh p hp
    · rcases List.mem_cons.1 hp with rfl | hp
      · exact oka
      · rcases List.mem_cons.1 hp with rfl | hp
        · exact oka
        · exact okb p hp
  have okm : RowOk ((R a).1, (R a).2 ++ [0]) := by
    refine ⟨oka.1, oka.2.1, fun n hn => ?_, by show awd.length + 22 * (arcNs a ++ [0]).length ≤ 200; simp [awd, arcNs]⟩
    rcases List.mem_append.1 hn with hn | hn
    · exact oka.2.2.1 n hn
    · simp at hn; subst hn; exact ⟨Int.le_refl _, by decide⟩
  have ok3 : ∀ p ∈ (hd :: A.map R) ++ ((R a).1, (R a).2 ++ [0]) :: (B.map R ++ [(ewd, [])]), RowOk p := fun p hp => by
    rcases List.mem_append.1 hp with hp | hp
    · exact okh p hp
    · rcases List.mem_cons.1 hp with rfl | hp
      · exact okm
      · exact okb p hp
  have s1 := txt_size _ ok1
  have s2 := txt_size _ ok2
  have s3 := txt_size _ ok3
  rw [hL]
  have hcast : (((j + 1 : Nat) : Int)) = ((j + 1 : Nat) : Int) := rfl
  rw [e1, e2, e3]
  refine ⟨?_, ?_, ?_, ?_, ?_, ?_⟩
  · have hk := gR_stop (L := (hd :: A.map R) ++ (B.map R ++ [(ewd, [])])) (N := N) (m := xs.length) (A ++ B) 3 (by decide) rfl hg.1 hg.2.1 (fun i b hb => ⟨by
      rw [show 1 + i = i + 1 by omega, List.cons_append, List.getElem?_cons_succ, ← List.append_assoc, ← List.map_append, List.getElem?_append_left (by rw [List.length_map]; exact (List.getElem?_eq_some_iff.1 hb).1), List.getElem?_map, hb]
      rfl, by
      rcases List.mem_append.1 (List.mem_of_getElem? hb) with h | h
      · exact hAok b h
      · exact hBok b h⟩) (by simp; omega) (Or.inl ⟨by simp; omega, by
        rw [rE_is (p := (ewd, [])) (by
          rw [show 1 + (A ++ B).length = (A ++ B).length + 1 by omega, List.cons_append, List.getElem?_cons_succ, ← List.append_assoc, ← List.map_append, List.getElem?_append_right (by simp)]
          simp)]
        exact rowE_word (by decide)⟩)
    have e9 : 1 + (1 + (A ++ B).length) = xs.length + 1 := by rw [List.length_append]; omega
    rw [e9] at hk
    exact ps_stop ok1 (by simp; omega) (by decide) hk
  · obtain ⟨Y, hY⟩ : ∃ Y, A ++ a :: a :: B = Y := ⟨_, rfl⟩
    have hYl : Y.length = xs.length + 1 := by rw [← hY, List.length_append, List.length_cons, List.length_cons]; omega
    have hYok : ∀ b ∈ Y, ArcOk N b := fun b hb => by
      rw [← hY] at hb
      rcases List.mem_append.1 hb with hb | hb
      · exact hAok b hb
      · rcases List.mem_cons.1 hb with rfl | hb
        · exact haok
        · rcases List.mem_cons.1 hb with rfl | hb
          · exact haok
          · exact hBok b hb
    have q : (hd :: A.map R) ++ R a :: R a :: (B.map R ++ [(ewd, [])]) = hd :: (Y.map R ++ [(ewd, [])]) := by
      rw [← hY]
      simp
    have at_ : ∀ (i : Nat) (b : Arc3), Y[i]? = some b → ((hd :: (Y.map R ++ [((ewd, []) : PR)]) : List PR))[1 + i]? = some (R b) := fun i b hb => by
      have hil := (List.getElem?_eq_some_iff.1 hb).1
      rw [show 1 + i = i + 1 by omega, List.getElem?_cons_succ, List.getElem?_append_left (by rw [List.length_map]; exact hil), List.getElem?_map, hb]
      rfl
    obtain ⟨b9, hb9⟩ : ∃ b, Y[xs.length]? = some b := ⟨_, List.getElem?_eq_getElem (by omega)⟩
    rw [q] at ok2 ⊢
    have hk := gR_stop (L := hd :: (Y.map R ++ [(ewd, [])])) (N := N) (m := xs.length) (Y.take xs.length) 3 (by decide) rfl hg.1 hg.2.1 (fun i b hb => by
      have hil := (List.getElem?_eq_some_iff.1 hb).1
      rw [List.length_take] at hil
      rw [List.getElem?_take_of_lt (by omega)] at hb
      exact ⟨at_ i b hb, hYok b (List.mem_of_getElem? hb)⟩) (by simp; omega) (Or.inr ⟨by rw [List.length_take]; omega, by
        rw [List.length_take, Nat.min_eq_left (by omega), rE_is (at_ _ _ hb9)]
        exact rowE_word (by show awd ≠ ewd; decide)⟩)
    have e9 : 1 + (1 + (Y.take xs.length).length) = xs.length + 1 + 1 := by rw [List.length_take]; omega
    rw [e9] at hk
    exact ps_stop ok2 (by simp; omega) (by decide) hk
  · have hk := gR_stop (L := (hd :: A.map R) ++ ((R a).1, (R a).2 ++ [0]) :: (B.map R ++ [(ewd, [])])) (N := N) (m := xs.length) A 6 (by decide) rfl hg.1 hg.2.1 (fun i b hb => ⟨by
      have hil := (List.getElem?_eq_some_iff.1 hb).1
      rw [show 1 + i = i + 1 by omega, List.cons_append, List.getElem?_cons_succ, List.getElem?_append_left (by rw [List.length_map]; exact hil), List.getElem?_map, hb]
      rfl, hAok b (List.mem_of_getElem? hb)⟩) (by simp; omega) (Or.inl ⟨by omega, by
        rw [rE_is (p := ((R a).1, (R a).2 ++ [0])) (by
          rw [show 1 + A.length = A.length + 1 by omega, List.cons_append, List.getElem?_cons_succ, List.getElem?_append_right (by simp)]
          simp)]
        exact rowE_extra (by simp [bA, R, arcNs])⟩)
    have e9 : 1 + (1 + A.length) = j + 1 + 1 := by omega
    rw [e9] at hk
    exact ps_stop ok3 (by simp; omega) (by decide) hk
  · simp at s1; simp at *; omega
  · simp at s2; simp at *; omega
  · simp at s3; simp at *; omega
end Go.Proofs.YtghbekpilhnkfaaDoor.Gt
