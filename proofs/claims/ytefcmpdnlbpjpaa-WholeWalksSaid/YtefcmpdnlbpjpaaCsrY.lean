/- Whatever the arrays: what Check must tell of them; and the list of arcs that right ones are. Plain mathematics. csr.Check, whatever the arrays. -/
import Derived.Test.YtefcmpdnlbpjpaaCsrQ
namespace Go.Proofs.Ytefcmpdnlbpjpaa
open Go.RowKit

theorem first_ex (p : Nat → Prop) (n : Nat) : (∃ k, k < n ∧ p k ∧ ∀ j, j < k → ¬ p j) ∨ ∀ k, k < n → ¬ p k := by
  induction n with
  | zero => exact Or.inr fun k hk => by omega
  | succ n ih =>
    rcases ih with ⟨k, h1, h2, h3⟩ | h
    · exact Or.inl ⟨k, by omega, h2, h3⟩
    · by_cases hn : p n
      · exact Or.inl ⟨n, by omega, hn, h⟩
      · refine Or.inr fun k hk => ?_
        rcases Nat.lt_or_ge k n with h' | h'
        · exact h k h'
        · obtain rfl : k = n := by omega
          exact hn
/-- the arrays' lengths fit. -/
structure Lens (F T W : List Int) (n m : Nat) : Prop where
  f : F.length = n + 1
  t : T.length = m
  w : W.length = m
  zero : F[0]? = some 0
  top : F[n]? = some (m : Int)
/-- the firsts fall at k0, and not ahead of it. -/
def FallsAt (F : List Int) (n k0 : Nat) : Prop := ∃ x y, k0 < n ∧ F[k0]? = some x ∧ F[k0 + 1]? = some y ∧ y < x ∧ ∀ (u : Nat) (a b : Int), u < k0 → F[u]? = some a → F[u + 1]? = some b → a ≤ b
/-- the arc at i0 is the first that is wrong. -/
def BadAt (n : Nat) (fa : Nat → Nat) (T W : List Int) (v0 i0 : Nat) : Prop := v0 < n ∧ fa v0 ≤ i0 ∧ i0 < fa (v0 + 1) ∧ (∀ v i, v < n → fa v ≤ i → i < fa (v + 1) → i < i0 → arcAt n fa T W v i = 0) ∧ arcAt n fa T W v0 i0 ≠ 0
def AllOk (n : Nat) (fa : Nat → Nat) (T W : List Int) : Prop := ∀ v i, v < n → fa v ≤ i → i < fa (v + 1) → arcAt n fa T W v i = 0
/-- what Check tells of arrays. -/
def ChkIs (F T W : List Int) (E : Int × List (Int × Int)) : Prop :=
  (F = [] ∧ E = (14, [])) ∨ (∃ n, F.length = n + 1 ∧ (F[0]? ≠ some 0 ∨ F[n]? ≠ some (T.length : Int) ∨ T.length ≠ W.length) ∧ E = (14, []))
  ∨ (∃ n m, Lens F T W n m ∧ (65536 < n ∨ 262144 < m) ∧ E = (9, []))
  ∨ (∃ n m, Lens F T W n m ∧ n ≤ 65536 ∧ m ≤ 262144 ∧ ((∃ k0, FallsAt F n k0 ∧ E = (14, [(3, (k0 : Int))]))
    ∨ (∃ fa, Ups n m F fa ∧ ((∃ v0 i0, BadAt n fa T W v0 i0 ∧ E = (arcAt n fa T W v0 i0, [(4, (i0 : Int))])) ∨ (AllOk n fa T W ∧ E = (0, []))))))
theorem ups_of {F T W : List Int} {n m : Nat} (h : Lens F T W n m) (hno : ∀ k, k < n → ¬ FallsAt F n k) : ∃ fa, Ups n m F fa := by
  have hat : ∀ v, v ≤ n → ∃ x, F[v]? = some x := fun v hv => ⟨F[v]'(by rw [h.f]; omega), List.getElem?_eq_getElem _⟩
  have hup : ∀ k, k < n → ∀ a b : Int, F[k]? = some a → F[k + 1]? = some b → a ≤ b := by
    intro k
    induction k using Nat.strongRecOn with
    | ind k ih =>
      intro hk a b ha hb
      rcases Int.lt_or_le b a with hlt | hle
      · exact absurd ⟨a, b, hk, ha, hb, hlt, fun u x y hu hx hy => ih u hu (by omega) x y hx hy⟩ (hno k hk)
      · exact hle
  have hpos : ∀ v, v ≤ n → ∃ x : Nat, F[v]? = some (x : Int) := by
    intro v
    induction v with
    | zero => exact fun _ => ⟨0, h.zero⟩
    | succ v ih =>
      intro hv
      obtain ⟨x, hx⟩ := ih (by omega)
      obtain ⟨y, hy⟩ := hat (v + 1) hv
      have := hup v (by omega) x y hx hy
      exact ⟨y.toNat, by rw [hy]; congr 1; omega⟩
  have hfa : ∀ v, v ≤ n → F[v]? = some (((F.getD v 0).toNat : Nat) : Int) := by
    intro v hv
    obtain ⟨x, hx⟩ := hpos v hv
    rw [List.getD_eq_getElem?_getD, hx]
    rfl
  refine ⟨fun v => (F.getD v 0).toNat, hfa, fun v hv => ?_, ?_, ?_⟩
  · have := hup v hv _ _ (hfa v (by omega)) (hfa (v + 1) (by omega))
    omega
  · have h0 := hfa 0 (Nat.zero_le _)
    rw [h.zero] at h0
    have := Option.some.inj h0
    show (F.getD 0 0).toNat = 0
    omega
  · have h0 := hfa n (Nat.le_refl _)
    rw [h.top] at h0
    have := Option.some.inj h0
    show (F.getD n 0).toNat = m
    omega
theorem Ups.row {n m : Nat} {F : List Int} {fa : Nat → Nat} (h : Ups n m F fa) {i : Nat} (hi : i < m) : ∃ v, v < n ∧ fa v ≤ i ∧ i < fa (v + 1) := by
  rcases first_ex (fun v => i < fa (v + 1)) n with ⟨v, hv, h1, h2⟩ | hno
  · refine ⟨v, hv, ?_, h1⟩
    cases v with
    | zero => rw [h.zero]; exact Nat.zero_le _
    | succ v => have := h2 v (by omega); omega
  · cases n with
    | zero => have h1 := h.zero; have h2 := h.top; omega
    | succ n => have h1 := hno n (by omega); have h2 := h.top; omega
theorem chk_total (F T W : List Int) : ∃ E, ChkIs F T W E := by
  rcases Nat.eq_zero_or_pos F.length with h0 | h0
  · exact ⟨_, Or.inl ⟨List.eq_nil_of_length_eq_zero h0, rfl⟩⟩
  obtain ⟨n, hn⟩ : ∃ n, F.length = n + 1 := ⟨F.length - 1, by omega⟩
  by_cases hb : F[0]? ≠ some 0 ∨ F[n]? ≠ some (T.length : Int) ∨ T.length ≠ W.length
  · exact ⟨_, Or.inr (Or.inl ⟨n, hn, hb, rfl⟩)⟩
  have hz : F[0]? = some 0 := Classical.byContradiction fun h => hb (Or.inl h)
  have ht : F[n]? = some (T.length : Int) := Classical.byContradiction fun h => hb (Or.inr (Or.inl h))
  have hw : T.length = W.length := Classical.byContradiction fun h => hb (Or.inr (Or.inr h))
  have hL : Lens F T W n T.length := ⟨hn, rfl, hw.symm, hz, ht⟩
  by_cases hl : 65536 < n ∨ 262144 < T.length
  · exact ⟨_, Or.inr (Or.inr (Or.inl ⟨n, _, hL, hl, rfl⟩))⟩
  suffices h : ∃ E, ((∃ k0, FallsAt F n k0 ∧ E = (14, [(3, (k0 : Int))])) ∨ (∃ fa, Ups n T.length F fa ∧ ((∃ v0 i0, BadAt n fa T W v0 i0 ∧ E = (arcAt n fa T W v0 i0, [(4, (i0 : Int))])) ∨ (AllOk n fa T W ∧ E = ((0 : Int), ([] : List (Int × Int))))))) by
    obtain ⟨E, hE⟩ := h
    exact ⟨E, Or.inr (Or.inr (Or.inr ⟨n, _, hL, by omega, by omega, hE⟩))⟩
  rcases first_ex (fun k => FallsAt F n k) n with ⟨k, _, h1, _⟩ | hno
  · exact ⟨_, Or.inl ⟨k, h1, rfl⟩⟩
  obtain ⟨fa, hu⟩ := ups_of hL hno
  rcases first_ex (fun i => ∃ v, v < n ∧ fa v ≤ i ∧ i < fa (v + 1) ∧ arcAt n fa T W v i ≠ 0) T.length with ⟨i0, _, ⟨v0, h1, h2, h3, h4⟩, h5⟩ | hok
  · refine ⟨_, Or.inr ⟨fa, hu, Or.inl ⟨v0, i0, ⟨h1, h2, h3, fun v i hv g1 g2 g3 => ?_, h4⟩, rfl⟩⟩⟩
    exact Classical.byContradiction fun hne => h5 i g3 ⟨v, hv, g1, g2, hne⟩
  · refine ⟨_, Or.inr ⟨fa, hu, Or.inr ⟨fun v i hv g1 g2 => ?_, rfl⟩⟩⟩
    exact Classical.byContradiction fun hne => hok i (Nat.lt_of_lt_of_le g2 (hu.le (by omega))) ⟨v, hv, g1, g2, hne⟩
theorem count_range (k m : Nat) : (List.range m).countP (fun i => decide (i < k)) = min k m := by
  induction m with
  | zero => simp
  | succ m ih =>
    rw [List.range_succ, List.countP_append, ih]
    by_cases h : m < k
    · simp [h]; omega
    · simp [h]; omega
/-- right arrays are the arrays of a normal list. -/
theorem fine_of {n m : Nat} {F T W : List Int} {fa : Nat → Nat} (hL : Lens F T W n m) (hu : Ups n m F fa) (hok : AllOk n fa T W) (hN : n ≤ 65536) (hM : m ≤ 262144) : ∃ zs, Fine n zs ∧ firsts n zs = F ∧ tos zs = T ∧ weights zs = W ∧ zs.length = m := by
  have hrow : ∀ i, ∃ v, i < m → v < n ∧ fa v ≤ i ∧ i < fa (v + 1) := fun i => by
    by_cases hi : i < m
    · obtain ⟨v, h⟩ := hu.row hi
      exact ⟨v, fun _ => h⟩
    · exact ⟨0, fun h => absurd h hi⟩
  obtain ⟨rw', hrw⟩ := Classical.axiomOfChoice hrow
  have hlt : ∀ i v, i < m → v ≤ n → (rw' i < v ↔ i < fa v) := fun i v hi hv => by
    obtain ⟨h1, h2, h3⟩ := hrw i hi
    constructor
    · intro h
      exact Nat.lt_of_lt_of_le h3 (hu.mono (show rw' i + 1 ≤ v by omega) hv)
    · intro h
      rcases Nat.lt_or_ge (rw' i) v with g | g
      · exact g
      · have := hu.mono g (by omega)
        omega
  obtain ⟨zs, hzs⟩ : ∃ zs, (List.range m).map (fun i => ((rw' i : Int), T.getD i 0, W.getD i 0)) = zs := ⟨_, rfl⟩
  have hlen : zs.length = m := by rw [← hzs]; simp
  have hget : ∀ i, i < m → zs[i]? = some ((rw' i : Int), T.getD i 0, W.getD i 0) := fun i hi => by rw [← hzs]; simp [hi]
  have hmem : ∀ a, a ∈ zs → ∃ i, i < m ∧ a = ((rw' i : Int), T.getD i 0, W.getD i 0) := fun a ha => by
    rw [← hzs] at ha
    simp only [List.mem_map, List.mem_range] at ha
    obtain ⟨i, hi, rfl⟩ := ha
    exact ⟨i, hi, rfl⟩
  have hfirst : ∀ v, v ≤ n → firstAt zs v = fa v := fun v hv => by
    unfold firstAt
    rw [← hzs, List.countP_map]
    have h1 : (List.range m).countP ((fun a : Int × Int × Int => decide (a.1 < (v : Int))) ∘ fun i => ((rw' i : Int), T.getD i 0, W.getD i 0)) = (List.range m).countP (fun i => decide (i < fa v)) := by
      refine List.countP_congr fun i hi => ?_
      have h2 := hlt i v (List.mem_range.1 hi) hv
      simp only [Function.comp, decide_eq_true_eq]
      omega
    rw [h1, count_range]
    have := hu.le hv
    omega
  have hok' : ∀ i, i < m → arcAt n fa T W (rw' i) i = 0 := fun i hi => by
    obtain ⟨h1, h2, h3⟩ := hrw i hi
    exact hok _ i h1 h2 h3
  have hfacts : ∀ i, i < m → (0 ≤ T.getD i 0 ∧ T.getD i 0 < (n : Int)) ∧ T.getD i 0 ≠ (rw' i : Int) ∧ ((i : Int) = (fa (rw' i) : Int) ∨ ¬ T.getD i 0 ≤ T.getD (i - 1) 0) ∧ 0 ≤ W.getD i 0 ∧ W.getD i 0 ≤ 2147483647 := fun i hi => by
    have h := hok' i hi
    unfold arcAt arcNo at h
    split at h
    · omega
    · rename_i h1
      split at h
      · omega
      · rename_i h2
        split at h
        · omega
        · rename_i h3
          refine ⟨Classical.byContradiction h1, fun e => h2 (Or.inl e), ?_, by omega, by omega⟩
          by_cases hi2 : (i : Int) = (fa (rw' i) : Int)
          · exact Or.inl hi2
          · exact Or.inr fun hle => h2 (Or.inr ⟨hi2, hle⟩)
  have hrise : ∀ d i, i + d + 1 < m → rw' i = rw' (i + d + 1) → T.getD i 0 < T.getD (i + d + 1) 0 := by
    intro d
    induction d with
    | zero =>
      intro i hi he
      obtain ⟨h1, h2, h3⟩ := hrw i (by omega)
      obtain ⟨_, _, h4, _⟩ := hfacts (i + 0 + 1) hi
      rw [← he, show i + 0 + 1 - 1 = i by omega] at h4
      omega
    | succ d ih =>
      intro i hi he
      obtain ⟨h1, h2, h3⟩ := hrw i (by omega)
      obtain ⟨g1, g2, g3⟩ := hrw (i + (d + 1) + 1) hi
      obtain ⟨k1, k2, k3⟩ := hrw (i + d + 1) (by omega)
      have e1 : rw' i ≤ rw' (i + d + 1) := by
        have := (hlt i (rw' (i + d + 1) + 1) (by omega) (by omega)).2 (by omega)
        omega
      have e2 : rw' (i + d + 1) ≤ rw' (i + (d + 1) + 1) := by
        have := (hlt (i + d + 1) (rw' (i + (d + 1) + 1) + 1) (by omega) (by omega)).2 (by omega)
        omega
      have h5 := ih i (by omega) (by omega)
      obtain ⟨_, _, h4, _⟩ := hfacts (i + (d + 1) + 1) hi
      rw [show i + (d + 1) + 1 - 1 = i + d + 1 by omega, ← he] at h4
      omega
  refine ⟨zs, ⟨?_, fun a ha => ?_, hN, by omega⟩, ?_, ?_, ?_, hlen⟩
  · unfold RiseA
    rw [List.pairwise_iff_getElem]
    intro i j hi hj hij
    have e1 := List.getElem_eq_iff (h := hi) |>.2 (hget i (by omega))
    have e2 := List.getElem_eq_iff (h := hj) |>.2 (hget j (by omega))
    rw [e1, e2]
    unfold lessA
    show ((rw' i : Int) < (rw' j : Int) ∨ ((rw' i : Int) = (rw' j : Int) ∧ T.getD i 0 < T.getD j 0))
    obtain ⟨h1, h2, h3⟩ := hrw j (by omega)
    have e3 : rw' i ≤ rw' j := by
      have := (hlt i (rw' j + 1) (by omega) (by omega)).2 (by omega)
      omega
    by_cases he : rw' i = rw' j
    · have h5 := hrise (j - i - 1) i (by omega) (by rw [show i + (j - i - 1) + 1 = j by omega]; exact he)
      rw [show i + (j - i - 1) + 1 = j by omega] at h5
      exact Or.inr ⟨by omega, h5⟩
    · exact Or.inl (by omega)
  · obtain ⟨i, hi, rfl⟩ := hmem a ha
    obtain ⟨⟨f1, f2⟩, f3, _, f5, f6⟩ := hfacts i hi
    obtain ⟨h1, _, _⟩ := hrw i hi
    exact ⟨by show (0 : Int) ≤ (rw' i : Int); omega, by show (rw' i : Int) < (n : Int); omega, f1, f2, fun e => f3 e.symm, f5, f6⟩
  · apply List.ext_getElem?
    intro v
    by_cases hv : v ≤ n
    · rw [firsts_at zs hv, hfirst v hv, hu.at' v hv]
    · rw [List.getElem?_eq_none (by rw [firsts_len]; omega), List.getElem?_eq_none (by rw [hL.f]; omega)]
  · apply List.ext_getElem?
    intro i
    by_cases hi : i < m
    · rw [tos_at (hget i hi), List.getD_eq_getElem?_getD, List.getElem?_eq_getElem (by rw [hL.t]; exact hi)]; rfl
    · rw [List.getElem?_eq_none (by rw [tos_len]; omega), List.getElem?_eq_none (by rw [hL.t]; omega)]
  · apply List.ext_getElem?
    intro i
    by_cases hi : i < m
    · rw [weights_at (hget i hi)]
      show some (W.getD i 0) = _
      rw [List.getD_eq_getElem?_getD, List.getElem?_eq_getElem (by rw [hL.w]; exact hi)]; rfl
    · rw [List.getElem?_eq_none (by rw [weights_len]; omega), List.getElem?_eq_none (by rw [hL.w]; omega)]
end Go.Proofs.Ytefcmpdnlbpjpaa

namespace Go.Proofs.Ytefcmpdnlbpjpaa
open Go.RowKit Go.Extern

theorem told_num (w : World) {c : Int} (hc : c ≠ 0) : IsTold w (c, []) (.iface 59 (.int .i64 c)) := Or.inr ⟨hc, rfl⟩
theorem ints_len {w : World} {o : Option Addr} {l c : Nat} {xs : List Int} (h : HasInts w (.slice o l c) xs) : xs.length = l := by
  obtain ⟨_, _, e, _⟩ := h
  injection e with _ e _
  exact e.symm
/-- the arrays of a right list in memory. -/
theorem csrIn_of {w : World} {n m : Nat} {F T W : List Int} {fo uo wo : Option Addr} {fl fc tl tc wl wc : Nat} {zs : List (Int × Int × Int)} (hF : HasInts w (.slice fo fl fc) F) (hT : HasInts w (.slice uo tl tc) T) (hW : HasInts w (.slice wo wl wc) W) (hL : Lens F T W n m) (h1 : firsts n zs = F) (h2 : tos zs = T) (h3 : weights zs = W) (h4 : zs.length = m) : fl = n + 1 ∧ tl = zs.length ∧ wl = zs.length ∧ CsrIn w n zs fo uo wo fc tc wc := by
  have e1 : fl = n + 1 := by rw [← ints_len hF, hL.f]
  have e2 : tl = zs.length := by rw [← ints_len hT, hL.t, h4]
  have e3 : wl = zs.length := by rw [← ints_len hW, hL.w, h4]
  subst e1 e2 e3
  refine ⟨rfl, rfl, rfl, ?_, ?_, ?_⟩
  · rw [h1]; exact hF
  · rw [h2]; exact hT
  · rw [h3]; exact hW
theorem check_any (fo uo wo : Option Addr) (fl fc tl tc wl wc : Nat) (F T W : List Int) (E : Int × List (Int × Int)) (w : World) (hF : HasInts w (.slice fo fl fc) F) (hT : HasInts w (.slice uo tl tc) T) (hW : HasInts w (.slice wo wl wc) W) (hm : F.length ≤ maxLen) (hE : ChkIs F T W E) :
    Calls Try.prog 41 #[.agg #[.slice fo fl fc, .slice uo tl tc, .slice wo wl wc]] w fun e w' => ∃ v, e = .returned v ∧ IsTold w' E v ∧ Below w.heap.size w w' := by
  have hfl := ints_len hF
  have htl := ints_len hT
  have hwl := ints_len hW
  rcases hE with ⟨rfl, rfl⟩ | ⟨n, hn, hb, rfl⟩ | ⟨n, m, hL, hl, rfl⟩ | ⟨n, m, hL, hN, hM, ⟨k0, ⟨x, y, hk, hx, hy, hxy, hup⟩, rfl⟩ | ⟨fa, hu, ⟨v0, i0, ⟨g1, g2, g3, g4, g5⟩, rfl⟩ | ⟨hok, rfl⟩⟩⟩
  · obtain rfl : fl = 0 := hfl.symm
    exact (check_len fo uo wo 0 fc tl tc wl wc w 14 fun wx _ => len_a fo uo wo fc tl tc wl wc wx).mono fun e w' ⟨he, hb⟩ => ⟨_, he, told_num w' (by omega), hb⟩
  · obtain rfl : fl = n + 1 := by omega
    obtain ⟨fb, fof, rfl, lf, hc⟩ := hF.cells (by omega)
    obtain ⟨x, hx⟩ : ∃ x, F[0]? = some x := ⟨F[0], List.getElem?_eq_getElem (by omega)⟩
    obtain ⟨y, hy⟩ : ∃ y, F[n]? = some y := ⟨F[n], List.getElem?_eq_getElem (by omega)⟩
    rw [hx, hy] at hb
    refine (check_len _ uo wo (n + 1) fc tl tc wl wc w 14 fun wx hx' => ?_).mono fun e w' ⟨he, hb⟩ => ⟨_, he, told_num w' (by omega), hb⟩
    have c0 : wx.cell? ⟨fb, fof, none⟩ = some (.int .i64 x) := (hx'.cell (p := ⟨fb, fof, none⟩) lf).trans (hc 0 x hx)
    have c1 : wx.cell? ⟨fb, fof + n, none⟩ = some (.int .i64 y) := (hx'.cell (p := ⟨fb, _, none⟩) lf).trans (hc n y hy)
    have lf' : fb < wx.heap.size := Nat.lt_of_lt_of_le lf hx'.size
    have hnm : n < maxLen := by omega
    by_cases hx0 : x = 0
    · subst hx0
      by_cases hyt : y = (tl : Int)
      · subst hyt
        refine len_d fb fof uo wo n fc tl tc wl wc wx c0 c1 lf' hnm ?_
        rcases hb with h | h | h
        · exact absurd rfl h
        · exact absurd (by rw [htl]) h
        · omega
      · exact len_c fb fof uo wo n fc tl tc wl wc y wx c0 c1 lf' hnm hyt
    · exact len_b fb fof uo wo n fc tl tc wl wc x y wx c0 c1 lf' hnm hx0
  · obtain rfl : fl = n + 1 := by rw [← hfl, hL.f]
    obtain rfl : tl = m := by rw [← htl, hL.t]
    obtain rfl : wl = tl := by rw [← hwl, hL.w]
    obtain ⟨fb, fof, rfl, lf, hc⟩ := hF.cells (by omega)
    refine (check_len _ uo wo (n + 1) fc wl tc wl wc w 9 fun wx hx' => ?_).mono fun e w' ⟨he, hb⟩ => ⟨_, he, told_num w' (by omega), hb⟩
    have c0 : wx.cell? ⟨fb, fof, none⟩ = some (.int .i64 0) := (hx'.cell (p := ⟨fb, fof, none⟩) lf).trans (hc 0 0 hL.zero)
    have c1 : wx.cell? ⟨fb, fof + n, none⟩ = some (.int .i64 wl) := (hx'.cell (p := ⟨fb, _, none⟩) lf).trans (hc n wl hL.top)
    have lf' : fb < wx.heap.size := Nat.lt_of_lt_of_le lf hx'.size
    have hnm : n < maxLen := by have := hL.f; omega
    by_cases h65 : (65536 : Int) < (n : Int)
    · exact len_e fb fof uo wo n fc wl tc wc wx c0 c1 lf' hnm h65
    · exact len_g fb fof uo wo n fc wl tc wc wx c0 c1 lf' hnm h65 (by omega)
  · obtain rfl : fl = n + 1 := by rw [← hfl, hL.f]
    obtain rfl : tl = m := by rw [← htl, hL.t]
    obtain rfl : wl = tl := by rw [← hwl, hL.w]
    obtain ⟨fb, fof, rfl, lf, hc⟩ := hF.cells (by omega)
    exact check_falls n wl F fb fof uo wo fc tc wc w hF hL.zero hL.top hN hM k0 hk x y hx hy hxy hup
  · obtain rfl : fl = n + 1 := by rw [← hfl, hL.f]
    obtain rfl : tl = m := by rw [← htl, hL.t]
    obtain rfl : wl = tl := by rw [← hwl, hL.w]
    obtain ⟨fb, fof, rfl, lf, hc⟩ := hF.cells (by omega)
    exact check_arcbad n wl F T W fa fb fof uo wo fc tc wc w hF hT hW hu hN hM v0 i0 g1 g2 g3 g4 g5
  · obtain ⟨zs, hz, h1, h2, h3, h4⟩ := fine_of hL hu hok hN hM
    obtain ⟨rfl, rfl, rfl, hC⟩ := csrIn_of hF hT hW hL h1 h2 h3 h4
    exact (check_good n zs fo uo wo fc tc wc w hz hC).mono fun e w' ⟨he, hb⟩ => ⟨_, he, Or.inl ⟨rfl, rfl⟩, hb⟩
end Go.Proofs.Ytefcmpdnlbpjpaa
