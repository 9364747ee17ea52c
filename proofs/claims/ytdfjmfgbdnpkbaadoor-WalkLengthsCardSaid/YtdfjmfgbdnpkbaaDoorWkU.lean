/- walk.Length, whatever the arrays and the list, in memory of their own. -/
import Derived.Test.YtdfjmfgbdnpkbaaDoorWkX
import Derived.Test.YtdfjmfgbdnpkbaaDoorCsrDd
import Derived.Test.YtdfjmfgbdnpkbaaDoorWkT
namespace Go.Proofs.YtdfjmfgbdnpkbaaDoor
open Go.RowKit Go.Extern

attribute [local go_sem] Oper.semAt_some

theorem chk_split {F T W : List Int} {E : Int × List (Int × Int)} (h : ChkIs F T W E) : E.2.length ≤ 1 ∧ ((E.1 ≠ 0) ∨ (E = (0, []) ∧ ∃ n m zs, Lens F T W n m ∧ Fine n zs ∧ firsts n zs = F ∧ tos zs = T ∧ weights zs = W ∧ zs.length = m)) := by
  rcases h with ⟨rfl, rfl⟩ | ⟨n, hn, hb, rfl⟩ | ⟨n, m, hL, hl, rfl⟩ | ⟨n, m, hL, hN, hM, ⟨k0, _, rfl⟩ | ⟨fa, hu, ⟨v0, i0, ⟨_, _, _, _, g5⟩, rfl⟩ | ⟨hok, rfl⟩⟩⟩
  · exact ⟨by simp, Or.inl (by simp)⟩
  · exact ⟨by simp, Or.inl (by simp)⟩
  · exact ⟨by simp, Or.inl (by simp)⟩
  · exact ⟨by simp, Or.inl (by simp)⟩
  · exact ⟨by simp, Or.inl g5⟩
  · obtain ⟨zs, hz, h1, h2, h3, h4⟩ := fine_of hL hu hok hN hM
    exact ⟨by simp, Or.inr ⟨rfl, n, m, zs, hL, hz, h1, h2, h3, h4⟩⟩
/-- the arrays lie in memory. -/
structure Arr (w : World) (F T W : List Int) (fo uo wo : Option Addr) (fc tc wc : Nat) : Prop where
  f : HasInts w (.slice fo F.length fc) F
  t : HasInts w (.slice uo T.length tc) T
  w : HasInts w (.slice wo W.length wc) W
theorem Arr.keep {w w' : World} {F T W : List Int} {fo uo wo : Option Addr} {fc tc wc : Nat} (h : Arr w F T W fo uo wo fc tc wc) (hb : Below w.heap.size w w') : Arr w' F T W fo uo wo fc tc wc := ⟨h.f.keep hb, h.t.keep hb, h.w.keep hb⟩
theorem Own3.arr {B : Nat} {w : World} {F T W : List Int} {fo uo wo : Option Addr} {fc tc wc : Nat} (h : Own3 B w F T W (.slice fo F.length fc) (.slice uo T.length tc) (.slice wo W.length wc)) : Arr w F T W fo uo wo fc tc wc := ⟨ints_of_iown h.1, ints_of_iown h.2.1, ints_of_iown h.2.2⟩
/-- the numbers of To: none at all, or in a block with room for them. -/
theorem own_to {B : Nat} {w : World} {T : List Int} {uo : Option Addr} {tc : Nat} (h : w.ownsRow B 3 1 (.slice uo T.length tc) T.length (iv T)) : (uo = none ∧ tc = 0 ∧ T = []) ∨ ∃ g, uo = some ⟨g, 0, none⟩ ∧ T.length ≤ tc := by
  rcases h.2 with ⟨e, h0⟩ | ⟨g, cap, cur, e, _, _, hle, _⟩
  · injection e with e1 _ e3
    exact Or.inl ⟨e1, e3, List.eq_nil_of_length_eq_zero h0⟩
  · injection e with e1 _ e3
    subst e3
    exact Or.inr ⟨g, e1, hle⟩

theorem docCheck_any (fo uo wo : Option Addr) (fl fc tl tc wl wc : Nat) (F T W : List Int) (E : Int × List (Int × Int)) (w : World) (hF : HasInts w (.slice fo fl fc) F) (hT : HasInts w (.slice uo tl tc) T) (hW : HasInts w (.slice wo wl wc) W) (hm : F.length ≤ maxLen) (hE : ChkIs F T W E) :
    Calls Tryd.prog 25 #[.agg #[.slice fo fl fc, .slice uo tl tc, .slice wo wl wc]] w (DocAns w E) := by
  have hfl := ints_len hF
  have htl := ints_len hT
  have hwl := ints_len hW
  rcases hE with ⟨rfl, rfl⟩ | ⟨n, hn, hb, rfl⟩ | ⟨n, m, hL, hl, rfl⟩ | ⟨n, m, hL, hN, hM, ⟨k0, ⟨x, y, hk, hx, hy, hxy, hup⟩, rfl⟩ | ⟨fa, hu, ⟨v0, i0, ⟨g1, g2, g3, g4, g5⟩, rfl⟩ | ⟨hok, rfl⟩⟩⟩
  · obtain rfl : fl = 0 := hfl.symm
    exact dc_a fo uo wo fc tl tc wl wc w
  · obtain rfl : fl = n + 1 := by omega
    obtain ⟨fb, fof, rfl, lf, hc⟩ := hF.cells (by omega)
    obtain ⟨x, hx⟩ : ∃ x, F[0]? = some x := ⟨F[0], List.getElem?_eq_getElem (by omega)⟩
    obtain ⟨y, hy⟩ : ∃ y, F[n]? = some y := ⟨F[n], List.getElem?_eq_getElem (by omega)⟩
    rw [hx, hy] at hb
    have c0 : w.cell? ⟨fb, fof, none⟩ = some (.int .i64 x) := hc 0 x hx
    have c1 : w.cell? ⟨fb, fof + n, none⟩ = some (.int .i64 y) := hc n y hy
    have hnm : n < maxLen := by omega
    by_cases hx0 : x = 0
    · subst hx0
      by_cases hyt : y = (tl : Int)
      · subst hyt
        refine dc_d fb fof uo wo n fc tl tc wl wc w c0 c1 lf hnm ?_
        rcases hb with h | h | h
        · exact absurd rfl h
        · exact absurd (by rw [htl]) h
        · omega
      · exact dc_c fb fof uo wo n fc tl tc wl wc y w c0 c1 lf hnm hyt
    · exact dc_b fb fof uo wo n fc tl tc wl wc x y w c0 c1 lf hnm hx0
  · obtain rfl : fl = n + 1 := by rw [← hfl, hL.f]
    obtain rfl : tl = m := by rw [← htl, hL.t]
    obtain rfl : wl = tl := by rw [← hwl, hL.w]
    obtain ⟨fb, fof, rfl, lf, hc⟩ := hF.cells (by omega)
    have c0 : w.cell? ⟨fb, fof, none⟩ = some (.int .i64 0) := hc 0 0 hL.zero
    have c1 : w.cell? ⟨fb, fof + n, none⟩ = some (.int .i64 wl) := hc n wl hL.top
    have hnm : n < maxLen := by have := hL.f; omega
    by_cases h65 : (65536 : Int) < (n : Int)
    · exact dc_e fb fof uo wo n fc wl tc wc w c0 c1 lf hnm h65
    · exact dc_g fb fof uo wo n fc wl tc wc w c0 c1 lf hnm h65 (by omega)
  · obtain rfl : fl = n + 1 := by rw [← hfl, hL.f]
    obtain rfl : tl = m := by rw [← htl, hL.t]
    obtain rfl : wl = tl := by rw [← hwl, hL.w]
    obtain ⟨fb, fof, rfl, lf, hc⟩ := hF.cells (by omega)
    exact dc_f n wl F fb fof uo wo fc tc wc w hF hL.zero hL.top hN hM k0 hk x y hx hy hxy hup
  · obtain rfl : fl = n + 1 := by rw [← hfl, hL.f]
    obtain rfl : tl = m := by rw [← htl, hL.t]
    obtain rfl : wl = tl := by rw [← hwl, hL.w]
    obtain ⟨fb, fof, rfl, lf, hc⟩ := hF.cells (by omega)
    refine dc_arcs n wl F T W fa fb fof uo wo fc tc wc w hF hT hW hu hN hM i0 _ (fun i v hv h1 h2 h3 => ?_) (fun h => ?_)
    · rcases Nat.lt_or_ge i i0 with h | h
      · exact Or.inl ⟨h, g4 v i hv h1 h2 h⟩
      · obtain rfl : i = i0 := by omega
        obtain rfl : v = v0 := by
          rcases Nat.lt_trichotomy v v0 with h' | h' | h'
          · have := hu.mono (show v + 1 ≤ v0 by omega) (by omega); omega
          · exact h'
          · have := hu.mono (show v0 + 1 ≤ v by omega) (by omega); omega
        exact Or.inr ⟨g5, rfl⟩
    · have := hu.le (show v0 + 1 ≤ n by omega)
      omega
  · obtain rfl : fl = n + 1 := by rw [← hfl, hL.f]
    obtain rfl : tl = m := by rw [← htl, hL.t]
    obtain rfl : wl = tl := by rw [← hwl, hL.w]
    obtain ⟨fb, fof, rfl, lf, hc⟩ := hF.cells (by omega)
    exact dc_arcs n wl F T W fa fb fof uo wo fc tc wc w hF hT hW hu hN hM wl _ (fun i v hv h1 h2 _ => Or.inl ⟨Nat.lt_of_lt_of_le h2 (hu.le (by omega)), hok v i hv h1 h2⟩) (fun _ => rfl)
/-- what the document says of a list, whatever the arrays. -/
def WLen (F T W : List Int) (C : Int × List (Int × Int)) (xs : List Int) (L : Int) (E : Int × List (Int × Int)) : Prop :=
  (C.1 ≠ 0 ∧ L = 0 ∧ E = C) ∨ (C = (0, []) ∧ ∃ n m zs, Lens F T W n m ∧ Fine n zs ∧ firsts n zs = F ∧ tos zs = T ∧ weights zs = W ∧ zs.length = m ∧ LenIs n zs xs L E)
theorem wlen_total {F T W : List Int} {C : Int × List (Int × Int)} (hC : ChkIs F T W C) (xs : List Int) : ∃ L E, WLen F T W C xs L E := by
  rcases (chk_split hC).2 with h | ⟨h, n, m, zs, g1, g2, g3, g4, g5, g6⟩
  · exact ⟨0, C, Or.inl ⟨h, rfl, rfl⟩⟩
  · obtain ⟨L, E, hl⟩ := len_total n zs xs
    exact ⟨L, E, Or.inr ⟨h, n, m, zs, g1, g2, g3, g4, g5, g6, hl⟩⟩
theorem checkList_early (fo uo wo : Option Addr) (fl fc tl tc wl wc : Nat) (no : Option Addr) (nl nc : Nat) (w : World) (E : Int × List (Int × Int)) (h : ∀ wx, Below w.heap.size w wx → Calls Tryd.prog 41 #[.agg #[.slice fo fl fc, .slice uo tl tc, .slice wo wl wc]] wx fun e w' => ∃ T x, e = .returned (.iface T x) ∧ IsTold w' E (.iface T x) ∧ Below wx.heap.size wx w') :
    Calls Tryd.prog 27 #[.agg #[.slice fo fl fc, .slice uo tl tc, .slice wo wl wc], .slice no nl nc] w fun e w' => ∃ T x, e = .returned (.iface T x) ∧ IsTold w' E (.iface T x) ∧ Below w.heap.size w w' := by
  have hB0 : Below w.heap.size w (w.alloc (.cells #[.slice fo fl fc, .slice uo tl tc, .slice wo wl wc] 32)) := (Below.refl _ w).alloc (Nat.le_refl _) _
  have HB0 : Hid (type_of% hB0) := hB0
  have HC : Hid (type_of% h) := h
  clear hB0 h
  go_enter Tryd.func27, Tryd.ntmps27
  go_wp2_with fail
  refine (HC.out _ HB0.out).mono ?_
  rintro e w1 ⟨T, x, rfl, hq, hb1⟩
  have HB1 : Hid (Below w.heap.size w w1 ∧ IsTold w1 E (.iface T x)) := ⟨btr HB0.out hb1, hq⟩
  clear hb1 hq
  go_wp2
  go_ret
  exact ⟨_, _, rfl, HB1.out.2, HB1.out.1⟩
theorem told_iface9 {w : World} {e : Int × List (Int × Int)} {v : Value} (h : IsTold w e v) (he : e.1 ≠ 0) : ∃ T x, v = .iface T x := by
  obtain ⟨c, ps⟩ := e
  rcases h with ⟨h, _⟩ | ⟨_, h⟩
  · cases h; exact absurd rfl he
  · cases ps with
    | nil => exact ⟨_, _, h⟩
    | cons p r => obtain ⟨b, u, h, _⟩ := h; exact ⟨_, _, h⟩
theorem length_any (fo uo wo : Option Addr) (fc tc wc : Nat) (F T W : List Int) (C : Int × List (Int × Int)) (hC : ChkIs F T W C) (hm : F.length ≤ maxLen) (w : World) (hA : Arr w F T W fo uo wo fc tc wc) (htc : T.length ≤ tc) (no : Option Addr) (nc : Nat) (xs : List Int) (hx : HasInts w (.slice no xs.length nc) xs) (hnc : xs.length ≤ nc) (hxl : xs.length ≤ 1000000) (L : Int) (E : Int × List (Int × Int)) (hL : WLen F T W C xs L E) :
    Calls Tryd.prog 8 #[.agg #[.slice fo F.length fc, .slice uo T.length tc, .slice wo W.length wc], .slice no xs.length nc] w fun e w' => ∃ v, e = .returned (.tuple #[.int .u64 L, v]) ∧ IsTold w' E v ∧ Below w.heap.size w w' := by
  rcases hL with ⟨h1, rfl, rfl⟩ | ⟨rfl, n, m, zs, g1, hz, g3, g4, g5, g6, hl⟩
  · refine length_early (fun w' v => IsTold w' E v) _ _ _ _ _ rfl w fun wx hb => checkList_early fo uo wo _ fc _ tc _ wc no _ nc wx E fun wy hy => ?_
    have hb2 := btr hb hy
    refine (check_any fo uo wo _ fc _ tc _ wc F T W E wy (hA.f.keep hb2) (hA.t.keep hb2) (hA.w.keep hb2) hm hC).mono ?_
    rintro e w' ⟨v, he, ht, hb'⟩
    obtain ⟨Ty, x, rfl⟩ := told_iface9 ht h1
    exact ⟨Ty, x, he, ht, hb'⟩
  · have hI : ∀ wx, Below w.heap.size w wx → CsrIn wx n zs fo uo wo fc tc wc ∧ F.length = n + 1 ∧ T.length = zs.length ∧ W.length = zs.length := fun wx hb => by
      obtain ⟨_, _, _, h⟩ := csrIn_of ((hA.keep hb).f) ((hA.keep hb).t) ((hA.keep hb).w) g1 g3 g4 g5 g6
      exact ⟨h, g1.f, by rw [g1.t, g6], by rw [g1.w, g6]⟩
    obtain ⟨_, f1, f2, f3⟩ := hI w (Below.refl _ _)
    rw [f1, f2, f3]
    have htc' : zs.length ≤ tc := by omega
    rcases hl with ⟨rfl, rfl, rfl⟩ | ⟨k, v, hk, hbad, hok, rfl, rfl⟩ | ⟨hn, k, v, u, ws, hv, hu, hno, hw, rfl, rfl⟩ | ⟨hn, h0, ws, hw, rfl, rfl⟩
    · refine length_early (fun w' v => IsTold w' (5, []) v) _ _ _ _ _ rfl w fun wx hb => (checkList_empty n zs fo uo wo fc tc wc wx hz (hI wx hb).1 no nc).mono ?_
      rintro e w' ⟨he, hb'⟩
      exact ⟨_, _, he, told_num w' (by omega), hb'⟩
    · refine length_early (fun w' v => IsTold w' (7, [(3, (k : Int))]) v) _ _ _ _ _ rfl w fun wx hb => (checkList_node n zs fo uo wo fc tc wc wx hz (hI wx hb).1 no nc xs (hx.keep hb) hxl k v hk hbad hok).mono ?_
      rintro e w' ⟨v, he, ht, hb'⟩
      obtain ⟨Ty, x, rfl⟩ := told_iface9 ht (by simp)
      exact ⟨Ty, x, he, ht, hb'⟩
    · cases xs with
      | nil => simp at hv
      | cons y r =>
        obtain ⟨b, off, rfl, _, _⟩ := hx.at (k := 0) (a := y) rfl
        have hkl := (List.getElem?_eq_some_iff.1 hu).1
        simp only [List.length_cons] at hkl hx hnc hxl ⊢
        refine (length_nodes n zs fo uo wo fc tc wc w hz (hI w (Below.refl _ _)).1 htc' b off nc y r ws hx hnc (by omega) hn k (by omega) hw (Or.inr ⟨v, u, hv, hu, hno⟩)).mono ?_
        rintro e w' ⟨L', v', he, h, hb'⟩
        rcases h with ⟨h, _⟩ | ⟨_, rfl, h⟩
        · omega
        · exact ⟨v', he, h, hb'⟩
    · cases xs with
      | nil => exact absurd rfl h0
      | cons y r =>
        obtain ⟨b, off, rfl, _, _⟩ := hx.at (k := 0) (a := y) rfl
        simp only [List.length_cons] at hx hnc hxl ⊢
        refine (length_nodes n zs fo uo wo fc tc wc w hz (hI w (Below.refl _ _)).1 htc' b off nc y r ws hx hnc (by omega) hn r.length (Nat.le_refl _) (by rw [show r.length + 1 = (y :: r).length from rfl, List.take_length]; exact hw) (Or.inl rfl)).mono ?_
        rintro e w' ⟨L', v', he, h, hb'⟩
        rcases h with ⟨_, rfl, h⟩ | ⟨h, _⟩
        · exact ⟨v', he, h, hb'⟩
        · omega
end Go.Proofs.YtdfjmfgbdnpkbaaDoor
