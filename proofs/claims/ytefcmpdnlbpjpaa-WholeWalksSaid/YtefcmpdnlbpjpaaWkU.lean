/- walk.Length, whatever the arrays and the list, in memory of their own. -/
import Derived.Test.YtefcmpdnlbpjpaaWkY
import Derived.Test.YtefcmpdnlbpjpaaCsrDd
import Derived.Test.YtefcmpdnlbpjpaaWkT
namespace Go.Proofs.Ytefcmpdnlbpjpaa
open Go.RowKit Go.Extern

attribute [local go_sem] Oper.semAt_some

theorem chk_split {F T W : List Int} {E : Int × List (Int × Int)} (h : ChkIs F T W E) : E.2.length ≤ 1 ∧ ((E.1 ≠ 0) ∨ (E = (0, []) ∧ ∃ n m zs, Lens F T W n m ∧ Fine n zs ∧ firsts n zs = F ∧ tos zs = T ∧ weights zs = W ∧ zs.length = m)) := by
  rcases h with ⟨rfl, rfl⟩ | ⟨n, hn, hb, rfl⟩ | ⟨n, m, hL, hl, rfl⟩ | ⟨n, m, hL, hN, hM, ⟨k0, _, rfl⟩ | ⟨fa, hu, ⟨v0, i0, ⟨_, _, _, _, g5⟩, rfl⟩ | ⟨hok, rfl⟩⟩⟩
  · exact ⟨by simp, Or.inl (by simp)⟩
  · exact ⟨by simp, Or.inl (by simp)⟩
  · exact ⟨by simp, Or.inl (by simp)⟩
  · exact ⟨by simp, Or.inl (by simp)⟩
  · exact ⟨by simp, Or.inl g5⟩
  · obtain ⟨zs, hz, h1, h2, h3, h4⟩ := fine_of hL hu hok hN hM
    exact ⟨by simp, Or.inr ⟨rfl, n, m, zs, hL, hz, h1, h2, h3, h4⟩⟩
/-- the arrays lie in memory. -/
structure Arr (w : World) (F T W : List Int) (fo uo wo : Option Addr) (fc tc wc : Nat) : Prop where
  f : HasInts w (.slice fo F.length fc) F
  t : HasInts w (.slice uo T.length tc) T
  w : HasInts w (.slice wo W.length wc) W
theorem Arr.keep {w w' : World} {F T W : List Int} {fo uo wo : Option Addr} {fc tc wc : Nat} (h : Arr w F T W fo uo wo fc tc wc) (hb : Below w.heap.size w w') : Arr w' F T W fo uo wo fc tc wc := ⟨h.f.keep hb, h.t.keep hb, h.w.keep hb⟩
theorem Own3.arr {B : Nat} {w : World} {F T W : List Int} {fo uo wo : Option Addr} {fc tc wc : Nat} (h : Own3 B w F T W (.slice fo F.length fc) (.slice uo T.length tc) (.slice wo W.length wc)) : Arr w F T W fo uo wo fc tc wc := ⟨ints_of_iown h.1, ints_of_iown h.2.1, ints_of_iown h.2.2⟩
/-- the numbers of To: none at all, or in a block with room for them. -/
theorem own_to {B : Nat} {w : World} {T : List Int} {uo : Option Addr} {tc : Nat} (h : w.ownsRow B 3 1 (.slice uo T.length tc) T.length (iv T)) : (uo = none ∧ tc = 0 ∧ T = []) ∨ ∃ g, uo = some ⟨g, 0, none⟩ ∧ T.length ≤ tc := by
  rcases h.2 with ⟨e, h0⟩ | ⟨g, cap, cur, e, _, _, hle, _⟩
  · injection e with e1 _ e3
    exact Or.inl ⟨e1, e3, List.eq_nil_of_length_eq_zero h0⟩
  · injection e with e1 _ e3
    subst e3
    exact Or.inr ⟨g, e1, hle⟩

/-- what the document says of a list, whatever the arrays. -/
def WLen (F T W : List Int) (C : Int × List (Int × Int)) (xs : List Int) (L : Int) (E : Int × List (Int × Int)) : Prop :=
  (C.1 ≠ 0 ∧ L = 0 ∧ E = C) ∨ (C = (0, []) ∧ ∃ n m zs, Lens F T W n m ∧ Fine n zs ∧ firsts n zs = F ∧ tos zs = T ∧ weights zs = W ∧ zs.length = m ∧ LenIs n zs xs L E)
theorem wlen_total {F T W : List Int} {C : Int × List (Int × Int)} (hC : ChkIs F T W C) (xs : List Int) : ∃ L E, WLen F T W C xs L E := by
  rcases (chk_split hC).2 with h | ⟨h, n, m, zs, g1, g2, g3, g4, g5, g6⟩
  · exact ⟨0, C, Or.inl ⟨h, rfl, rfl⟩⟩
  · obtain ⟨L, E, hl⟩ := len_total n zs xs
    exact ⟨L, E, Or.inr ⟨h, n, m, zs, g1, g2, g3, g4, g5, g6, hl⟩⟩
theorem checkList_early (fo uo wo : Option Addr) (fl fc tl tc wl wc : Nat) (no : Option Addr) (nl nc : Nat) (w : World) (E : Int × List (Int × Int)) (h : ∀ wx, Below w.heap.size w wx → Calls Try.prog 41 #[.agg #[.slice fo fl fc, .slice uo tl tc, .slice wo wl wc]] wx fun e w' => ∃ T x, e = .returned (.iface T x) ∧ IsTold w' E (.iface T x) ∧ Below wx.heap.size wx w') :
    Calls Try.prog 17 #[.agg #[.slice fo fl fc, .slice uo tl tc, .slice wo wl wc], .slice no nl nc] w fun e w' => ∃ T x, e = .returned (.iface T x) ∧ IsTold w' E (.iface T x) ∧ Below w.heap.size w w' := by
  have hB0 : Below w.heap.size w (w.alloc (.cells #[.slice fo fl fc, .slice uo tl tc, .slice wo wl wc] 27)) := (Below.refl _ w).alloc (Nat.le_refl _) _
  have HB0 : Hid (type_of% hB0) := hB0
  have HC : Hid (type_of% h) := h
  clear hB0 h
  go_enter Try.func17, Try.ntmps17
  go_wp2_with fail
  refine (HC.out _ HB0.out).mono ?_
  rintro e w1 ⟨T, x, rfl, hq, hb1⟩
  have HB1 : Hid (Below w.heap.size w w1 ∧ IsTold w1 E (.iface T x)) := ⟨btr HB0.out hb1, hq⟩
  clear hb1 hq
  go_wp2
  go_ret
  exact ⟨_, _, rfl, HB1.out.2, HB1.out.1⟩
theorem told_iface9 {w : World} {e : Int × List (Int × Int)} {v : Value} (h : IsTold w e v) (he : e.1 ≠ 0) : ∃ T x, v = .iface T x := by
  obtain ⟨c, ps⟩ := e
  rcases h with ⟨h, _⟩ | ⟨_, h⟩
  · cases h; exact absurd rfl he
  · cases ps with
    | nil => exact ⟨_, _, h⟩
    | cons p r => obtain ⟨b, u, h, _⟩ := h; exact ⟨_, _, h⟩
theorem length_any (fo uo wo : Option Addr) (fc tc wc : Nat) (F T W : List Int) (C : Int × List (Int × Int)) (hC : ChkIs F T W C) (hm : F.length ≤ maxLen) (w : World) (hA : Arr w F T W fo uo wo fc tc wc) (htc : T.length ≤ tc) (no : Option Addr) (nc : Nat) (xs : List Int) (hx : HasInts w (.slice no xs.length nc) xs) (hnc : xs.length ≤ nc) (hxl : xs.length ≤ 1000000) (L : Int) (E : Int × List (Int × Int)) (hL : WLen F T W C xs L E) :
    Calls Try.prog 5 #[.agg #[.slice fo F.length fc, .slice uo T.length tc, .slice wo W.length wc], .slice no xs.length nc] w fun e w' => ∃ v, e = .returned (.tuple #[.int .u64 L, v]) ∧ IsTold w' E v ∧ Below w.heap.size w w' := by
  rcases hL with ⟨h1, rfl, rfl⟩ | ⟨rfl, n, m, zs, g1, hz, g3, g4, g5, g6, hl⟩
  · refine length_early (fun w' v => IsTold w' E v) _ _ _ _ _ rfl w fun wx hb => checkList_early fo uo wo _ fc _ tc _ wc no _ nc wx E fun wy hy => ?_
    have hb2 := btr hb hy
    refine (check_any fo uo wo _ fc _ tc _ wc F T W E wy (hA.f.keep hb2) (hA.t.keep hb2) (hA.w.keep hb2) hm hC).mono ?_
    rintro e w' ⟨v, he, ht, hb'⟩
    obtain ⟨Ty, x, rfl⟩ := told_iface9 ht h1
    exact ⟨Ty, x, he, ht, hb'⟩
  · have hI : ∀ wx, Below w.heap.size w wx → CsrIn wx n zs fo uo wo fc tc wc ∧ F.length = n + 1 ∧ T.length = zs.length ∧ W.length = zs.length := fun wx hb => by
      obtain ⟨_, _, _, h⟩ := csrIn_of ((hA.keep hb).f) ((hA.keep hb).t) ((hA.keep hb).w) g1 g3 g4 g5 g6
      exact ⟨h, g1.f, by rw [g1.t, g6], by rw [g1.w, g6]⟩
    obtain ⟨_, f1, f2, f3⟩ := hI w (Below.refl _ _)
    rw [f1, f2, f3]
    have htc' : zs.length ≤ tc := by omega
    rcases hl with ⟨rfl, rfl, rfl⟩ | ⟨k, v, hk, hbad, hok, rfl, rfl⟩ | ⟨hn, k, v, u, ws, hv, hu, hno, hw, rfl, rfl⟩ | ⟨hn, h0, ws, hw, rfl, rfl⟩
    · refine length_early (fun w' v => IsTold w' (5, []) v) _ _ _ _ _ rfl w fun wx hb => (checkList_empty n zs fo uo wo fc tc wc wx hz (hI wx hb).1 no nc).mono ?_
      rintro e w' ⟨he, hb'⟩
      exact ⟨_, _, he, told_num w' (by omega), hb'⟩
    · refine length_early (fun w' v => IsTold w' (7, [(3, (k : Int))]) v) _ _ _ _ _ rfl w fun wx hb => (checkList_node n zs fo uo wo fc tc wc wx hz (hI wx hb).1 no nc xs (hx.keep hb) hxl k v hk hbad hok).mono ?_
      rintro e w' ⟨v, he, ht, hb'⟩
      obtain ⟨Ty, x, rfl⟩ := told_iface9 ht (by simp)
      exact ⟨Ty, x, he, ht, hb'⟩
    · cases xs with
      | nil => simp at hv
      | cons y r =>
        obtain ⟨b, off, rfl, _, _⟩ := hx.at (k := 0) (a := y) rfl
        have hkl := (List.getElem?_eq_some_iff.1 hu).1
        simp only [List.length_cons] at hkl hx hnc hxl ⊢
        refine (length_nodes n zs fo uo wo fc tc wc w hz (hI w (Below.refl _ _)).1 htc' b off nc y r ws hx hnc (by omega) hn k (by omega) hw (Or.inr ⟨v, u, hv, hu, hno⟩)).mono ?_
        rintro e w' ⟨L', v', he, h, hb'⟩
        rcases h with ⟨h, _⟩ | ⟨_, rfl, h⟩
        · omega
        · exact ⟨v', he, h, hb'⟩
    · cases xs with
      | nil => exact absurd rfl h0
      | cons y r =>
        obtain ⟨b, off, rfl, _, _⟩ := hx.at (k := 0) (a := y) rfl
        simp only [List.length_cons] at hx hnc hxl ⊢
        refine (length_nodes n zs fo uo wo fc tc wc w hz (hI w (Below.refl _ _)).1 htc' b off nc y r ws hx hnc (by omega) hn r.length (Nat.le_refl _) (by rw [show r.length + 1 = (y :: r).length from rfl, List.take_length]; exact hw) (Or.inl rfl)).mono ?_
        rintro e w' ⟨L', v', he, h, hb'⟩
        rcases h with ⟨_, rfl, h⟩ | ⟨h, _⟩
        · exact ⟨v', he, h, hb'⟩
        · omega
end Go.Proofs.Ytefcmpdnlbpjpaa
