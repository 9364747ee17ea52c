/- DocCheck whatever the arrays; arrays in memory. (Cut out of WkU, for seats without walk.) -/
import Derived.Test.YtbaahjppofbdlaaGreatDoorCsrDd
import Derived.Test.YtbaahjppofbdlaaGreatDoorCsrY
import Derived.Test.YtbaahjppofbdlaaGreatDoorRefBuW
import Derived.Test.YtbaahjppofbdlaaGreatDoorSqT
namespace Go.Proofs.YtbaahjppofbdlaaGreatDoor
open Go.RowKit Go.Extern

attribute [local go_sem] Oper.semAt_some

theorem chk_split {F T W : List Int} {E : Int × List (Int × Int)} (h : ChkIs F T W E) : E.2.length ≤ 1 ∧ ((E.1 ≠ 0) ∨ (E = (0, []) ∧ ∃ n m zs, Lens F T W n m ∧ Fine n zs ∧ firsts n zs = F ∧ tos zs = T ∧ weights zs = W ∧ zs.length = m)) := by
  rcases h with ⟨rfl, rfl⟩ | ⟨n, hn, hb, rfl⟩ | ⟨n, m, hL, hl, rfl⟩ | ⟨n, m, hL, hN, hM, ⟨k0, _, rfl⟩ | ⟨fa, hu, ⟨v0, i0, ⟨_, _, _, _, g5⟩, rfl⟩ | ⟨hok, rfl⟩⟩⟩
  · exact ⟨by simp, Or.inl (by simp)⟩
  · exact ⟨by simp, Or.inl (by simp)⟩
  · exact ⟨by simp, Or.inl (by simp)⟩
  · exact ⟨by simp, Or.inl (by simp)⟩
  · exact ⟨by simp, Or.inl g5⟩
  · obtain ⟨zs, hz, h1, h2, h3, h4⟩ := fine_of hL hu hok hN hM
    exact ⟨by simp, Or.inr ⟨rfl, n, m, zs, hL, hz, h1, h2, h3, h4⟩⟩
/-- the arrays lie in memory. -/
structure Arr (w : World) (F T W : List Int) (fo uo wo : Option Addr) (fc tc wc : Nat) : Prop where
  f : HasInts w (.slice fo F.length fc) F
  t : HasInts w (.slice uo T.length tc) T
  w : HasInts w (.slice wo W.length wc) W
theorem Arr.keep {w w' : World} {F T W : List Int} {fo uo wo : Option Addr} {fc tc wc : Nat} (h : Arr w F T W fo uo wo fc tc wc) (hb : Below w.heap.size w w') : Arr w' F T W fo uo wo fc tc wc := ⟨h.f.keep hb, h.t.keep hb, h.w.keep hb⟩
theorem Own3.arr {B : Nat} {w : World} {F T W : List Int} {fo uo wo : Option Addr} {fc tc wc : Nat} (h : Own3 B w F T W (.slice fo F.length fc) (.slice uo T.length tc) (.slice wo W.length wc)) : Arr w F T W fo uo wo fc tc wc := ⟨ints_of_iown h.1, ints_of_iown h.2.1, ints_of_iown h.2.2⟩
/-- the numbers of To: none at all, or in a block with room for them. -/
theorem own_to {B : Nat} {w : World} {T : List Int} {uo : Option Addr} {tc : Nat} (h : w.ownsRow B 3 1 (.slice uo T.length tc) T.length (iv T)) : (uo = none ∧ tc = 0 ∧ T = []) ∨ ∃ g, uo = some ⟨g, 0, none⟩ ∧ T.length ≤ tc := by
  rcases h.2 with ⟨e, h0⟩ | ⟨g, cap, cur, e, _, _, hle, _⟩
  · injection e with e1 _ e3
    exact Or.inl ⟨e1, e3, List.eq_nil_of_length_eq_zero h0⟩
  · injection e with e1 _ e3
    subst e3
    exact Or.inr ⟨g, e1, hle⟩

theorem docCheck_any (fo uo wo : Option Addr) (fl fc tl tc wl wc : Nat) (F T W : List Int) (E : Int × List (Int × Int)) (w : World) (hF : HasInts w (.slice fo fl fc) F) (hT : HasInts w (.slice uo tl tc) T) (hW : HasInts w (.slice wo wl wc) W) (hm : F.length ≤ maxLen) (hE : ChkIs F T W E) :
    Calls Tryz.prog 85 #[.agg #[.slice fo fl fc, .slice uo tl tc, .slice wo wl wc]] w (DocAns w E) := by
  have hfl := ints_len hF
  have htl := ints_len hT
  have hwl := ints_len hW
  rcases hE with ⟨rfl, rfl⟩ | ⟨n, hn, hb, rfl⟩ | ⟨n, m, hL, hl, rfl⟩ | ⟨n, m, hL, hN, hM, ⟨k0, ⟨x, y, hk, hx, hy, hxy, hup⟩, rfl⟩ | ⟨fa, hu, ⟨v0, i0, ⟨g1, g2, g3, g4, g5⟩, rfl⟩ | ⟨hok, rfl⟩⟩⟩
  · obtain rfl : fl = 0 := hfl.symm
    exact dc_a fo uo wo fc tl tc wl wc w
  · obtain rfl : fl = n + 1 := by omega
    obtain ⟨fb, fof, rfl, lf, hc⟩ := hF.cells (by omega)
    obtain ⟨x, hx⟩ : ∃ x, F[0]? = some x := ⟨F[0], List.getElem?_eq_getElem (by omega)⟩
    obtain ⟨y, hy⟩ : ∃ y, F[n]? = some y := ⟨F[n], List.getElem?_eq_getElem (by omega)⟩
    rw [hx, hy] at hb
    have c0 : w.cell? ⟨fb, fof, none⟩ = some (.int .i64 x) := hc 0 x hx
    have c1 : w.cell? ⟨fb, fof + n, none⟩ = some (.int .i64 y) := hc n y hy
    have hnm : n < maxLen := by omega
    by_cases hx0 : x = 0
    · subst hx0
      by_cases hyt : y = (tl : Int)
      · subst hyt
        refine dc_d fb fof uo wo n fc tl tc wl wc w c0 c1 lf hnm ?_
        rcases hb with h | h | h
        · exact absurd rfl h
        · exact absurd (by rw [htl]) h
        · omega
      · exact dc_c fb fof uo wo n fc tl tc wl wc y w c0 c1 lf hnm hyt
    · exact dc_b fb fof uo wo n fc tl tc wl wc x y w c0 c1 lf hnm hx0
  · obtain rfl : fl = n + 1 := by rw [← hfl, hL.f]
    obtain rfl : tl = m := by rw [← htl, hL.t]
    obtain rfl : wl = tl := by rw [← hwl, hL.w]
    obtain ⟨fb, fof, rfl, lf, hc⟩ := hF.cells (by omega)
    have c0 : w.cell? ⟨fb, fof, none⟩ = some (.int .i64 0) := hc 0 0 hL.zero
    have c1 : w.cell? ⟨fb, fof + n, none⟩ = some (.int .i64 wl) := hc n wl hL.top
    have hnm : n < maxLen := by have := hL.f; omega
    by_cases h65 : (65536 : Int) < (n : Int)
    · exact dc_e fb fof uo wo n fc wl tc wc w c0 c1 lf hnm h65
    · exact dc_g fb fof uo wo n fc wl tc wc w c0 c1 lf hnm h65 (by omega)
  · obtain rfl : fl = n + 1 := by rw [← hfl, hL.f]
    obtain rfl : tl = m := by rw [← htl, hL.t]
    obtain rfl : wl = tl := by rw [← hwl, hL.w]
    obtain ⟨fb, fof, rfl, lf, hc⟩ := hF.cells (by omega)
    exact dc_f n wl F fb fof uo wo fc tc wc w hF hL.zero hL.top hN hM k0 hk x y hx hy hxy hup
  · obtain rfl : fl = n + 1 := by rw [← hfl, hL.f]
    obtain rfl : tl = m := by rw [← htl, hL.t]
    obtain rfl : wl = tl := by rw [← hwl, hL.w]
    obtain ⟨fb, fof, rfl, lf, hc⟩ := hF.cells (by omega)
    refine dc_arcs n wl F T W fa fb fof uo wo fc tc wc w hF hT hW hu hN hM i0 _ (fun i v hv h1 h2 h3 => ?_) (fun h => ?_)
    · rcases Nat.lt_or_ge i i0 with h | h
      · exact Or.inl ⟨h, g4 v i hv h1 h2 h⟩
      · obtain rfl : i = i0 := by omega
        obtain rfl : v = v0 := by
          rcases Nat.lt_trichotomy v v0 with h' | h' | h'
          · have := hu.mono (show v + 1 ≤ v0 by omega) (by omega); omega
          · exact h'
          · have := hu.mono (show v0 + 1 ≤ v by omega) (by omega); omega
        exact Or.inr ⟨g5, rfl⟩
    · have := hu.le (show v0 + 1 ≤ n by omega)
      omega
  · obtain rfl : fl = n + 1 := by rw [← hfl, hL.f]
    obtain rfl : tl = m := by rw [← htl, hL.t]
    obtain rfl : wl = tl := by rw [← hwl, hL.w]
    obtain ⟨fb, fof, rfl, lf, hc⟩ := hF.cells (by omega)
    exact dc_arcs n wl F T W fa fb fof uo wo fc tc wc w hF hT hW hu hN hM wl _ (fun i v hv h1 h2 _ => Or.inl ⟨Nat.lt_of_lt_of_le h2 (hu.le (by omega)), hok v i hv h1 h2⟩) (fun _ => rfl)
end Go.Proofs.YtbaahjppofbdlaaGreatDoor
