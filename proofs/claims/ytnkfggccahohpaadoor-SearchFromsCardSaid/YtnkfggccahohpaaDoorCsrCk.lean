/- csr.Check, whatever the arrays. -/
import Derived.Test.YtnkfggccahohpaaDoorCsrZ
namespace Go.Proofs.YtnkfggccahohpaaDoor
open Go.RowKit Go.Extern

theorem told_num (w : World) {c : Int} (hc : c ≠ 0) : IsTold w (c, []) (.iface 82 (.int .i64 c)) := Or.inr ⟨hc, rfl⟩
theorem ints_len {w : World} {o : Option Addr} {l c : Nat} {xs : List Int} (h : HasInts w (.slice o l c) xs) : xs.length = l := by
  obtain ⟨_, _, e, _⟩ := h
  injection e with _ e _
  exact e.symm
/-- the arrays of a right list in memory. -/
theorem csrIn_of {w : World} {n m : Nat} {F T W : List Int} {fo uo wo : Option Addr} {fl fc tl tc wl wc : Nat} {zs : List (Int × Int × Int)} (hF : HasInts w (.slice fo fl fc) F) (hT : HasInts w (.slice uo tl tc) T) (hW : HasInts w (.slice wo wl wc) W) (hL : Lens F T W n m) (h1 : firsts n zs = F) (h2 : tos zs = T) (h3 : weights zs = W) (h4 : zs.length = m) : fl = n + 1 ∧ tl = zs.length ∧ wl = zs.length ∧ CsrIn w n zs fo uo wo fc tc wc := by
  have e1 : fl = n + 1 := by rw [← ints_len hF, hL.f]
  have e2 : tl = zs.length := by rw [← ints_len hT, hL.t, h4]
  have e3 : wl = zs.length := by rw [← ints_len hW, hL.w, h4]
  subst e1 e2 e3
  refine ⟨rfl, rfl, rfl, ?_, ?_, ?_⟩
  · rw [h1]; exact hF
  · rw [h2]; exact hT
  · rw [h3]; exact hW
theorem check_any (fo uo wo : Option Addr) (fl fc tl tc wl wc : Nat) (F T W : List Int) (E : Int × List (Int × Int)) (w : World) (hF : HasInts w (.slice fo fl fc) F) (hT : HasInts w (.slice uo tl tc) T) (hW : HasInts w (.slice wo wl wc) W) (hm : F.length ≤ maxLen) (hE : ChkIs F T W E) :
    Calls Tryd.prog 44 #[.agg #[.slice fo fl fc, .slice uo tl tc, .slice wo wl wc]] w fun e w' => ∃ v, e = .returned v ∧ IsTold w' E v ∧ Below w.heap.size w w' := by
  have hfl := ints_len hF
  have htl := ints_len hT
  have hwl := ints_len hW
  rcases hE with ⟨rfl, rfl⟩ | ⟨n, hn, hb, rfl⟩ | ⟨n, m, hL, hl, rfl⟩ | ⟨n, m, hL, hN, hM, ⟨k0, ⟨x, y, hk, hx, hy, hxy, hup⟩, rfl⟩ | ⟨fa, hu, ⟨v0, i0, ⟨g1, g2, g3, g4, g5⟩, rfl⟩ | ⟨hok, rfl⟩⟩⟩
  · obtain rfl : fl = 0 := hfl.symm
    exact (check_len fo uo wo 0 fc tl tc wl wc w 14 fun wx _ => len_a fo uo wo fc tl tc wl wc wx).mono fun e w' ⟨he, hb⟩ => ⟨_, he, told_num w' (by omega), hb⟩
  · obtain rfl : fl = n + 1 := by omega
    obtain ⟨fb, fof, rfl, lf, hc⟩ := hF.cells (by omega)
    obtain ⟨x, hx⟩ : ∃ x, F[0]? = some x := ⟨F[0], List.getElem?_eq_getElem (by omega)⟩
    obtain ⟨y, hy⟩ : ∃ y, F[n]? = some y := ⟨F[n], List.getElem?_eq_getElem (by omega)⟩
    rw [hx, hy] at hb
    refine (check_len _ uo wo (n + 1) fc tl tc wl wc w 14 fun wx hx' => ?_).mono fun e w' ⟨he, hb⟩ => ⟨_, he, told_num w' (by omega), hb⟩
    have c0 : wx.cell? ⟨fb, fof, none⟩ = some (.int .i64 x) := (hx'.cell (p := ⟨fb, fof, none⟩) lf).trans (hc 0 x hx)
    have c1 : wx.cell? ⟨fb, fof + n, none⟩ = some (.int .i64 y) := (hx'.cell (p := ⟨fb, _, none⟩) lf).trans (hc n y hy)
    have lf' : fb < wx.heap.size := Nat.lt_of_lt_of_le lf hx'.size
    have hnm : n < maxLen := by omega
    by_cases hx0 : x = 0
    · subst hx0
      by_cases hyt : y = (tl : Int)
      · subst hyt
        refine len_d fb fof uo wo n fc tl tc wl wc wx c0 c1 lf' hnm ?_
        rcases hb with h | h | h
        · exact absurd rfl h
        · exact absurd (by rw [htl]) h
        · omega
      · exact len_c fb fof uo wo n fc tl tc wl wc y wx c0 c1 lf' hnm hyt
    · exact len_b fb fof uo wo n fc tl tc wl wc x y wx c0 c1 lf' hnm hx0
  · obtain rfl : fl = n + 1 := by rw [← hfl, hL.f]
    obtain rfl : tl = m := by rw [← htl, hL.t]
    obtain rfl : wl = tl := by rw [← hwl, hL.w]
    obtain ⟨fb, fof, rfl, lf, hc⟩ := hF.cells (by omega)
    refine (check_len _ uo wo (n + 1) fc wl tc wl wc w 9 fun wx hx' => ?_).mono fun e w' ⟨he, hb⟩ => ⟨_, he, told_num w' (by omega), hb⟩
    have c0 : wx.cell? ⟨fb, fof, none⟩ = some (.int .i64 0) := (hx'.cell (p := ⟨fb, fof, none⟩) lf).trans (hc 0 0 hL.zero)
    have c1 : wx.cell? ⟨fb, fof + n, none⟩ = some (.int .i64 wl) := (hx'.cell (p := ⟨fb, _, none⟩) lf).trans (hc n wl hL.top)
    have lf' : fb < wx.heap.size := Nat.lt_of_lt_of_le lf hx'.size
    have hnm : n < maxLen := by have := hL.f; omega
    by_cases h65 : (65536 : Int) < (n : Int)
    · exact len_e fb fof uo wo n fc wl tc wc wx c0 c1 lf' hnm h65
    · exact len_g fb fof uo wo n fc wl tc wc wx c0 c1 lf' hnm h65 (by omega)
  · obtain rfl : fl = n + 1 := by rw [← hfl, hL.f]
    obtain rfl : tl = m := by rw [← htl, hL.t]
    obtain rfl : wl = tl := by rw [← hwl, hL.w]
    obtain ⟨fb, fof, rfl, lf, hc⟩ := hF.cells (by omega)
    exact check_falls n wl F fb fof uo wo fc tc wc w hF hL.zero hL.top hN hM k0 hk x y hx hy hxy hup
  · obtain rfl : fl = n + 1 := by rw [← hfl, hL.f]
    obtain rfl : tl = m := by rw [← htl, hL.t]
    obtain rfl : wl = tl := by rw [← hwl, hL.w]
    obtain ⟨fb, fof, rfl, lf, hc⟩ := hF.cells (by omega)
    exact check_arcbad n wl F T W fa fb fof uo wo fc tc wc w hF hT hW hu hN hM v0 i0 g1 g2 g3 g4 g5
  · obtain ⟨zs, hz, h1, h2, h3, h4⟩ := fine_of hL hu hok hN hM
    obtain ⟨rfl, rfl, rfl, hC⟩ := csrIn_of hF hT hW hL h1 h2 h3 h4
    exact (check_good n zs fo uo wo fc tc wc w hz hC).mono fun e w' ⟨he, hb⟩ => ⟨_, he, Or.inl ⟨rfl, rfl⟩, hb⟩
end Go.Proofs.YtnkfggccahohpaaDoor
