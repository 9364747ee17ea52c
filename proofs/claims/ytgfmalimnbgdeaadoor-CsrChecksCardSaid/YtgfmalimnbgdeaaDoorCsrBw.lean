/- Check, Graph, Row and Find and the document's answers, side by side, whatever the arrays: there is one answer, and both give it. The law CsrChecks, walked: whatever the arrays and the nodes it answers true, and nothing old turns. -/
import Derived.Test.YtgfmalimnbgdeaaDoorCsrDd
import Derived.Test.YtgfmalimnbgdeaaDoorCsrRf
import Derived.Test.YtgfmalimnbgdeaaDoorCsrWake
import Derived.Deep.RegionHeld3
namespace Go.Proofs.YtgfmalimnbgdeaaDoor
open Go.RowKit Go.Extern

theorem told_numV (w : World) (no : Int) : IsTold w (no, []) (numV no) := by
  by_cases h : no = 0
  · subst h; exact Or.inl ⟨rfl, rfl⟩
  · exact Or.inr ⟨h, if_neg h⟩
theorem chk_split {F T W : List Int} {E : Int × List (Int × Int)} (h : ChkIs F T W E) : E.2.length ≤ 1 ∧ ((E.1 ≠ 0) ∨ (E = (0, []) ∧ ∃ n m zs, Lens F T W n m ∧ Fine n zs ∧ firsts n zs = F ∧ tos zs = T ∧ weights zs = W ∧ zs.length = m)) := by
  rcases h with ⟨rfl, rfl⟩ | ⟨n, hn, hb, rfl⟩ | ⟨n, m, hL, hl, rfl⟩ | ⟨n, m, hL, hN, hM, ⟨k0, _, rfl⟩ | ⟨fa, hu, ⟨v0, i0, ⟨_, _, _, _, g5⟩, rfl⟩ | ⟨hok, rfl⟩⟩⟩
  · exact ⟨by simp, Or.inl (by simp)⟩
  · exact ⟨by simp, Or.inl (by simp)⟩
  · exact ⟨by simp, Or.inl (by simp)⟩
  · exact ⟨by simp, Or.inl (by simp)⟩
  · exact ⟨by simp, Or.inl g5⟩
  · obtain ⟨zs, hz, h1, h2, h3, h4⟩ := fine_of hL hu hok hN hM
    exact ⟨by simp, Or.inr ⟨rfl, n, m, zs, hL, hz, h1, h2, h3, h4⟩⟩
/-- the arrays lie in memory. -/
structure Arr (w : World) (F T W : List Int) (fo uo wo : Option Addr) (fc tc wc : Nat) : Prop where
  f : HasInts w (.slice fo F.length fc) F
  t : HasInts w (.slice uo T.length tc) T
  w : HasInts w (.slice wo W.length wc) W
theorem Arr.keep {w w' : World} {F T W : List Int} {fo uo wo : Option Addr} {fc tc wc : Nat} (h : Arr w F T W fo uo wo fc tc wc) (hb : Below w.heap.size w w') : Arr w' F T W fo uo wo fc tc wc := ⟨h.f.keep hb, h.t.keep hb, h.w.keep hb⟩
theorem Own3.arr {B : Nat} {w : World} {F T W : List Int} {fo uo wo : Option Addr} {fc tc wc : Nat} (h : Own3 B w F T W (.slice fo F.length fc) (.slice uo T.length tc) (.slice wo W.length wc)) : Arr w F T W fo uo wo fc tc wc := ⟨ints_of_iown h.1, ints_of_iown h.2.1, ints_of_iown h.2.2⟩
/-- the numbers of To: none at all, or in a block with room for them. -/
theorem own_to {B : Nat} {w : World} {T : List Int} {uo : Option Addr} {tc : Nat} (h : w.ownsRow B 3 1 (.slice uo T.length tc) T.length (iv T)) : (uo = none ∧ tc = 0 ∧ T = []) ∨ ∃ g, uo = some ⟨g, 0, none⟩ ∧ T.length ≤ tc := by
  rcases h.2 with ⟨e, h0⟩ | ⟨g, cap, cur, e, _, _, hle, _⟩
  · injection e with e1 _ e3
    exact Or.inl ⟨e1, e3, List.eq_nil_of_length_eq_zero h0⟩
  · injection e with e1 _ e3
    subst e3
    exact Or.inr ⟨g, e1, hle⟩

theorem docCheck_any (fo uo wo : Option Addr) (fl fc tl tc wl wc : Nat) (F T W : List Int) (E : Int × List (Int × Int)) (w : World) (hF : HasInts w (.slice fo fl fc) F) (hT : HasInts w (.slice uo tl tc) T) (hW : HasInts w (.slice wo wl wc) W) (hm : F.length ≤ maxLen) (hE : ChkIs F T W E) :
    Calls Tryd.prog 18 #[.agg #[.slice fo fl fc, .slice uo tl tc, .slice wo wl wc]] w (DocAns w E) := by
  have hfl := ints_len hF
  have htl := ints_len hT
  have hwl := ints_len hW
  rcases hE with ⟨rfl, rfl⟩ | ⟨n, hn, hb, rfl⟩ | ⟨n, m, hL, hl, rfl⟩ | ⟨n, m, hL, hN, hM, ⟨k0, ⟨x, y, hk, hx, hy, hxy, hup⟩, rfl⟩ | ⟨fa, hu, ⟨v0, i0, ⟨g1, g2, g3, g4, g5⟩, rfl⟩ | ⟨hok, rfl⟩⟩⟩
  · obtain rfl : fl = 0 := hfl.symm
    exact dc_a fo uo wo fc tl tc wl wc w
  · obtain rfl : fl = n + 1 := by omega
    obtain ⟨fb, fof, rfl, lf, hc⟩ := hF.cells (by omega)
    obtain ⟨x, hx⟩ : ∃ x, F[0]? = some x := ⟨F[0], List.getElem?_eq_getElem (by omega)⟩
    obtain ⟨y, hy⟩ : ∃ y, F[n]? = some y := ⟨F[n], List.getElem?_eq_getElem (by omega)⟩
    rw [hx, hy] at hb
    have c0 : w.cell? ⟨fb, fof, none⟩ = some (.int .i64 x) := hc 0 x hx
    have c1 : w.cell? ⟨fb, fof + n, none⟩ = some (.int .i64 y) := hc n y hy
    have hnm : n < maxLen := by omega
    by_cases hx0 : x = 0
    · subst hx0
      by_cases hyt : y = (tl : Int)
      · subst hyt
        refine dc_d fb fof uo wo n fc tl tc wl wc w c0 c1 lf hnm ?_
        rcases hb with h | h | h
        · exact absurd rfl h
        · exact absurd (by rw [htl]) h
        · omega
      · exact dc_c fb fof uo wo n fc tl tc wl wc y w c0 c1 lf hnm hyt
    · exact dc_b fb fof uo wo n fc tl tc wl wc x y w c0 c1 lf hnm hx0
  · obtain rfl : fl = n + 1 := by rw [← hfl, hL.f]
    obtain rfl : tl = m := by rw [← htl, hL.t]
    obtain rfl : wl = tl := by rw [← hwl, hL.w]
    obtain ⟨fb, fof, rfl, lf, hc⟩ := hF.cells (by omega)
    have c0 : w.cell? ⟨fb, fof, none⟩ = some (.int .i64 0) := hc 0 0 hL.zero
    have c1 : w.cell? ⟨fb, fof + n, none⟩ = some (.int .i64 wl) := hc n wl hL.top
    have hnm : n < maxLen := by have := hL.f; omega
    by_cases h65 : (65536 : Int) < (n : Int)
    · exact dc_e fb fof uo wo n fc wl tc wc w c0 c1 lf hnm h65
    · exact dc_g fb fof uo wo n fc wl tc wc w c0 c1 lf hnm h65 (by omega)
  · obtain rfl : fl = n + 1 := by rw [← hfl, hL.f]
    obtain rfl : tl = m := by rw [← htl, hL.t]
    obtain rfl : wl = tl := by rw [← hwl, hL.w]
    obtain ⟨fb, fof, rfl, lf, hc⟩ := hF.cells (by omega)
    exact dc_f n wl F fb fof uo wo fc tc wc w hF hL.zero hL.top hN hM k0 hk x y hx hy hxy hup
  · obtain rfl : fl = n + 1 := by rw [← hfl, hL.f]
    obtain rfl : tl = m := by rw [← htl, hL.t]
    obtain rfl : wl = tl := by rw [← hwl, hL.w]
    obtain ⟨fb, fof, rfl, lf, hc⟩ := hF.cells (by omega)
    refine dc_arcs n wl F T W fa fb fof uo wo fc tc wc w hF hT hW hu hN hM i0 _ (fun i v hv h1 h2 h3 => ?_) (fun h => ?_)
    · rcases Nat.lt_or_ge i i0 with h | h
      · exact Or.inl ⟨h, g4 v i hv h1 h2 h⟩
      · obtain rfl : i = i0 := by omega
        obtain rfl : v = v0 := by
          rcases Nat.lt_trichotomy v v0 with h' | h' | h'
          · have := hu.mono (show v + 1 ≤ v0 by omega) (by omega); omega
          · exact h'
          · have := hu.mono (show v0 + 1 ≤ v by omega) (by omega); omega
        exact Or.inr ⟨g5, rfl⟩
    · have := hu.le (show v0 + 1 ≤ n by omega)
      omega
  · obtain rfl : fl = n + 1 := by rw [← hfl, hL.f]
    obtain rfl : tl = m := by rw [← htl, hL.t]
    obtain rfl : wl = tl := by rw [← hwl, hL.w]
    obtain ⟨fb, fof, rfl, lf, hc⟩ := hF.cells (by omega)
    exact dc_arcs n wl F T W fa fb fof uo wo fc tc wc w hF hT hW hu hN hM wl _ (fun i v hv h1 h2 _ => Or.inl ⟨Nat.lt_of_lt_of_le h2 (hu.le (by omega)), hok v i hv h1 h2⟩) (fun _ => rfl)
/-- what the program's Graph, Row and Find answer. -/
def PG (w : World) (N : Int) (l : List (Int × Int × Int)) (E : Int × List (Int × Int)) (e : Ending) (w' : World) : Prop := ∃ lo lc v, e = .returned (.tuple #[.agg #[.int .i64 N, .slice lo l.length lc], v]) ∧ IsTold w' E v ∧ HasArcs w' (.slice lo l.length lc) l ∧ Below w.heap.size w w'
def PR (w : World) (l : List (Int × Int × Int)) (E : Int × List (Int × Int)) (e : Ending) (w' : World) : Prop := ∃ lo lc v, e = .returned (.tuple #[.slice lo l.length lc, v]) ∧ IsTold w' E v ∧ HasArcs w' (.slice lo l.length lc) l ∧ Below w.heap.size w w'
def PF (w : World) (r : Int) (E : Int × List (Int × Int)) (e : Ending) (w' : World) : Prop := ∃ v, e = .returned (.tuple #[.int .i64 r, v]) ∧ IsTold w' E v ∧ Below w.heap.size w w'
theorem arcs_nil (w : World) : HasArcs w (.slice none 0 0) [] := ⟨none, 0, rfl, fun j a hj => by simp at hj⟩
section
variable {F T W : List Int} {E : Int × List (Int × Int)}
theorem check_iface {w : World} {fo uo wo : Option Addr} {fc tc wc : Nat} (hE : ChkIs F T W E) (hm : F.length ≤ maxLen) (hE1 : E.1 ≠ 0) (h : Arr w F T W fo uo wo fc tc wc) : Calls Tryd.prog 16 #[.agg #[.slice fo F.length fc, .slice uo T.length tc, .slice wo W.length wc]] w fun e w' => ∃ Ty x, e = .returned (.iface Ty x) ∧ IsTold w' E (.iface Ty x) ∧ Below w.heap.size w w' := by
  refine (check_any fo uo wo F.length fc T.length tc W.length wc F T W E w h.f h.t h.w hm hE).mono ?_
  rintro e w' ⟨v, rfl, ht, hb⟩
  obtain ⟨Ty, x, rfl⟩ := told_iface ht (fun e => hE1 (by rw [e]))
  exact ⟨Ty, x, rfl, ht, hb⟩
theorem graph_both (hE : ChkIs F T W E) (hm : F.length ≤ maxLen) : ∃ (N : Int) (l : List (Int × Int × Int)), l.length ≤ 262144 ∧
    (∀ w fo uo wo fc tc wc, Arr w F T W fo uo wo fc tc wc → Calls Tryd.prog 19 #[.agg #[.slice fo F.length fc, .slice uo T.length tc, .slice wo W.length wc]] w (PG w N l E)) ∧
    (∀ w fo uo wo fc tc wc, Arr w F T W fo uo wo fc tc wc → Calls Tryd.prog 20 #[.agg #[.slice fo F.length fc, .slice uo T.length tc, .slice wo W.length wc]] w (GAns w N l E)) := by
  have hDC : ∀ w fo uo wo fc tc wc, Arr w F T W fo uo wo fc tc wc → ∀ wx, Below w.heap.size w wx → Calls Tryd.prog 18 #[.agg #[.slice fo F.length fc, .slice uo T.length tc, .slice wo W.length wc]] wx (DocAns wx E) := fun w fo uo wo fc tc wc h wx hx => docCheck_any fo uo wo F.length fc T.length tc W.length wc F T W E wx (h.keep hx).f (h.keep hx).t (h.keep hx).w hm hE
  rcases (chk_split hE).2 with h1 | ⟨rfl, n, m, zs, hL, hz, e1, e2, e3, e4⟩
  · refine ⟨0, [], by simp, fun w fo uo wo fc tc wc h => ?_, fun w fo uo wo fc tc wc h => ?_⟩
    · refine (graph_bad fo uo wo F.length fc T.length tc W.length wc w E (fun wx hx => check_iface hE hm h1 (h.keep hx))).mono ?_
      rintro e w' ⟨Ty, x, rfl, ht, hb⟩
      exact ⟨none, 0, _, rfl, ht, arcs_nil _, hb⟩
    · obtain ⟨C, ps⟩ := E
      exact docGraph_bad fo uo wo F.length fc T.length tc W.length wc w C ps h1 (hDC w fo uo wo fc tc wc h)
  · refine ⟨n, zs, hz.short, fun w fo uo wo fc tc wc h => ?_, fun w fo uo wo fc tc wc h => ?_⟩
    · obtain ⟨f1, f2, f3, hC⟩ := csrIn_of h.f h.t h.w hL e1 e2 e3 e4
      rw [f1, f2, f3]
      refine (graph_good n zs fo uo wo fc tc wc w hz hC).mono ?_
      rintro e w' ⟨lo, lc, rfl, ho, hb⟩
      exact ⟨lo, lc, _, rfl, Or.inl ⟨rfl, rfl⟩, arcs_of_rowC ho, hb⟩
    · have hD := hDC w fo uo wo fc tc wc h
      obtain ⟨f1, f2, f3, hC⟩ := csrIn_of h.f h.t h.w hL e1 e2 e3 e4
      rw [f1, f2, f3] at hD ⊢
      exact docGraph_good fo uo wo (n + 1) fc zs.length tc zs.length wc w n zs hD (fun wx hx => rGraph_calls n zs fo uo wo fc tc wc wx hz (hC.keep hx))
theorem row_both (v : Int) (hE : ChkIs F T W E) (hm : F.length ≤ maxLen) : ∃ (l : List (Int × Int × Int)) (E2 : Int × List (Int × Int)), (l.length ≤ 262144 ∧ E2.2.length ≤ 1) ∧
    (∀ w fo uo wo fc tc wc, Arr w F T W fo uo wo fc tc wc → Calls Tryd.prog 22 #[.agg #[.slice fo F.length fc, .slice uo T.length tc, .slice wo W.length wc], .int .i64 v] w (PR w l E2)) ∧
    (∀ w fo uo wo fc tc wc, Arr w F T W fo uo wo fc tc wc → Calls Tryd.prog 23 #[.agg #[.slice fo F.length fc, .slice uo T.length tc, .slice wo W.length wc], .int .i64 v] w (RAns w l E2)) := by
  have hDC : ∀ w fo uo wo fc tc wc, Arr w F T W fo uo wo fc tc wc → ∀ wx, Below w.heap.size w wx → Calls Tryd.prog 18 #[.agg #[.slice fo F.length fc, .slice uo T.length tc, .slice wo W.length wc]] wx (DocAns wx E) := fun w fo uo wo fc tc wc h wx hx => docCheck_any fo uo wo F.length fc T.length tc W.length wc F T W E wx (h.keep hx).f (h.keep hx).t (h.keep hx).w hm hE
  have hE2 := (chk_split hE).1
  rcases (chk_split hE).2 with h1 | ⟨rfl, n, m, zs, hL, hz, e1, e2, e3, e4⟩
  · refine ⟨[], E, ⟨by simp, hE2⟩, fun w fo uo wo fc tc wc h => ?_, fun w fo uo wo fc tc wc h => ?_⟩
    · refine (row_bad fo uo wo F.length fc T.length tc W.length wc w v E (fun wx hx => check_iface hE hm h1 (h.keep hx))).mono ?_
      rintro e w' ⟨Ty, x, rfl, ht, hb⟩
      exact ⟨none, 0, _, rfl, ht, arcs_nil _, hb⟩
    · obtain ⟨C, ps⟩ := E
      exact docRow_bad fo uo wo F.length fc T.length tc W.length wc w v C ps h1 (hDC w fo uo wo fc tc wc h)
  · by_cases hv : 0 ≤ v ∧ v < (n : Int)
    · obtain ⟨p, rfl⟩ : ∃ p : Nat, v = (p : Int) := ⟨v.toNat, by omega⟩
      refine ⟨theRow zs p, (0, []), ⟨Nat.le_trans (rowOf_len _ _) hz.short, by simp⟩, fun w fo uo wo fc tc wc h => ?_, fun w fo uo wo fc tc wc h => ?_⟩
      · obtain ⟨f1, f2, f3, hC⟩ := csrIn_of h.f h.t h.w hL e1 e2 e3 e4
        rw [f1, f2, f3]
        refine (row_good n zs fo uo wo fc tc wc w hz hC p (by omega)).mono ?_
        rintro e w' ⟨lo, lc, rfl, ho, hb⟩
        exact ⟨lo, lc, _, rfl, Or.inl ⟨rfl, rfl⟩, arcs_of_rowC ho, hb⟩
      · have hD := hDC w fo uo wo fc tc wc h
        obtain ⟨f1, f2, f3, hC⟩ := csrIn_of h.f h.t h.w hL e1 e2 e3 e4
        rw [f1, f2, f3] at hD ⊢
        exact docRow_good fo uo wo n fc zs.length tc zs.length wc w p (theRow zs p) hz.few hv hD (fun wx hx => rRow_calls n zs fo uo wo fc tc wc wx hz (hC.keep hx) p (by omega))
    · refine ⟨[], (7, []), ⟨by simp, by simp⟩, fun w fo uo wo fc tc wc h => ?_, fun w fo uo wo fc tc wc h => ?_⟩
      · obtain ⟨f1, f2, f3, hC⟩ := csrIn_of h.f h.t h.w hL e1 e2 e3 e4
        rw [f1, f2, f3]
        refine (row_node n zs fo uo wo fc tc wc w hz hC v hv).mono ?_
        rintro e w' ⟨rfl, hb⟩
        exact ⟨none, 0, _, rfl, told_num _ (by omega), arcs_nil _, hb⟩
      · have hD := hDC w fo uo wo fc tc wc h
        obtain ⟨f1, f2, f3, hC⟩ := csrIn_of h.f h.t h.w hL e1 e2 e3 e4
        rw [f1, f2, f3] at hD ⊢
        exact docRow_node fo uo wo n fc zs.length tc zs.length wc w v hz.few hv hD
theorem find_both (v u : Int) (hE : ChkIs F T W E) (hm : F.length ≤ maxLen) : ∃ (r : Int) (E2 : Int × List (Int × Int)), E2.2.length ≤ 1 ∧
    (∀ B w fo uo wo fc tc wc, Own3 B w F T W (.slice fo F.length fc) (.slice uo T.length tc) (.slice wo W.length wc) → Calls Tryd.prog 25 #[.agg #[.slice fo F.length fc, .slice uo T.length tc, .slice wo W.length wc], .int .i64 v, .int .i64 u] w (PF w r E2)) ∧
    (∀ w fo uo wo fc tc wc, Arr w F T W fo uo wo fc tc wc → Calls Tryd.prog 26 #[.agg #[.slice fo F.length fc, .slice uo T.length tc, .slice wo W.length wc], .int .i64 v, .int .i64 u] w (FAns w r E2)) := by
  have hDC : ∀ w fo uo wo fc tc wc, Arr w F T W fo uo wo fc tc wc → ∀ wx, Below w.heap.size w wx → Calls Tryd.prog 18 #[.agg #[.slice fo F.length fc, .slice uo T.length tc, .slice wo W.length wc]] wx (DocAns wx E) := fun w fo uo wo fc tc wc h wx hx => docCheck_any fo uo wo F.length fc T.length tc W.length wc F T W E wx (h.keep hx).f (h.keep hx).t (h.keep hx).w hm hE
  have hE2 := (chk_split hE).1
  rcases (chk_split hE).2 with h1 | ⟨rfl, n, m, zs, hL, hz, e1, e2, e3, e4⟩
  · refine ⟨0, E, hE2, fun B w fo uo wo fc tc wc h => ?_, fun w fo uo wo fc tc wc h => ?_⟩
    · refine (find_bad fo uo wo F.length fc T.length tc W.length wc w v u E (fun wx hx => check_iface hE hm h1 (h.arr.keep hx))).mono ?_
      rintro e w' ⟨Ty, x, rfl, ht, hb⟩
      exact ⟨_, rfl, ht, hb⟩
    · obtain ⟨C, ps⟩ := E
      refine docFind_bad fo uo wo F.length fc T.length tc W.length wc w v u C ps h1 (fun wx hx => ?_)
      exact docRow_bad fo uo wo F.length fc T.length tc W.length wc wx v C ps h1 (hDC wx fo uo wo fc tc wc (h.keep hx))
  · have hprog : ∀ r no, FindIs n zs v u r no → ∀ B w fo uo wo fc tc wc, Own3 B w F T W (.slice fo F.length fc) (.slice uo T.length tc) (.slice wo W.length wc) → Calls Tryd.prog 25 #[.agg #[.slice fo F.length fc, .slice uo T.length tc, .slice wo W.length wc], .int .i64 v, .int .i64 u] w (PF w r (no, [])) := fun r no hF B w fo uo wo fc tc wc h => by
      obtain ⟨f1, f2, f3, hC⟩ := csrIn_of h.arr.f h.arr.t h.arr.w hL e1 e2 e3 e4
      rcases own_to h.2.1 with ⟨rfl, rfl, hT0⟩ | ⟨g, rfl, hle⟩
      · have hz0 : zs = [] := List.eq_nil_of_length_eq_zero (by rw [← f2, hT0]; rfl)
        subst hz0
        rw [f1, f2, f3]
        refine (find_none n fo wo fc wc w hz hC v u r no hF).mono ?_
        rintro e w' ⟨rfl, hb⟩
        exact ⟨_, rfl, told_numV _ _, hb⟩
      · rw [f2] at hle
        rw [f1, f2, f3]
        refine (find_good n zs fo wo g 0 fc tc wc w hz hC hle v u r no hF).mono ?_
        rintro e w' ⟨rfl, hb⟩
        exact ⟨_, rfl, told_numV _ _, hb⟩
    by_cases hv : 0 ≤ v ∧ v < (n : Int)
    · obtain ⟨p, rfl⟩ : ∃ p : Nat, v = (p : Int) := ⟨v.toNat, by omega⟩
      have hrow : ∀ w fo uo wo fc tc wc, Arr w F T W fo uo wo fc tc wc → ∀ wx, Below w.heap.size w wx → Calls Tryd.prog 23 #[.agg #[.slice fo (n + 1) fc, .slice uo zs.length tc, .slice wo zs.length wc], .int .i64 p] wx (RAns wx (theRow zs p) (0, [])) := fun w fo uo wo fc tc wc h wx hx => by
        have hD := hDC wx fo uo wo fc tc wc (h.keep hx)
        obtain ⟨f1, f2, f3, hC⟩ := csrIn_of (h.keep hx).f (h.keep hx).t (h.keep hx).w hL e1 e2 e3 e4
        rw [f1, f2, f3] at hD
        exact docRow_good fo uo wo n fc zs.length tc zs.length wc wx p (theRow zs p) hz.few hv hD (fun wy hy => rRow_calls n zs fo uo wo fc tc wc wy hz (hC.keep hy) p (by omega))
      by_cases hu : 0 ≤ u ∧ u < (n : Int)
      · have hgo : ∀ r no, ((∃ k a, (theRow zs p)[k]? = some a ∧ a.2.1 = u ∧ r = a.2.2 ∧ (∀ (j : Nat) b, j < k → (theRow zs p)[j]? = some b → b.2.1 ≠ u) ∧ (no, ([] : List (Int × Int))) = (0, [])) ∨ ((∀ (j : Nat) b, (theRow zs p)[j]? = some b → b.2.1 ≠ u) ∧ r = 0 ∧ (no, ([] : List (Int × Int))) = (16, []))) → ∀ w fo uo wo fc tc wc, Arr w F T W fo uo wo fc tc wc → Calls Tryd.prog 26 #[.agg #[.slice fo F.length fc, .slice uo T.length tc, .slice wo W.length wc], .int .i64 p, .int .i64 u] w (FAns w r (no, [])) := fun r no hh w fo uo wo fc tc wc h => by
          obtain ⟨f1, f2, f3, hC⟩ := csrIn_of h.f h.t h.w hL e1 e2 e3 e4
          rw [f1, f2, f3]
          exact docFind_go fo uo wo n fc zs.length tc zs.length wc w p u (theRow zs p) hz.few (Nat.le_trans (rowOf_len _ _) hz.short) hu r (no, []) hh (hrow w fo uo wo fc tc wc h)
        rcases first_ex (fun k => ∃ a, (theRow zs p)[k]? = some a ∧ a.2.1 = u) (theRow zs p).length with ⟨k, hk, ⟨a, ha, hau⟩, hfirst⟩ | hno
        · have hmem := (hz.mem_row p a).1 (List.mem_of_getElem? ha)
          have hF : FindIs n zs p u a.2.2 0 := Or.inr ⟨⟨hv, hu⟩, Or.inl ⟨rfl, by
            obtain ⟨a0, a1, a2⟩ := a
            obtain ⟨m1, m2⟩ := hmem
            simp only at m2 hau
            subst m2 hau
            exact m1⟩⟩
          exact ⟨a.2.2, (0, []), by simp, hprog _ _ hF, hgo _ _ (Or.inl ⟨k, a, ha, hau, rfl, (fun j b hj hb hbu => hfirst j hj ⟨b, hb, hbu⟩), rfl⟩)⟩
        · have hF : FindIs n zs p u 0 16 := Or.inr ⟨⟨hv, hu⟩, Or.inr ⟨rfl, rfl, fun a ha ⟨h1, h2⟩ => by
            obtain ⟨j, hj⟩ := List.getElem?_of_mem ((hz.mem_row p a).2 ⟨ha, h1⟩)
            exact hno j (List.getElem?_eq_some_iff.1 hj).1 ⟨a, hj, h2⟩⟩⟩
          exact ⟨0, (16, []), by simp, hprog _ _ hF, hgo _ _ (Or.inr ⟨(fun j b hb hbu => hno j (List.getElem?_eq_some_iff.1 hb).1 ⟨b, hb, hbu⟩), rfl, rfl⟩)⟩
      · refine ⟨0, (7, []), by simp, hprog _ _ (Or.inl ⟨rfl, rfl, fun h => hu h.2⟩), fun w fo uo wo fc tc wc h => ?_⟩
        obtain ⟨f1, f2, f3, hC⟩ := csrIn_of h.f h.t h.w hL e1 e2 e3 e4
        rw [f1, f2, f3]
        exact docFind_node fo uo wo n fc zs.length tc zs.length wc w p u (theRow zs p) hz.few hu (hrow w fo uo wo fc tc wc h)
    · refine ⟨0, (7, []), by simp, hprog _ _ (Or.inl ⟨rfl, rfl, fun h => hv h.1⟩), fun w fo uo wo fc tc wc h => ?_⟩
      obtain ⟨f1, f2, f3, hC⟩ := csrIn_of h.f h.t h.w hL e1 e2 e3 e4
      rw [f1, f2, f3]
      refine docFind_bad fo uo wo (n + 1) fc zs.length tc zs.length wc w v u 7 [] (by omega) (fun wx hx => ?_)
      have hD := hDC wx fo uo wo fc tc wc (h.keep hx)
      rw [f1, f2, f3] at hD
      exact docRow_node fo uo wo n fc zs.length tc zs.length wc wx v hz.few hv hD
end
end Go.Proofs.YtgfmalimnbgdeaaDoor

namespace Go.Proofs.YtgfmalimnbgdeaaDoor
open Go.RowKit Go.Extern

attribute [local go_sem] Oper.semAt_some

theorem lay2_arcs {W : World} {b : Nat} {c0 c1 x y : Value} {T : TypeId} {v : Value} {l : List (Int × Int × Int)} (h : HasArcs W v l) (hb : W.heap[b]? = some (.cells #[x, y] T)) : HasArcs (lay2 W b c0 c1) v l := by
  obtain ⟨ao, cap, e, hc⟩ := h
  refine ⟨ao, cap, e, fun j p hj => ?_⟩
  obtain ⟨g, off, ea, hl, q0, q1, q2⟩ := hc j p hj
  have n2 : g ≠ b := fun e => by
    subst e
    simp [World.cell?, hb] at q2
  have hk := lay2_far (W := W) (c0 := c0) (c1 := c1) n2
  exact ⟨g, off, ea, by rw [lay2_size]; exact hl, (World.cell?_of_block (a := ⟨g, _, none⟩) hk).trans q0, (World.cell?_of_block (a := ⟨g, _, none⟩) hk).trans q1, (World.cell?_of_block (a := ⟨g, _, none⟩) hk).trans q2⟩

set_option maxRecDepth 100000 in
set_option maxHeartbeats 8000000 in
theorem checks_calls (fo uo wo : Option Addr) (fc tc wc : Nat) (F T W : List Int) (v u : Int) (w : World) (hA : Arr w F T W fo uo wo fc tc wc) (mF : F.length * 8 ≤ 140737488351232) (mT : T.length * 8 ≤ 140737488351232) (mW : W.length * 8 ≤ 140737488351232) (hg : HasType w) :
    Calls Tryd.prog 4 #[.agg #[.slice fo F.length fc, .slice uo T.length tc, .slice wo W.length wc], .int .i64 v, .int .i64 u] w fun e w' => e = .returned (.bool true) ∧ Below w.heap.size w w' := by
  obtain ⟨⟨EC, ps⟩, hE⟩ := chk_total F T W
  have hmF : F.length ≤ maxLen := by unfold maxLen; omega
  have hps := (chk_split hE).1
  obtain ⟨N, l, hl, hPG, hDG⟩ := graph_both hE hmF
  obtain ⟨l2, ⟨C2, ps2⟩, ⟨hl2, hps2⟩, hPR, hDR⟩ := row_both v hE hmF
  obtain ⟨r, ⟨C3, ps3⟩, hps3, hPF, hDF⟩ := find_both v u hE hmF
  have HTO : Hid (∀ wx, Arr wx F T W fo uo wo fc tc wc → Calls Tryd.prog 17 #[.agg #[.slice fo F.length fc, .slice uo T.length tc, .slice wo W.length wc]] wx (TwAns wx F T W)) := fun wx h => to_calls fo uo wo fc tc wc F T W wx h.f h.t h.w mF mT mW
  have HCK : Hid (∀ wx fo uo wo fc tc wc, Arr wx F T W fo uo wo fc tc wc → Calls Tryd.prog 16 #[.agg #[.slice fo F.length fc, .slice uo T.length tc, .slice wo W.length wc]] wx fun e w' => ∃ v, e = .returned v ∧ IsTold w' (EC, ps) v ∧ Below wx.heap.size wx w') := fun wx fo uo wo fc tc wc h => check_any fo uo wo F.length fc T.length tc W.length wc F T W _ wx h.f h.t h.w hmF hE
  have HDK : Hid (∀ wx, Arr wx F T W fo uo wo fc tc wc → Calls Tryd.prog 18 #[.agg #[.slice fo F.length fc, .slice uo T.length tc, .slice wo W.length wc]] wx (DocAns wx (EC, ps))) := fun wx h => docCheck_any fo uo wo F.length fc T.length tc W.length wc F T W _ wx h.f h.t h.w hmF hE
  have HPG : Hid (type_of% hPG) := hPG
  have HDG : Hid (type_of% hDG) := hDG
  have HPR : Hid (type_of% hPR) := hPR
  have HDR : Hid (type_of% hDR) := hDR
  have HPF : Hid (type_of% hPF) := hPF
  have HDF : Hid (type_of% hDF) := hDF
  have HSN : Hid (∀ (wx : World) (C : Int) (qs : List (Int × Int)) (x : Value) (lo : Option Addr) (cap : Nat), IsTold wx (C, qs) x → HasPlaces wx (.slice lo qs.length cap) qs → qs.length ≤ 1 → HasType wx → Calls Tryd.prog 13 #[x, .agg #[.int .i64 C, .slice lo qs.length cap]] wx fun e w' => e = .returned (.bool true) ∧ Below wx.heap.size wx w') := fun wx C qs x lo cap h1 h2 h3 h4 => seen_told (C, qs) x lo cap wx h1 h2 (by unfold maxLen; simp only; omega) h4
  have HLE : Hid ((ps.length ≤ 1 ∧ ps2.length ≤ 1 ∧ ps3.length ≤ 1) ∧ l.length ≤ maxLen ∧ l2.length ≤ maxLen) := ⟨⟨hps, hps2, hps3⟩, by unfold maxLen; omega, by unfold maxLen; omega⟩
  have HB0 : Hid (Below w.heap.size w (w.alloc (.cells #[.slice fo F.length fc, .slice uo T.length tc, .slice wo W.length wc] 34))) := below1 _ _
  have HN0 : Hid ((w.alloc (.cells #[.slice fo F.length fc, .slice uo T.length tc, .slice wo W.length wc] 34)).heap[w.heap.size]? = some (.cells #[.slice fo F.length fc, .slice uo T.length tc, .slice wo W.length wc] 34)) := heap_new _ _
  have HAR : Hid (Arr w F T W fo uo wo fc tc wc ∧ HasType w) := ⟨hA, hg⟩
  clear hE hmF hps hl hPG hDG hl2 hps2 hPR hDR hps3 hPF hDF mF mT mW hA hg
  go_enter Tryd.func4, Tryd.ntmps4
  go_wp2_with fail
  generalize w.alloc (.cells #[.slice fo F.length fc, .slice uo T.length tc, .slice wo W.length wc] 34) = W0 at *
  have HK : Hid (∀ wx, Below W0.heap.size W0 wx → ((wx.cell? ⟨w.heap.size, 0, none⟩ = some (.slice fo F.length fc) ∧ wx.cell? ⟨w.heap.size, 1, none⟩ = some (.slice uo T.length tc) ∧ wx.cell? ⟨w.heap.size, 2, none⟩ = some (.slice wo W.length wc)) ∧ w.heap.size < wx.heap.size) ∧ Arr wx F T W fo uo wo fc tc wc ∧ Below w.heap.size w wx ∧ HasType wx) := fun wx h => by
    have g := (h.block _ (lt_of_get HN0.out)).trans HN0.out
    have hb := btr HB0.out h
    exact ⟨⟨box3 g, lt_of_get g⟩, HAR.out.1.keep hb, hb, HAR.out.2.keep hb HAR.out.2.pos⟩
  clear HN0 HB0 HAR
  refine (awake_calls W0).mono ?_
  rintro e w1 ⟨rfl, h⟩
  have R1 : Hid (Below W0.heap.size W0 w1) := h
  clear h
  obtain ⟨⟨⟨c0, c1, c2⟩, cs⟩, _⟩ := HK.out w1 R1.out
  go_wp2_with fail
  go_region_held3 (fun w' => w'.cell? ⟨w.heap.size, 0, none⟩ = some (.slice fo F.length fc) ∧ w'.cell? ⟨w.heap.size, 1, none⟩ = some (.slice uo T.length tc) ∧ w'.cell? ⟨w.heap.size, 2, none⟩ = some (.slice wo W.length wc)) (go_keep) (first
    | (go_at_call 13; refine (HSN.out _ EC ps v2 po pc Y3.out.2.1 Y3.out.2.2 HLE.out.1.1 (HK.out _ Y3.out.1).2.2.2).mono ?_; rintro e y4 ⟨rfl, hy⟩; have Y4 : Hid (Below W0.heap.size W0 y4) := btr Y3.out.1 hy; clear hy; obtain ⟨⟨⟨s0, s1, s2⟩, ss⟩, _⟩ := HK.out y4 Y4.out)
    | (go_at_call 18; refine (HDK.out _ (HK.out _ Y2.out.1).2.1).mono ?_; rintro e y3 ⟨po, pc, rfl, hp, hy⟩; have Y3 : Hid (Below W0.heap.size W0 y3 ∧ IsTold y3 (EC, ps) v2 ∧ HasPlaces y3 (.slice po ps.length pc) ps) := ⟨btr Y2.out.1 hy, Y2.out.2.keep (Below.keeps hy), hp⟩; clear hy hp; obtain ⟨⟨⟨r0, r1, r2⟩, rs⟩, _⟩ := HK.out y3 Y3.out.1)
    | (go_at_call 16; refine (HCK.out _ fo1 uo1 wo1 fc1 tc1 wc1 Y1.out.2.arr).mono ?_; rintro e y2 ⟨v2, rfl, ht, hy⟩; have Y2 : Hid (Below W0.heap.size W0 y2 ∧ IsTold y2 (EC, ps) v2) := ⟨btr Y1.out.1 hy, ht⟩; clear hy ht; obtain ⟨⟨⟨q0, q1, q2⟩, qs⟩, _⟩ := HK.out y2 Y2.out.1)
    | (go_at_call 17; refine (HTO.out _ (HK.out _ R1.out.drew).2.1).mono ?_; rintro e y1 ⟨fo1, fc1, uo1, tc1, wo1, wc1, rfl, ho, hy⟩; have Y1 : Hid (Below W0.heap.size W0 y1 ∧ Own3 w1.heap.size y1 F T W (.slice fo1 F.length fc1) (.slice uo1 T.length tc1) (.slice wo1 W.length wc1)) := ⟨R1.out.drew.trans (hy.mono R1.out.size), ho⟩; clear hy ho; obtain ⟨⟨⟨p0, p1, p2⟩, pz⟩, _⟩ := HK.out y1 Y1.out.1))
  clear c0 c1 c2 cs p0 p1 p2 pz q0 q1 q2 qs r0 r1 r2 rs
  go_wp2_with fail
  refine (HTO.out y4 (HK.out y4 Y4.out).2.1).mono ?_
  rintro e w5 ⟨fo5, fc5, uo5, tc5, wo5, wc5, rfl, ho, hy⟩
  have R5 : Hid (Below W0.heap.size W0 w5 ∧ Arr w5 F T W fo5 uo5 wo5 fc5 tc5 wc5) := ⟨btr Y4.out hy, ho.arr⟩
  clear hy ho s0 s1 s2 ss
  go_wp2_with fail
  refine (HPG.out w5 fo5 uo5 wo5 fc5 tc5 wc5 R5.out.2).mono ?_
  rintro e w6 ⟨lo6, lc6, v6, rfl, ht, ha, hy⟩
  have R6 : Hid (Below W0.heap.size W0 w6 ∧ IsTold w6 (EC, ps) v6 ∧ HasArcs w6 (.slice lo6 l.length lc6) l) := ⟨btr R5.out.1 hy, ht, ha⟩
  clear hy ht ha
  obtain ⟨⟨⟨c0, c1, c2⟩, cs⟩, _⟩ := HK.out w6 R6.out.1
  go_wp2_with fail
  have HL6 := below1 w6 (.cells #[.int .i64 N, .slice lo6 l.length lc6] 24)
  have HN6 := heap_new w6 (.cells #[.int .i64 N, .slice lo6 l.length lc6] 24)
  generalize w6.alloc (.cells #[.int .i64 N, .slice lo6 l.length lc6] 24) = W6 at *
  have R7 : Hid (Below W0.heap.size W0 W6 ∧ IsTold W6 (EC, ps) v6 ∧ HasArcs W6 (.slice lo6 l.length lc6) l ∧ W6.heap[w6.heap.size]? = some (.cells #[.int .i64 N, .slice lo6 l.length lc6] 24)) := ⟨btr R6.out.1 HL6, R6.out.2.1.keep (Below.keeps HL6), R6.out.2.2.keep HL6, HN6⟩
  clear HL6 HN6 c0 c1 c2 cs
  generalize w6.heap.size = bg at *
  refine (HDG.out W6 fo uo wo fc tc wc (HK.out W6 R7.out.1).2.1).mono ?_
  rintro e w7 ⟨lo7, lc7, po7, pc7, rfl, ho, hp, hy⟩
  simp only at hp
  have R8 : Hid (Below W0.heap.size W0 w7 ∧ IsTold w7 (EC, ps) v6 ∧ HasArcs w7 (.slice lo6 l.length lc6) l ∧ w7.heap[bg]? = some (.cells #[.int .i64 N, .slice lo6 l.length lc6] 24) ∧ HasArcs w7 (.slice lo7 l.length lc7) l ∧ HasPlaces w7 (.slice po7 ps.length pc7) ps) := ⟨btr R7.out.1 hy, R7.out.2.1.keep (Below.keeps hy), R7.out.2.2.1.keep hy, (hy.block _ (lt_of_get R7.out.2.2.2)).trans R7.out.2.2.2, arcs_of_rowC ho, hp⟩
  clear hy ho hp
  obtain ⟨g0, g1, _, _⟩ := cell_two R8.out.2.2.2.1
  have gs := lt_of_get R8.out.2.2.2.1
  go_wp2_with fail
  have HL7 : Below w7.heap.size w7 ((w7.alloc (.cells #[.int .i64 N, .slice lo7 l.length lc7] 24)).alloc (.cells #[.int .i64 EC, .slice po7 ps.length pc7] 37)) := (below1 _ _).alloc (by simp) _
  have HN7 : ((w7.alloc (.cells #[.int .i64 N, .slice lo7 l.length lc7] 24)).alloc (.cells #[.int .i64 EC, .slice po7 ps.length pc7] 37)).heap[w7.heap.size + 1]? = some (.cells #[.int .i64 EC, .slice po7 ps.length pc7] 37) := by
    have h := heap_new (w7.alloc (.cells #[.int .i64 N, .slice lo7 l.length lc7] 24)) (.cells #[.int .i64 EC, .slice po7 ps.length pc7] 37)
    simpa using h
  generalize (w7.alloc (.cells #[.int .i64 N, .slice lo7 l.length lc7] 24)).alloc (.cells #[.int .i64 EC, .slice po7 ps.length pc7] 37) = W7 at *
  have R9 : Hid (Below W0.heap.size W0 W7 ∧ IsTold W7 (EC, ps) v6 ∧ HasArcs W7 (.slice lo6 l.length lc6) l ∧ HasArcs W7 (.slice lo7 l.length lc7) l ∧ HasPlaces W7 (.slice po7 ps.length pc7) ps ∧ W7.heap[w7.heap.size + 1]? = some (.cells #[.int .i64 EC, .slice po7 ps.length pc7] 37) ∧ W0.heap.size ≤ w7.heap.size + 1) := ⟨btr R8.out.1 HL7, R8.out.2.1.keep (Below.keeps HL7), R8.out.2.2.1.keep HL7, R8.out.2.2.2.2.1.keep HL7, R8.out.2.2.2.2.2.keep HL7, HN7, by have := R8.out.1.size; omega⟩
  clear HL7 HN7 g0 g1 gs
  generalize w7.heap.size + 1 = bf at *
  refine (same_yes N lo6 lo7 l.length l.length lc6 lc7 l W7 R9.out.2.2.1 R9.out.2.2.2.1 HLE.out.2.1).mono ?_
  rintro e w8 ⟨rfl, hy⟩
  have R10 : Hid (Below W0.heap.size W0 w8 ∧ IsTold w8 (EC, ps) v6 ∧ HasPlaces w8 (.slice po7 ps.length pc7) ps ∧ w8.heap[bf]? = some (.cells #[.int .i64 EC, .slice po7 ps.length pc7] 37) ∧ W0.heap.size ≤ bf) := ⟨btr R9.out.1 hy, R9.out.2.1.keep (Below.keeps hy), R9.out.2.2.2.2.1.keep hy, (hy.block _ (lt_of_get R9.out.2.2.2.2.2.1)).trans R9.out.2.2.2.2.2.1, R9.out.2.2.2.2.2.2⟩
  clear hy
  obtain ⟨e0, e1, _, _⟩ := cell_two R10.out.2.2.2.1
  have es := lt_of_get R10.out.2.2.2.1
  go_wp2_with fail
  refine (HSN.out w8 EC ps v6 po7 pc7 R10.out.2.1 R10.out.2.2.1 HLE.out.1.1 (HK.out w8 R10.out.1).2.2.2).mono ?_
  rintro e w9 ⟨rfl, hy⟩
  have R11 : Hid (Below W0.heap.size W0 w9 ∧ w9.heap[bf]? = some (.cells #[.int .i64 EC, .slice po7 ps.length pc7] 37) ∧ W0.heap.size ≤ bf) := ⟨btr R10.out.1 hy, (hy.block _ (lt_of_get R10.out.2.2.2.1)).trans R10.out.2.2.2.1, R10.out.2.2.2.2⟩
  clear hy e0 e1 es
  obtain ⟨⟨⟨c0, c1, c2⟩, cs⟩, _⟩ := HK.out w9 R11.out.1
  go_wp2_with fail
  refine (HTO.out w9 (HK.out w9 R11.out.1).2.1).mono ?_
  rintro e w10 ⟨foa, fca, uoa, tca, woa, wca, rfl, ho, hy⟩
  have R12 : Hid (Below W0.heap.size W0 w10 ∧ Arr w10 F T W foa uoa woa fca tca wca ∧ w10.heap[bf]? = some (.cells #[.int .i64 EC, .slice po7 ps.length pc7] 37)) := ⟨btr R11.out.1 hy, ho.arr, (hy.block _ (lt_of_get R11.out.2.1)).trans R11.out.2.1⟩
  clear hy ho c0 c1 c2 cs
  go_wp2_with fail
  refine (HPR.out w10 foa uoa woa fca tca wca R12.out.2.1).mono ?_
  rintro e w11 ⟨lob, lcb, v11, rfl, ht, ha, hy⟩
  have R13 : Hid (Below W0.heap.size W0 w11 ∧ IsTold w11 (C2, ps2) v11 ∧ HasArcs w11 (.slice lob l2.length lcb) l2 ∧ w11.heap[bf]? = some (.cells #[.int .i64 EC, .slice po7 ps.length pc7] 37)) := ⟨btr R12.out.1 hy, ht, ha, (hy.block _ (lt_of_get R12.out.2.2)).trans R12.out.2.2⟩
  clear hy ht ha
  obtain ⟨⟨⟨c0, c1, c2⟩, cs⟩, _⟩ := HK.out w11 R13.out.1
  go_wp2_with fail
  refine (HDR.out w11 fo uo wo fc tc wc (HK.out w11 R13.out.1).2.1).mono ?_
  rintro e w12 ⟨loc, lcc, poc, pcc, rfl, ho, hp, hy⟩
  simp only at hp
  have R14 : Hid (Below W0.heap.size W0 w12 ∧ IsTold w12 (C2, ps2) v11 ∧ HasArcs w12 (.slice lob l2.length lcb) l2 ∧ w12.heap[bf]? = some (.cells #[.int .i64 EC, .slice po7 ps.length pc7] 37) ∧ HasArcs w12 (.slice loc l2.length lcc) l2 ∧ HasPlaces w12 (.slice poc ps2.length pcc) ps2) := ⟨btr R13.out.1 hy, R13.out.2.1.keep (Below.keeps hy), R13.out.2.2.1.keep hy, (hy.block _ (lt_of_get R13.out.2.2.2)).trans R13.out.2.2.2, arcs_of_rowC ho, hp⟩
  clear hy ho hp c0 c1 c2 cs
  obtain ⟨e0, e1, z0, z1⟩ := cell_two R14.out.2.2.2.1
  have es := lt_of_get R14.out.2.2.2.1
  go_wp2_with fail
  rw [show (w12.setCell ⟨bf, 0, none⟩ (.int .i64 C2)).setCell ⟨bf, 1, none⟩ (.slice poc ps2.length pcc) = lay2 w12 bf (.int .i64 C2) (.slice poc ps2.length pcc) from rfl]
  have R15 : Hid (Below W0.heap.size W0 (lay2 w12 bf (.int .i64 C2) (.slice poc ps2.length pcc)) ∧ IsTold (lay2 w12 bf (.int .i64 C2) (.slice poc ps2.length pcc)) (C2, ps2) v11 ∧ HasArcs (lay2 w12 bf (.int .i64 C2) (.slice poc ps2.length pcc)) (.slice lob l2.length lcb) l2 ∧ HasArcs (lay2 w12 bf (.int .i64 C2) (.slice poc ps2.length pcc)) (.slice loc l2.length lcc) l2 ∧ HasPlaces (lay2 w12 bf (.int .i64 C2) (.slice poc ps2.length pcc)) (.slice poc ps2.length pcc) ps2 ∧ (lay2 w12 bf (.int .i64 C2) (.slice poc ps2.length pcc)).heap[bf]? = some (.cells #[.int .i64 C2, .slice poc ps2.length pcc] 37)) :=
    ⟨lay2_below R14.out.1 R11.out.2.2, R14.out.2.1.keep (keeps_box R14.out.2.2.2.1 (by decide) (fun _ hg => lay2_far hg)), lay2_arcs R14.out.2.2.1 R14.out.2.2.2.1, lay2_arcs R14.out.2.2.2.2.1 R14.out.2.2.2.1, lay2_places R14.out.2.2.2.2.2 R14.out.2.2.2.1, lay2_box R14.out.2.2.2.1⟩
  generalize lay2 w12 bf (.int .i64 C2) (.slice poc ps2.length pcc) = W12 at *
  clear e0 e1 z0 z1 es
  refine (sameArcs_yes (.slice lob l2.length lcb) (.slice loc l2.length lcc) l2 W12 R15.out.2.2.1 R15.out.2.2.2.1 HLE.out.2.2).mono ?_
  rintro e w13 ⟨rfl, hy⟩
  have R16 : Hid (Below W0.heap.size W0 w13 ∧ IsTold w13 (C2, ps2) v11 ∧ HasPlaces w13 (.slice poc ps2.length pcc) ps2 ∧ w13.heap[bf]? = some (.cells #[.int .i64 C2, .slice poc ps2.length pcc] 37)) := ⟨btr R15.out.1 hy, R15.out.2.1.keep (Below.keeps hy), R15.out.2.2.2.2.1.keep hy, (hy.block _ (lt_of_get R15.out.2.2.2.2.2)).trans R15.out.2.2.2.2.2⟩
  clear hy
  obtain ⟨e0, e1, _, _⟩ := cell_two R16.out.2.2.2
  have es := lt_of_get R16.out.2.2.2
  go_wp2_with fail
  refine (HSN.out w13 C2 ps2 v11 poc pcc R16.out.2.1 R16.out.2.2.1 HLE.out.1.2.1 (HK.out w13 R16.out.1).2.2.2).mono ?_
  rintro e w14 ⟨rfl, hy⟩
  have R17 : Hid (Below W0.heap.size W0 w14 ∧ w14.heap[bf]? = some (.cells #[.int .i64 C2, .slice poc ps2.length pcc] 37)) := ⟨btr R16.out.1 hy, (hy.block _ (lt_of_get R16.out.2.2.2)).trans R16.out.2.2.2⟩
  clear hy e0 e1 es
  obtain ⟨⟨⟨c0, c1, c2⟩, cs⟩, _⟩ := HK.out w14 R17.out.1
  go_wp2_with fail
  refine (HTO.out w14 (HK.out w14 R17.out.1).2.1).mono ?_
  rintro e w15 ⟨fod, fcd, uod, tcd, wod, wcd, rfl, ho, hy⟩
  have R18 : Hid (Below W0.heap.size W0 w15 ∧ Own3 w14.heap.size w15 F T W (.slice fod F.length fcd) (.slice uod T.length tcd) (.slice wod W.length wcd) ∧ w15.heap[bf]? = some (.cells #[.int .i64 C2, .slice poc ps2.length pcc] 37)) := ⟨btr R17.out.1 hy, ho, (hy.block _ (lt_of_get R17.out.2)).trans R17.out.2⟩
  clear hy ho c0 c1 c2 cs
  go_wp2_with fail
  refine (HPF.out w14.heap.size w15 fod uod wod fcd tcd wcd R18.out.2.1).mono ?_
  rintro e w16 ⟨v16, rfl, ht, hy⟩
  have R19 : Hid (Below W0.heap.size W0 w16 ∧ IsTold w16 (C3, ps3) v16 ∧ w16.heap[bf]? = some (.cells #[.int .i64 C2, .slice poc ps2.length pcc] 37)) := ⟨btr R18.out.1 hy, ht, (hy.block _ (lt_of_get R18.out.2.2)).trans R18.out.2.2⟩
  clear hy ht
  obtain ⟨⟨⟨c0, c1, c2⟩, cs⟩, _⟩ := HK.out w16 R19.out.1
  go_wp2_with fail
  refine (HDF.out w16 fo uo wo fc tc wc (HK.out w16 R19.out.1).2.1).mono ?_
  rintro e w17 ⟨poe, pce, rfl, hp, hy⟩
  simp only at hp
  have R20 : Hid (Below W0.heap.size W0 w17 ∧ IsTold w17 (C3, ps3) v16 ∧ w17.heap[bf]? = some (.cells #[.int .i64 C2, .slice poc ps2.length pcc] 37) ∧ HasPlaces w17 (.slice poe ps3.length pce) ps3) := ⟨btr R19.out.1 hy, R19.out.2.1.keep (Below.keeps hy), (hy.block _ (lt_of_get R19.out.2.2)).trans R19.out.2.2, hp⟩
  clear hy hp c0 c1 c2 cs
  obtain ⟨e0, e1, z0, z1⟩ := cell_two R20.out.2.2.1
  have es := lt_of_get R20.out.2.2.1
  go_wp2_with fail
  rw [show (w17.setCell ⟨bf, 0, none⟩ (.int .i64 C3)).setCell ⟨bf, 1, none⟩ (.slice poe ps3.length pce) = lay2 w17 bf (.int .i64 C3) (.slice poe ps3.length pce) from rfl]
  have R21 : Hid (Below W0.heap.size W0 (lay2 w17 bf (.int .i64 C3) (.slice poe ps3.length pce)) ∧ IsTold (lay2 w17 bf (.int .i64 C3) (.slice poe ps3.length pce)) (C3, ps3) v16 ∧ HasPlaces (lay2 w17 bf (.int .i64 C3) (.slice poe ps3.length pce)) (.slice poe ps3.length pce) ps3) :=
    ⟨lay2_below R20.out.1 R11.out.2.2, R20.out.2.1.keep (keeps_box R20.out.2.2.1 (by decide) (fun _ hg => lay2_far hg)), lay2_places R20.out.2.2.2 R20.out.2.2.1⟩
  generalize lay2 w17 bf (.int .i64 C3) (.slice poe ps3.length pce) = W17 at *
  clear e0 e1 z0 z1 es
  refine (HSN.out W17 C3 ps3 v16 poe pce R21.out.2.1 R21.out.2.2 HLE.out.1.2.2 (HK.out W17 R21.out.1).2.2.2).mono ?_
  rintro e w18 ⟨rfl, hy⟩
  have R22 : Hid (Below w.heap.size w w18) := (HK.out w18 (btr R21.out.1 hy)).2.2.1
  clear hy
  go_wp2
  go_ret
  exact ⟨rfl, R22.out⟩
end Go.Proofs.YtgfmalimnbgdeaaDoor
