/- csr's Build, Graph and Row and the document's answers, whatever the graph: there is one answer, and both give it, in memory of their own. -/
import Derived.Test.YtgfmalimnbgdeaaCsrDd
import Derived.Test.YtgfmalimnbgdeaaCsrDv
import Derived.Test.YtgfmalimnbgdeaaDocBv
import Derived.Test.YtgfmalimnbgdeaaCsrBk
namespace Go.Proofs.Ytgfmalimnbgdeaa
open Go.RowKit Go.Extern

theorem chk_split {F T W : List Int} {E : Int × List (Int × Int)} (h : ChkIs F T W E) : E.2.length ≤ 1 ∧ ((E.1 ≠ 0) ∨ (E = (0, []) ∧ ∃ n m zs, Lens F T W n m ∧ Fine n zs ∧ firsts n zs = F ∧ tos zs = T ∧ weights zs = W ∧ zs.length = m)) := by
  rcases h with ⟨rfl, rfl⟩ | ⟨n, hn, hb, rfl⟩ | ⟨n, m, hL, hl, rfl⟩ | ⟨n, m, hL, hN, hM, ⟨k0, _, rfl⟩ | ⟨fa, hu, ⟨v0, i0, ⟨_, _, _, _, g5⟩, rfl⟩ | ⟨hok, rfl⟩⟩⟩
  · exact ⟨by simp, Or.inl (by simp)⟩
  · exact ⟨by simp, Or.inl (by simp)⟩
  · exact ⟨by simp, Or.inl (by simp)⟩
  · exact ⟨by simp, Or.inl (by simp)⟩
  · exact ⟨by simp, Or.inl g5⟩
  · obtain ⟨zs, hz, h1, h2, h3, h4⟩ := fine_of hL hu hok hN hM
    exact ⟨by simp, Or.inr ⟨rfl, n, m, zs, hL, hz, h1, h2, h3, h4⟩⟩
/-- the arrays lie in memory. -/
structure Arr (w : World) (F T W : List Int) (fo uo wo : Option Addr) (fc tc wc : Nat) : Prop where
  f : HasInts w (.slice fo F.length fc) F
  t : HasInts w (.slice uo T.length tc) T
  w : HasInts w (.slice wo W.length wc) W
theorem Arr.keep {w w' : World} {F T W : List Int} {fo uo wo : Option Addr} {fc tc wc : Nat} (h : Arr w F T W fo uo wo fc tc wc) (hb : Below w.heap.size w w') : Arr w' F T W fo uo wo fc tc wc := ⟨h.f.keep hb, h.t.keep hb, h.w.keep hb⟩
theorem docCheck_any (fo uo wo : Option Addr) (fl fc tl tc wl wc : Nat) (F T W : List Int) (E : Int × List (Int × Int)) (w : World) (hF : HasInts w (.slice fo fl fc) F) (hT : HasInts w (.slice uo tl tc) T) (hW : HasInts w (.slice wo wl wc) W) (hm : F.length ≤ maxLen) (hE : ChkIs F T W E) :
    Calls Try.prog 42 #[.agg #[.slice fo fl fc, .slice uo tl tc, .slice wo wl wc]] w (DocAns w E) := by
  have hfl := ints_len hF
  have htl := ints_len hT
  have hwl := ints_len hW
  rcases hE with ⟨rfl, rfl⟩ | ⟨n, hn, hb, rfl⟩ | ⟨n, m, hL, hl, rfl⟩ | ⟨n, m, hL, hN, hM, ⟨k0, ⟨x, y, hk, hx, hy, hxy, hup⟩, rfl⟩ | ⟨fa, hu, ⟨v0, i0, ⟨g1, g2, g3, g4, g5⟩, rfl⟩ | ⟨hok, rfl⟩⟩⟩
  · obtain rfl : fl = 0 := hfl.symm
    exact dc_a fo uo wo fc tl tc wl wc w
  · obtain rfl : fl = n + 1 := by omega
    obtain ⟨fb, fof, rfl, lf, hc⟩ := hF.cells (by omega)
    obtain ⟨x, hx⟩ : ∃ x, F[0]? = some x := ⟨F[0], List.getElem?_eq_getElem (by omega)⟩
    obtain ⟨y, hy⟩ : ∃ y, F[n]? = some y := ⟨F[n], List.getElem?_eq_getElem (by omega)⟩
    rw [hx, hy] at hb
    have c0 : w.cell? ⟨fb, fof, none⟩ = some (.int .i64 x) := hc 0 x hx
    have c1 : w.cell? ⟨fb, fof + n, none⟩ = some (.int .i64 y) := hc n y hy
    have hnm : n < maxLen := by omega
    by_cases hx0 : x = 0
    · subst hx0
      by_cases hyt : y = (tl : Int)
      · subst hyt
        refine dc_d fb fof uo wo n fc tl tc wl wc w c0 c1 lf hnm ?_
        rcases hb with h | h | h
        · exact absurd rfl h
        · exact absurd (by rw [htl]) h
        · omega
      · exact dc_c fb fof uo wo n fc tl tc wl wc y w c0 c1 lf hnm hyt
    · exact dc_b fb fof uo wo n fc tl tc wl wc x y w c0 c1 lf hnm hx0
  · obtain rfl : fl = n + 1 := by rw [← hfl, hL.f]
    obtain rfl : tl = m := by rw [← htl, hL.t]
    obtain rfl : wl = tl := by rw [← hwl, hL.w]
    obtain ⟨fb, fof, rfl, lf, hc⟩ := hF.cells (by omega)
    have c0 : w.cell? ⟨fb, fof, none⟩ = some (.int .i64 0) := hc 0 0 hL.zero
    have c1 : w.cell? ⟨fb, fof + n, none⟩ = some (.int .i64 wl) := hc n wl hL.top
    have hnm : n < maxLen := by have := hL.f; omega
    by_cases h65 : (65536 : Int) < (n : Int)
    · exact dc_e fb fof uo wo n fc wl tc wc w c0 c1 lf hnm h65
    · exact dc_g fb fof uo wo n fc wl tc wc w c0 c1 lf hnm h65 (by omega)
  · obtain rfl : fl = n + 1 := by rw [← hfl, hL.f]
    obtain rfl : tl = m := by rw [← htl, hL.t]
    obtain rfl : wl = tl := by rw [← hwl, hL.w]
    obtain ⟨fb, fof, rfl, lf, hc⟩ := hF.cells (by omega)
    exact dc_f n wl F fb fof uo wo fc tc wc w hF hL.zero hL.top hN hM k0 hk x y hx hy hxy hup
  · obtain rfl : fl = n + 1 := by rw [← hfl, hL.f]
    obtain rfl : tl = m := by rw [← htl, hL.t]
    obtain rfl : wl = tl := by rw [← hwl, hL.w]
    obtain ⟨fb, fof, rfl, lf, hc⟩ := hF.cells (by omega)
    refine dc_arcs n wl F T W fa fb fof uo wo fc tc wc w hF hT hW hu hN hM i0 _ (fun i v hv h1 h2 h3 => ?_) (fun h => ?_)
    · rcases Nat.lt_or_ge i i0 with h | h
      · exact Or.inl ⟨h, g4 v i hv h1 h2 h⟩
      · obtain rfl : i = i0 := by omega
        obtain rfl : v = v0 := by
          rcases Nat.lt_trichotomy v v0 with h' | h' | h'
          · have := hu.mono (show v + 1 ≤ v0 by omega) (by omega); omega
          · exact h'
          · have := hu.mono (show v0 + 1 ≤ v by omega) (by omega); omega
        exact Or.inr ⟨g5, rfl⟩
    · have := hu.le (show v0 + 1 ≤ n by omega)
      omega
  · obtain rfl : fl = n + 1 := by rw [← hfl, hL.f]
    obtain rfl : tl = m := by rw [← htl, hL.t]
    obtain rfl : wl = tl := by rw [← hwl, hL.w]
    obtain ⟨fb, fof, rfl, lf, hc⟩ := hF.cells (by omega)
    exact dc_arcs n wl F T W fa fb fof uo wo fc tc wc w hF hT hW hu hN hM wl _ (fun i v hv h1 h2 _ => Or.inl ⟨Nat.lt_of_lt_of_le h2 (hu.le (by omega)), hok v i hv h1 h2⟩) (fun _ => rfl)
theorem arcs_nil (w : World) : HasArcs w (.slice none 0 0) [] := ⟨none, 0, rfl, fun j a hj => by simp at hj⟩

/-- a row of numbers in a block of its own, as long as it is wide; or none. -/
def OwnI (B : Nat) (w : World) (ao : Option Addr) (l : List Int) : Prop := (ao = none ∧ l = []) ∨ ∃ g, ao = some ⟨g, 0, none⟩ ∧ B ≤ g ∧ w.heap[g]? = some (.cells (l.map (Value.int .i64)).toArray 3)
/-- two rows don't share a block. -/
def FarOff (a b : Option Addr) : Prop := ∀ x y, a = some x → b = some y → x.block ≠ y.block
theorem OwnI.ints {B : Nat} {w : World} {ao : Option Addr} {l : List Int} (h : OwnI B w ao l) (cap : Nat) : HasInts w (.slice ao l.length cap) l := by
  rcases h with ⟨rfl, rfl⟩ | ⟨g, rfl, _, hg⟩
  · exact ⟨none, cap, rfl, fun j a hj => by simp at hj⟩
  · refine ⟨_, cap, rfl, fun j a hj => ⟨g, 0, rfl, lt_of_get hg, ?_⟩⟩
    rw [Nat.zero_add]
    simp [World.cell?, hg, hj]
theorem OwnI.keep {B : Nat} {w w' : World} {ao : Option Addr} {l : List Int} (h : OwnI B w ao l) (hb : Below w.heap.size w w') : OwnI B w' ao l := by
  rcases h with h | ⟨g, e, hB, hg⟩
  · exact Or.inl h
  · exact Or.inr ⟨g, e, hB, (hb.block _ (lt_of_get hg)).trans hg⟩
theorem OwnI.base {B B' : Nat} {w : World} {ao : Option Addr} {l : List Int} (h : OwnI B' w ao l) (hb : B ≤ B') : OwnI B w ao l := by
  rcases h with h | ⟨g, e, hB, hg⟩
  · exact Or.inl h
  · exact Or.inr ⟨g, e, Nat.le_trans hb hB, hg⟩
theorem own_of_introw {B : Nat} {w : World} {b len : Nat} {f : Nat → Int} {l : List Int} (h : IntRow w b len f) (hB : B ≤ b) (hl : l.length = len) (hf : ∀ i a, l[i]? = some a → f i = a) : OwnI B w (some ⟨b, 0, none⟩) l := by
  obtain ⟨cur, hc, hs, hu⟩ := h
  refine Or.inr ⟨b, rfl, hB, ?_⟩
  rw [hc]
  congr 2
  apply Array.ext_getElem?
  intro i
  rcases Nat.lt_or_ge i len with hi | hi
  · rw [hu i hi, List.getElem?_toArray, List.getElem?_map]
    have hil : i < l.length := by omega
    rw [List.getElem?_eq_getElem hil, Option.map_some, hf i _ (List.getElem?_eq_getElem hil)]
  · rw [Array.getElem?_eq_none (by omega), Array.getElem?_eq_none (by simp; omega)]
/-- what Build answers: arrays in memory of their own. -/
def BAns (w : World) (F T V : List Int) (e : Ending) (w' : World) : Prop := ∃ fo uo wo v, e = .returned (.tuple #[.agg #[.slice fo F.length F.length, .slice uo T.length T.length, .slice wo V.length V.length], v]) ∧ (OwnI w.heap.size w' fo F ∧ OwnI w.heap.size w' uo T ∧ OwnI w.heap.size w' wo V) ∧ (FarOff fo uo ∧ FarOff fo wo ∧ FarOff uo wo) ∧ Below w.heap.size w w'
/-- what Graph and Row answer. -/
def GOwn (w : World) (N : Int) (l : List (Int × Int × Int)) (e : Ending) (w' : World) : Prop := ∃ lo lc v, e = .returned (.tuple #[.agg #[.int .i64 N, .slice lo l.length lc], v]) ∧ w'.ownsRow w.heap.size 46 3 (.slice lo l.length lc) l.length (flatC l) ∧ Below w.heap.size w w'
def ROwn (w : World) (l : List (Int × Int × Int)) (e : Ending) (w' : World) : Prop := ∃ lo lc v, e = .returned (.tuple #[.slice lo l.length lc, v]) ∧ w'.ownsRow w.heap.size 46 3 (.slice lo l.length lc) l.length (flatC l) ∧ Below w.heap.size w w'
/-- what DocBuild answers. -/
def DBAns (w : World) (F T V : List Int) (e : Ending) (w' : World) : Prop := ∃ fo fc uo uc wo wc C po pl pc, e = .returned (.tuple #[.agg #[.slice fo F.length fc, .slice uo T.length uc, .slice wo V.length wc], .agg #[.int .i64 C, .slice po pl pc]]) ∧ Arr w' F T V fo uo wo fc uc wc ∧ Below w.heap.size w w'
def DGAns (w : World) (N : Int) (l : List (Int × Int × Int)) (e : Ending) (w' : World) : Prop := ∃ lo lc C po pl pc, e = .returned (.tuple #[.agg #[.int .i64 N, .slice lo l.length lc], .agg #[.int .i64 C, .slice po pl pc]]) ∧ HasArcs w' (.slice lo l.length lc) l ∧ Below w.heap.size w w'

/-- Build and DocBuild: one answer. -/
theorem build_both (N : Int) (xs : List (Int × Int × Int)) (hm : xs.length ≤ maxLen) : ∃ F T V : List Int, (F.length ≤ 65537 ∧ T.length ≤ 262144 ∧ V.length ≤ 262144) ∧
    (∀ w ao cap, HasArcs w (.slice ao xs.length cap) xs → Calls Try.prog 6 #[.agg #[.int .i64 N, .slice ao xs.length cap]] w (BAns w F T V)) ∧
    (∀ w ao cap, HasArcs w (.slice ao xs.length cap) xs → Calls Try.prog 17 #[.agg #[.int .i64 N, .slice ao xs.length cap]] w (DBAns w F T V)) := by
  by_cases hg : graphErr N xs = (0, [])
  · obtain ⟨n, rfl⟩ := good_nat hg
    have hz := fine_norm hg
    have hN := hz.few
    have hM := hz.short
    refine ⟨firsts n (normA xs), tos (normA xs), weights (normA xs), ⟨by rw [firsts_len]; omega, by rw [tos_len]; omega, by rw [weights_len]; omega⟩, fun w ao cap hl => ?_, fun w ao cap hl => ?_⟩
    · refine (build_good n ao _ cap xs w hl hg).mono ?_
      rintro e w' ⟨F, T, V, rfl, ⟨b1, b2, b3, n1, n2, n3⟩, hf, ht, hv, hb⟩
      refine ⟨some ⟨F, 0, none⟩, some ⟨T, 0, none⟩, some ⟨V, 0, none⟩, .nilIface, by rw [firsts_len, tos_len, weights_len], ⟨?_, ?_, ?_⟩, ⟨?_, ?_, ?_⟩, hb⟩
      · refine own_of_introw hf b1 (firsts_len _ _) fun i a hi => ?_
        have hli := (List.getElem?_eq_some_iff.1 hi).1
        rw [firsts_len] at hli
        rw [firsts_at _ (show i ≤ n by omega)] at hi
        exact Option.some.inj hi
      · refine own_of_introw ht b2 (tos_len _) fun i a hi => ?_
        show (tos _).getD i 0 = a
        rw [List.getD_eq_getElem?_getD, hi]; rfl
      · refine own_of_introw hv b3 (weights_len _) fun i a hi => ?_
        show (weights _).getD i 0 = a
        rw [List.getD_eq_getElem?_getD, hi]; rfl
      · intro x y e1 e2; cases e1; cases e2; exact n1
      · intro x y e1 e2; cases e1; cases e2; exact n2
      · intro x y e1 e2; cases e1; cases e2; exact n3
    · refine (docBuild_calls n ao cap xs w hl hm).mono ?_
      rintro e w' ⟨fo, fl, fc, uo, ul, uc, wo, wl, wc, po, pc, rfl, _, hc, _, hb⟩
      rcases hc with ⟨_, h1, h2, h3⟩ | ⟨hne, _⟩
      · rw [Int.toNat_natCast] at h1
        obtain rfl := ints_len h1
        obtain rfl := ints_len h2
        obtain rfl := ints_len h3
        exact ⟨fo, fc, uo, uc, wo, wc, _, _, _, _, rfl, ⟨h1, h2, h3⟩, hb⟩
      · exact absurd hg hne
  · refine ⟨[], [], [], ⟨by simp, by simp, by simp⟩, fun w ao cap hl => ?_, fun w ao cap hl => ?_⟩
    · refine (build_bad N ao _ cap xs w hl hm hg).mono ?_
      rintro e w' ⟨T, x, rfl, _, hb⟩
      exact ⟨none, none, none, _, rfl, ⟨Or.inl ⟨rfl, rfl⟩, Or.inl ⟨rfl, rfl⟩, Or.inl ⟨rfl, rfl⟩⟩, ⟨(fun x y e => by cases e), (fun x y e => by cases e), (fun x y e => by cases e)⟩, hb⟩
    · refine (docBuild_calls N ao cap xs w hl hm).mono ?_
      rintro e w' ⟨fo, fl, fc, uo, ul, uc, wo, wl, wc, po, pc, rfl, _, hc, _, hb⟩
      rcases hc with ⟨h, _⟩ | ⟨_, rfl, rfl, rfl⟩
      · exact absurd h hg
      · exact ⟨fo, fc, uo, uc, wo, wc, _, _, _, _, rfl, ⟨⟨_, _, rfl, fun j a hj => by simp at hj⟩, ⟨_, _, rfl, fun j a hj => by simp at hj⟩, ⟨_, _, rfl, fun j a hj => by simp at hj⟩⟩, hb⟩
section
variable {F T W : List Int} {E : Int × List (Int × Int)}
theorem check_iface {w : World} {fo uo wo : Option Addr} {fc tc wc : Nat} (hE : ChkIs F T W E) (hm : F.length ≤ maxLen) (hE1 : E.1 ≠ 0) (h : Arr w F T W fo uo wo fc tc wc) : Calls Try.prog 11 #[.agg #[.slice fo F.length fc, .slice uo T.length tc, .slice wo W.length wc]] w fun e w' => ∃ Ty x, e = .returned (.iface Ty x) ∧ IsTold w' E (.iface Ty x) ∧ Below w.heap.size w w' := by
  refine (check_any fo uo wo F.length fc T.length tc W.length wc F T W E w h.f h.t h.w hm hE).mono ?_
  rintro e w' ⟨v, rfl, ht, hb⟩
  obtain ⟨Ty, x, rfl⟩ := told_iface ht (fun e => hE1 (by rw [e]))
  exact ⟨Ty, x, rfl, ht, hb⟩
theorem graph_both (hm : F.length ≤ maxLen) : ∃ (N : Int) (l : List (Int × Int × Int)), l.length ≤ 262144 ∧
    (∀ w fo uo wo fc tc wc, Arr w F T W fo uo wo fc tc wc → Calls Try.prog 10 #[.agg #[.slice fo F.length fc, .slice uo T.length tc, .slice wo W.length wc]] w (GOwn w N l)) ∧
    (∀ w fo uo wo fc tc wc, Arr w F T W fo uo wo fc tc wc → Calls Try.prog 18 #[.agg #[.slice fo F.length fc, .slice uo T.length tc, .slice wo W.length wc]] w (DGAns w N l)) := by
  obtain ⟨E, hE⟩ := chk_total F T W
  have hDC : ∀ w fo uo wo fc tc wc, Arr w F T W fo uo wo fc tc wc → ∀ wx, Below w.heap.size w wx → Calls Try.prog 42 #[.agg #[.slice fo F.length fc, .slice uo T.length tc, .slice wo W.length wc]] wx (DocAns wx E) := fun w fo uo wo fc tc wc h wx hx => docCheck_any fo uo wo F.length fc T.length tc W.length wc F T W E wx (h.keep hx).f (h.keep hx).t (h.keep hx).w hm hE
  rcases (chk_split hE).2 with h1 | ⟨rfl, n, m, zs, hL, hz, e1, e2, e3, e4⟩
  · refine ⟨0, [], by simp, fun w fo uo wo fc tc wc h => ?_, fun w fo uo wo fc tc wc h => ?_⟩
    · refine (graph_bad fo uo wo F.length fc T.length tc W.length wc w E (fun wx hx => check_iface hE hm h1 (h.keep hx))).mono ?_
      rintro e w' ⟨Ty, x, rfl, ht, hb⟩
      exact ⟨none, 0, _, rfl, World.ownsRow_nil _ _ _ _, hb⟩
    · obtain ⟨C, ps⟩ := E
      refine (docGraph_bad fo uo wo F.length fc T.length tc W.length wc w C ps h1 (hDC w fo uo wo fc tc wc h)).mono ?_
      rintro e w' ⟨lo, lc, po, pc, rfl, ho, _, hb⟩
      exact ⟨lo, lc, _, _, _, _, rfl, arcs_of_rowC ho, hb⟩
  · refine ⟨n, zs, hz.short, fun w fo uo wo fc tc wc h => ?_, fun w fo uo wo fc tc wc h => ?_⟩
    · obtain ⟨f1, f2, f3, hC⟩ := csrIn_of h.f h.t h.w hL e1 e2 e3 e4
      rw [f1, f2, f3]
      refine (graph_good n zs fo uo wo fc tc wc w hz hC).mono ?_
      rintro e w' ⟨lo, lc, rfl, ho, hb⟩
      exact ⟨lo, lc, _, rfl, ho, hb⟩
    · have hD := hDC w fo uo wo fc tc wc h
      obtain ⟨f1, f2, f3, hC⟩ := csrIn_of h.f h.t h.w hL e1 e2 e3 e4
      rw [f1, f2, f3] at hD ⊢
      refine (docGraph_good fo uo wo (n + 1) fc zs.length tc zs.length wc w n zs hD (fun wx hx => rGraph_calls n zs fo uo wo fc tc wc wx hz (hC.keep hx))).mono ?_
      rintro e w' ⟨lo, lc, po, pc, rfl, ho, _, hb⟩
      exact ⟨lo, lc, _, _, _, _, rfl, arcs_of_rowC ho, hb⟩
theorem row_any (v : Int) (hm : F.length ≤ maxLen) : ∃ (l : List (Int × Int × Int)), l.length ≤ 262144 ∧
    (∀ w fo uo wo fc tc wc, Arr w F T W fo uo wo fc tc wc → Calls Try.prog 15 #[.agg #[.slice fo F.length fc, .slice uo T.length tc, .slice wo W.length wc], .int .i64 v] w (ROwn w l)) := by
  obtain ⟨E, hE⟩ := chk_total F T W
  rcases (chk_split hE).2 with h1 | ⟨rfl, n, m, zs, hL, hz, e1, e2, e3, e4⟩
  · refine ⟨[], by simp, fun w fo uo wo fc tc wc h => ?_⟩
    refine (row_bad fo uo wo F.length fc T.length tc W.length wc w v E (fun wx hx => check_iface hE hm h1 (h.keep hx))).mono ?_
    rintro e w' ⟨Ty, x, rfl, ht, hb⟩
    exact ⟨none, 0, _, rfl, World.ownsRow_nil _ _ _ _, hb⟩
  · by_cases hv : 0 ≤ v ∧ v < (n : Int)
    · obtain ⟨p, rfl⟩ : ∃ p : Nat, v = (p : Int) := ⟨v.toNat, by omega⟩
      refine ⟨theRow zs p, Nat.le_trans (rowOf_len _ _) hz.short, fun w fo uo wo fc tc wc h => ?_⟩
      obtain ⟨f1, f2, f3, hC⟩ := csrIn_of h.f h.t h.w hL e1 e2 e3 e4
      rw [f1, f2, f3]
      refine (row_good n zs fo uo wo fc tc wc w hz hC p (by omega)).mono ?_
      rintro e w' ⟨lo, lc, rfl, ho, hb⟩
      exact ⟨lo, lc, _, rfl, ho, hb⟩
    · refine ⟨[], by simp, fun w fo uo wo fc tc wc h => ?_⟩
      obtain ⟨f1, f2, f3, hC⟩ := csrIn_of h.f h.t h.w hL e1 e2 e3 e4
      rw [f1, f2, f3]
      refine (row_node n zs fo uo wo fc tc wc w hz hC v hv).mono ?_
      rintro e w' ⟨rfl, hb⟩
      exact ⟨none, 0, _, rfl, World.ownsRow_nil _ _ _ _, hb⟩
end
end Go.Proofs.Ytgfmalimnbgdeaa
