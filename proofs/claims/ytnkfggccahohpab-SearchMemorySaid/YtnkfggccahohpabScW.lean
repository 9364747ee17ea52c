/- the law SearchFroms. -/
import Derived.Test.YtnkfggccahohpabSbW
import Derived.Test.YtnkfggccahohpabScX
namespace Go.Proofs.Ytnkfggccahohpab
open Go.RowKit Go.Extern

attribute [local go_sem] Oper.semAt_some

/-- what From of both answers. -/
def FP (w : World) (D : List Int) (E : Int × List (Int × Int)) (e : Ending) (w' : World) : Prop := ∃ ao ac v, e = .returned (.tuple #[.slice ao D.length ac, v]) ∧ URow w' ao D ∧ IsTold w' E v ∧ Below w.heap.size w w' ∧ ∀ b, ao = some ⟨b, 0, none⟩ → w.heap.size ≤ b
def FD (w : World) (D : List Int) (E : Int × List (Int × Int)) (e : Ending) (w' : World) : Prop := ∃ bo bc po pc, e = .returned (.tuple #[.slice bo D.length bc, .agg #[.int .i64 E.1, .slice po E.2.length pc]]) ∧ URow w' bo D ∧ HasPlaces w' (.slice po E.2.length pc) E.2 ∧ Below w.heap.size w w'
/-- what Matrix of both answers. -/
def MP (w : World) (n : Nat) (zs : List (Int × Int × Int)) (E : Int × List (Int × Int)) (e : Ending) (w' : World) : Prop := ∃ ao ac vs v, e = .returned (.tuple #[.slice ao n ac, v]) ∧ (vs.length = n ∧ HasRows w' ao vs ∧ Mat w' n zs vs) ∧ IsTold w' E v ∧ Below w.heap.size w w' ∧ (∀ b, ao = some ⟨b, 0, none⟩ → w.heap.size ≤ b) ∧ MatN w' w.heap.size n zs vs
def MD (w : World) (n : Nat) (zs : List (Int × Int × Int)) (E : Int × List (Int × Int)) (e : Ending) (w' : World) : Prop := ∃ bo bc vs po pc, e = .returned (.tuple #[.slice bo n bc, .agg #[.int .i64 E.1, .slice po E.2.length pc]]) ∧ (vs.length = n ∧ HasRows w' bo vs ∧ Mat w' n zs vs) ∧ HasPlaces w' (.slice po E.2.length pc) E.2 ∧ Below w.heap.size w w'
theorem urow_nil (w : World) : URow w none [] := Or.inl ⟨rfl, rfl⟩
theorem hrows_nil (w : World) (lo : Option Addr) : HasRows w lo [] := fun i v hv => by simp at hv
theorem mat_nil (w : World) (zs : List (Int × Int × Int)) : Mat w 0 zs [] := fun i v hv => by simp at hv
theorem told_nil (w : World) : IsTold w (0, []) .nilIface := Or.inl ⟨rfl, rfl⟩

section
variable (F T W : List Int) (C : Int × List (Int × Int))
theorem good_of (hC : ChkIs F T W (0, [])) (hm : F.length ≤ maxLen) {n m : Nat} {zs : List (Int × Int × Int)} (hL : Lens F T W n m) (e1 : firsts n zs = F) (e2 : tos zs = T) (e3 : weights zs = W) (e4 : zs.length = m) : ∀ w fo uo wo fc tc wc, Arr w F T W fo uo wo fc tc wc → F.length = n + 1 ∧ T.length = zs.length ∧ W.length = zs.length ∧ CsrIn w n zs fo uo wo fc tc wc ∧ ∀ wx, Below w.heap.size w wx → Calls Try.prog 19 #[.agg #[.slice fo (n + 1) fc, .slice uo zs.length tc, .slice wo zs.length wc]] wx (DocAns wx (0, [])) := fun w fo uo wo fc tc wc h => by
  obtain ⟨f1, f2, f3, hCI⟩ := csrIn_of h.f h.t h.w hL e1 e2 e3 e4
  have hD : ∀ wx, Below w.heap.size w wx → Calls Try.prog 19 #[.agg #[.slice fo F.length fc, .slice uo T.length tc, .slice wo W.length wc]] wx (DocAns wx (0, [])) := fun wx hx => docCheck_any fo uo wo F.length fc T.length tc W.length wc F T W (0, []) wx (h.keep hx).f (h.keep hx).t (h.keep hx).w hm hC
  rw [f1, f2, f3] at hD
  exact ⟨f1, f2, f3, hCI, hD⟩
theorem from_both (hC : ChkIs F T W C) (hm : F.length ≤ maxLen) (s : Int) : ∃ (D : List Int) (E : Int × List (Int × Int)), (D.length ≤ 65536 ∧ E.2.length ≤ 1) ∧
    (∀ w fo uo wo fc tc wc, Arr w F T W fo uo wo fc tc wc → Calls Try.prog 7 #[.agg #[.slice fo F.length fc, .slice uo T.length tc, .slice wo W.length wc], .int .i64 s] w (FP w D E)) ∧
    (∀ w fo uo wo fc tc wc, Arr w F T W fo uo wo fc tc wc → Calls Try.prog 12 #[.agg #[.slice fo F.length fc, .slice uo T.length tc, .slice wo W.length wc], .int .i64 s] w (FD w D E)) := by
  have hDC : ∀ w fo uo wo fc tc wc, Arr w F T W fo uo wo fc tc wc → ∀ wx, Below w.heap.size w wx → Calls Try.prog 19 #[.agg #[.slice fo F.length fc, .slice uo T.length tc, .slice wo W.length wc]] wx (DocAns wx C) := fun w fo uo wo fc tc wc h wx hx => docCheck_any fo uo wo F.length fc T.length tc W.length wc F T W C wx (h.keep hx).f (h.keep hx).t (h.keep hx).w hm hC
  rcases (chk_split hC).2 with h1 | ⟨rfl, n, m, zs, hL, hz, e1, e2, e3, e4⟩
  · refine ⟨[], C, ⟨by simp, (chk_split hC).1⟩, fun w fo uo wo fc tc wc h => ?_, fun w fo uo wo fc tc wc h => ?_⟩
    · refine (sFrom_early (.slice fo F.length fc) (.slice uo T.length tc) (.slice wo W.length wc) s w C (fun wx hx => check_iface hC hm h1 (h.keep hx))).mono ?_
      rintro e w' ⟨Ty, x, rfl, ht, hb⟩
      exact ⟨none, 0, _, rfl, urow_nil _, ht, hb, fun b h => by cases h⟩
    · obtain ⟨C1, ps⟩ := C
      refine (docFrom_bad fo uo wo F.length fc T.length tc W.length wc w s C1 ps h1 (fun wx hx => node8_bad fo uo wo F.length fc T.length tc W.length wc wx s C1 ps h1 (hDC wx fo uo wo fc tc wc (h.keep hx)))).mono ?_
      rintro e w' ⟨po, pc, rfl, hp, hb⟩
      exact ⟨none, 0, po, pc, rfl, urow_nil _, hp, hb⟩
  · have hgood := good_of F T W hC hm hL e1 e2 e3 e4
    by_cases hs : 0 ≤ s ∧ s < (n : Int)
    · obtain ⟨p, rfl⟩ : ∃ p : Nat, s = (p : Int) := ⟨s.toNat, by omega⟩
      by_cases hex : ∃ D, IsDist n zs p D
      · obtain ⟨D, hDi⟩ := hex
        have hl := hDi.1
        refine ⟨D, (0, []), ⟨by rw [hl]; exact hz.few, by simp⟩, fun w fo uo wo fc tc wc h => ?_, fun w fo uo wo fc tc wc h => ?_⟩
        · obtain ⟨f1, f2, f3, hCI, hD⟩ := hgood w fo uo wo fc tc wc h
          rw [f1, f2, f3]
          refine (from_new n zs fo uo wo fc tc wc w hz hCI p (by omega)).mono ?_
          rintro e w' ⟨db, D', rfl, hD', ⟨hU, hdb⟩, hb⟩
          obtain rfl := hD'.unique hDi
          exact ⟨some ⟨db, 0, none⟩, n, .nilIface, by rw [hl], Or.inr ⟨db, rfl, hU⟩, told_nil _, hb, fun b h => by cases h; exact hdb⟩
        · obtain ⟨f1, f2, f3, hCI, hD⟩ := hgood w fo uo wo fc tc wc h
          rw [f1, f2, f3]
          refine (docFrom_good n zs fo uo wo fc tc wc w hz hCI p (by omega) (fun wx hx => node8_good fo uo wo fc zs.length tc zs.length wc n wx p hz.few hs (fun wy hy => hD wy (btr hx hy)))).mono ?_
          rintro e w' ⟨db, D', rfl, hD', hU, hb⟩
          obtain rfl := hD'.unique hDi
          exact ⟨some ⟨db, 0, none⟩, n, none, 0, by rw [hl]; rfl, Or.inr ⟨db, rfl, hU⟩, places_nil _, hb⟩
      · refine ⟨[], (0, []), ⟨by simp, by simp⟩, fun w fo uo wo fc tc wc h => ?_, fun w fo uo wo fc tc wc h => ?_⟩
        · obtain ⟨f1, f2, f3, hCI, hD⟩ := hgood w fo uo wo fc tc wc h
          rw [f1, f2, f3]
          refine (from_good n zs fo uo wo fc tc wc w hz hCI p (by omega)).mono ?_
          rintro e w' ⟨db, D', _, hD', _⟩
          exact absurd ⟨D', hD'⟩ hex
        · obtain ⟨f1, f2, f3, hCI, hD⟩ := hgood w fo uo wo fc tc wc h
          rw [f1, f2, f3]
          refine (docFrom_good n zs fo uo wo fc tc wc w hz hCI p (by omega) (fun wx hx => node8_good fo uo wo fc zs.length tc zs.length wc n wx p hz.few hs (fun wy hy => hD wy (btr hx hy)))).mono ?_
          rintro e w' ⟨db, D', _, hD', _⟩
          exact absurd ⟨D', hD'⟩ hex
    · refine ⟨[], (7, []), ⟨by simp, by simp⟩, fun w fo uo wo fc tc wc h => ?_, fun w fo uo wo fc tc wc h => ?_⟩
      · obtain ⟨f1, f2, f3, hCI, hD⟩ := hgood w fo uo wo fc tc wc h
        rw [f1, f2, f3]
        refine (sFrom_node n zs fo uo wo fc tc wc w hz hCI s hs).mono ?_
        rintro e w' ⟨rfl, hb⟩
        exact ⟨none, 0, _, rfl, urow_nil _, told_numV _ 7, hb, fun b h => by cases h⟩
      · obtain ⟨f1, f2, f3, hCI, hD⟩ := hgood w fo uo wo fc tc wc h
        rw [f1, f2, f3]
        refine (docFrom_bad fo uo wo (n + 1) fc zs.length tc zs.length wc w s 7 [] (by decide) (fun wx hx => node8_no fo uo wo fc zs.length tc zs.length wc n wx s hz.few hs (fun wy hy => hD wy (btr hx hy)))).mono ?_
        rintro e w' ⟨po, pc, rfl, hp, hb⟩
        exact ⟨none, 0, po, pc, rfl, urow_nil _, hp, hb⟩
theorem matrix_both (hC : ChkIs F T W C) (hm : F.length ≤ maxLen) (hfew : C.1 ≠ 0 ∨ 0 < C.2.length ∨ F.length ≤ 30) : ∃ (n : Nat) (zs : List (Int × Int × Int)) (E : Int × List (Int × Int)), (n ≤ 65536 ∧ E.2.length ≤ 1) ∧
    (∀ w fo uo wo fc tc wc, Arr w F T W fo uo wo fc tc wc → Calls Try.prog 8 #[.agg #[.slice fo F.length fc, .slice uo T.length tc, .slice wo W.length wc]] w (MP w n zs E)) ∧
    (∀ w fo uo wo fc tc wc, Arr w F T W fo uo wo fc tc wc → Calls Try.prog 13 #[.agg #[.slice fo F.length fc, .slice uo T.length tc, .slice wo W.length wc]] w (MD w n zs E)) := by
  have hDC : ∀ w fo uo wo fc tc wc, Arr w F T W fo uo wo fc tc wc → ∀ wx, Below w.heap.size w wx → Calls Try.prog 19 #[.agg #[.slice fo F.length fc, .slice uo T.length tc, .slice wo W.length wc]] wx (DocAns wx C) := fun w fo uo wo fc tc wc h wx hx => docCheck_any fo uo wo F.length fc T.length tc W.length wc F T W C wx (h.keep hx).f (h.keep hx).t (h.keep hx).w hm hC
  rcases (chk_split hC).2 with h1 | ⟨rfl, n, m, zs, hL, hz, e1, e2, e3, e4⟩
  · refine ⟨0, [], C, ⟨by omega, (chk_split hC).1⟩, fun w fo uo wo fc tc wc h => ?_, fun w fo uo wo fc tc wc h => ?_⟩
    · refine (sMatrix_early (.slice fo F.length fc) (.slice uo T.length tc) (.slice wo W.length wc) w C (fun wx hx => check_iface hC hm h1 (h.keep hx))).mono ?_
      rintro e w' ⟨Ty, x, rfl, ht, hb⟩
      exact ⟨none, 0, [], _, rfl, ⟨rfl, hrows_nil _ _, mat_nil _ _⟩, ht, hb, fun b h => (by cases h), fun i v hv => by simp at hv⟩
    · obtain ⟨C1, ps⟩ := C
      refine (docMatrix_bad fo uo wo F.length fc T.length tc W.length wc w C1 ps h1 (hDC w fo uo wo fc tc wc h)).mono ?_
      rintro e w' ⟨po, pc, rfl, hp, hb⟩
      exact ⟨none, 0, [], po, pc, rfl, ⟨rfl, hrows_nil _ _, mat_nil _ _⟩, hp, hb⟩
  · have hgood := good_of F T W hC hm hL e1 e2 e3 e4
    have hf30 : F.length ≤ 30 := by
      rcases hfew with h | h | h
      · exact absurd rfl h
      · simp at h
      · exact h
    have hn : n ≤ 1024 := by have := hL.f; omega
    refine ⟨n, zs, (0, []), ⟨by omega, by simp⟩, fun w fo uo wo fc tc wc h => ?_, fun w fo uo wo fc tc wc h => ?_⟩
    · obtain ⟨f1, f2, f3, hCI, hD⟩ := hgood w fo uo wo fc tc wc h
      rw [f1, f2, f3]
      refine (sMatrix_new n zs fo uo wo fc tc wc w hz hCI hn).mono ?_
      rintro e w' ⟨rb, vs, rfl, hv, hR, ⟨hM, hrb⟩, hb⟩
      exact ⟨some ⟨rb, 0, none⟩, n, vs, .nilIface, rfl, ⟨hv, rows_of_at hR, hM.mat⟩, told_nil _, hb, fun b h => by cases h; exact hrb, hM⟩
    · obtain ⟨f1, f2, f3, hCI, hD⟩ := hgood w fo uo wo fc tc wc h
      rw [f1, f2, f3]
      refine (docMatrix_good n zs fo uo wo fc tc wc w hz hCI hn hD).mono ?_
      rintro e w' ⟨lo, lc, vs, rfl, hv, hR, hM, hb⟩
      exact ⟨lo, lc, vs, none, 0, rfl, ⟨hv, hR, hM⟩, places_nil _, hb⟩
end
end Go.Proofs.Ytnkfggccahohpab
