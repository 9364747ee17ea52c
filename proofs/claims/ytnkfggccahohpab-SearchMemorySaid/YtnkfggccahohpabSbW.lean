/- the law SearchPaths. -/
import Derived.Test.YtnkfggccahohpabSaX
import Derived.Test.YtnkfggccahohpabSbX
import Derived.Test.YtnkfggccahohpabPlaces
namespace Go.Proofs.Ytnkfggccahohpab
open Go.RowKit Go.Extern

attribute [local go_sem] Oper.semAt_some

theorem keeps_box {W W' : World} {b : Nat} {c : Array Value} {t : TypeId} (h : W.heap[b]? = some (.cells c t)) (ht : t ≠ 137) (hk : ∀ g, g ≠ b → W'.heap[g]? = W.heap[g]?) : Keeps W W' := fun d x hd => by
  have hne : d ≠ b := fun e => by rw [e, h] at hd; cases hd; exact ht rfl
  rw [hk d hne]
  exact hd
theorem told_numV (w : World) (no : Int) : IsTold w (no, []) (numV no) := by
  by_cases h : no = 0
  · subst h; exact Or.inl ⟨rfl, rfl⟩
  · exact Or.inr ⟨h, if_neg h⟩
theorem told_iface9 {w : World} {e : Int × List (Int × Int)} {v : Value} (h : IsTold w e v) (he : e.1 ≠ 0) : ∃ T x, v = .iface T x := by
  obtain ⟨c, ps⟩ := e
  rcases h with ⟨h, _⟩ | ⟨_, h⟩
  · cases h; exact absurd rfl he
  · cases ps with
    | nil => exact ⟨_, _, h⟩
    | cons p r => obtain ⟨b, u, h, _⟩ := h; exact ⟨_, _, h⟩
section
variable {F T W : List Int} {E : Int × List (Int × Int)}
theorem check_iface {w : World} {fo uo wo : Option Addr} {fc tc wc : Nat} (hE : ChkIs F T W E) (hm : F.length ≤ maxLen) (hE1 : E.1 ≠ 0) (h : Arr w F T W fo uo wo fc tc wc) : Calls Try.prog 39 #[.agg #[.slice fo F.length fc, .slice uo T.length tc, .slice wo W.length wc]] w fun e w' => ∃ Ty x, e = .returned (.iface Ty x) ∧ IsTold w' E (.iface Ty x) ∧ Below w.heap.size w w' := by
  refine (check_any fo uo wo F.length fc T.length tc W.length wc F T W E w h.f h.t h.w hm hE).mono ?_
  rintro e w' ⟨v, rfl, ht, hb⟩
  obtain ⟨Ty, x, rfl⟩ := told_iface9 ht hE1
  exact ⟨Ty, x, rfl, ht, hb⟩
end
theorem iown_ints {w : World} {B q pc : Nat} {po : Option Addr} {xs : List Int} (hq : xs.length = q + 1) (h : w.ownsRow B 3 1 (.slice po (q + 1) pc) (q + 1) (iv xs)) : ∃ g, po = some ⟨g, 0, none⟩ ∧ q + 1 ≤ pc ∧ HasInts w (.slice (some ⟨g, 0, none⟩) (q + 1) pc) xs ∧ B ≤ g ∧ ∃ cur, w.heap[g]? = some (.cells cur 3) ∧ q + 1 ≤ cur.size ∧ cur.size ≤ maxLen := by
  obtain ⟨g, cap, e2, hc⟩ := own_some h (by omega)
  injection e2 with e3 e4 e5
  subst e3
  subst e5
  have hI := ints_of_iown (l := xs) (by rw [hq]; exact h)
  refine ⟨g, rfl, hc, hI, ?_⟩
  have hlt := (h.lt g rfl).1
  rcases h.2 with ⟨e, _⟩ | ⟨g2, cap2, cur, e, hb2, hh, r⟩
  · cases e
  · injection e with e1 e2 e3
    injection e1 with e1
    injection e1 with e1
    subst e1
    exact ⟨hlt, cur, hh, by have := r.2.2.1; have := r.1; omega, by have := r.2.2.1; have := r.2.1; omega⟩

/-- what both answer: an error, or a path of that length. -/
theorem path_both (F T W : List Int) (C : Int × List (Int × Int)) (hC : ChkIs F T W C) (hm : F.length ≤ maxLen) (s t : Int) :
    (∃ E : Int × List (Int × Int), (E.1 ≠ 0 ∧ E.2.length ≤ 1) ∧
      (∀ w fo uo wo fc tc wc, Arr w F T W fo uo wo fc tc wc → Calls Try.prog 9 #[.agg #[.slice fo F.length fc, .slice uo T.length tc, .slice wo W.length wc], .int .i64 s, .int .i64 t] w fun e w' => ∃ v, e = .returned (.tuple #[.slice none 0 0, v]) ∧ IsTold w' E v ∧ Below w.heap.size w w') ∧
      (∀ w fo uo wo fc tc wc, Arr w F T W fo uo wo fc tc wc → Calls Try.prog 14 #[.agg #[.slice fo F.length fc, .slice uo T.length tc, .slice wo W.length wc], .int .i64 s, .int .i64 t] w (QAns w 0 E))) ∨
    (∃ d : Int,
      (∀ w fo uo wo fc tc wc, Arr w F T W fo uo wo fc tc wc → Calls Try.prog 9 #[.agg #[.slice fo F.length fc, .slice uo T.length tc, .slice wo W.length wc], .int .i64 s, .int .i64 t] w fun e w' => ∃ g q pc xs, e = .returned (.tuple #[.slice (some ⟨g, 0, none⟩) (q + 1) pc, .nilIface]) ∧ (w.heap.size ≤ g ∧ ∃ cur, w'.heap[g]? = some (.cells cur 3) ∧ q + 1 ≤ cur.size ∧ cur.size ≤ maxLen) ∧ (HasInts w' (.slice (some ⟨g, 0, none⟩) (q + 1) pc) xs ∧
        (∀ wx fo uo wo fc tc wc, Arr wx F T W fo uo wo fc tc wc → HasInts wx (.slice (some ⟨g, 0, none⟩) (q + 1) pc) xs → Calls Try.prog 17 #[.agg #[.slice fo F.length fc, .slice uo T.length tc, .slice wo W.length wc], .slice (some ⟨g, 0, none⟩) (q + 1) pc, .int .i64 s, .int .i64 t, .int .u64 d] wx fun e w' => e = .returned (.bool true) ∧ Below wx.heap.size wx w')) ∧ Below w.heap.size w w') ∧
      (∀ w fo uo wo fc tc wc, Arr w F T W fo uo wo fc tc wc → Calls Try.prog 14 #[.agg #[.slice fo F.length fc, .slice uo T.length tc, .slice wo W.length wc], .int .i64 s, .int .i64 t] w (QAns w d (0, [])))) := by
  have hDC : ∀ w fo uo wo fc tc wc, Arr w F T W fo uo wo fc tc wc → ∀ wx, Below w.heap.size w wx → Calls Try.prog 19 #[.agg #[.slice fo F.length fc, .slice uo T.length tc, .slice wo W.length wc]] wx (DocAns wx C) := fun w fo uo wo fc tc wc h wx hx => docCheck_any fo uo wo F.length fc T.length tc W.length wc F T W C wx (h.keep hx).f (h.keep hx).t (h.keep hx).w hm hC
  rcases (chk_split hC).2 with h1 | ⟨rfl, n, m, zs, hL, hz, e1, e2, e3, e4⟩
  · refine Or.inl ⟨C, ⟨h1, (chk_split hC).1⟩, fun w fo uo wo fc tc wc h => ?_, fun w fo uo wo fc tc wc h => ?_⟩
    · refine (sPath_early (.slice fo F.length fc) (.slice uo T.length tc) (.slice wo W.length wc) s t w C (fun wx hx => check_iface hC hm h1 (h.keep hx))).mono ?_
      rintro e w' ⟨Ty, x, rfl, ht, hb⟩
      exact ⟨_, rfl, ht, hb⟩
    · obtain ⟨C1, ps⟩ := C
      exact docPath_bad fo uo wo F.length fc T.length tc W.length wc w s t C1 ps h1 (fun wx hx => node8_bad fo uo wo F.length fc T.length tc W.length wc wx s C1 ps h1 (hDC wx fo uo wo fc tc wc (h.keep hx)))
  · have hgood : ∀ w fo uo wo fc tc wc, Arr w F T W fo uo wo fc tc wc → F.length = n + 1 ∧ T.length = zs.length ∧ W.length = zs.length ∧ CsrIn w n zs fo uo wo fc tc wc ∧ ∀ wx, Below w.heap.size w wx → Calls Try.prog 19 #[.agg #[.slice fo (n + 1) fc, .slice uo zs.length tc, .slice wo zs.length wc]] wx (DocAns wx (0, [])) := fun w fo uo wo fc tc wc h => by
      obtain ⟨f1, f2, f3, hCI⟩ := csrIn_of h.f h.t h.w hL e1 e2 e3 e4
      have hD := hDC w fo uo wo fc tc wc h
      rw [f1, f2, f3] at hD
      exact ⟨f1, f2, f3, hCI, hD⟩
    by_cases hst : (0 ≤ s ∧ s < (n : Int)) ∧ 0 ≤ t ∧ t < (n : Int)
    · obtain ⟨p, rfl⟩ : ∃ p : Nat, s = (p : Int) := ⟨s.toNat, by omega⟩
      obtain ⟨q, rfl⟩ : ∃ q : Nat, t = (q : Int) := ⟨t.toNat, by omega⟩
      by_cases hex : ∃ D, IsDist n zs p D
      case neg =>
        refine Or.inl ⟨(7, []), ⟨by decide, by simp⟩, fun w fo uo wo fc tc wc h => ?_, fun w fo uo wo fc tc wc h => ?_⟩
        · obtain ⟨f1, f2, f3, hCI, hD⟩ := hgood w fo uo wo fc tc wc h
          rw [f1, f2, f3]
          refine (path_good n zs fo uo wo fc tc wc w hz hCI p q (by omega) (by omega)).mono ?_
          rintro e w' ⟨⟨D, hD', _⟩, _⟩
          exact absurd ⟨D, hD'⟩ hex
        · obtain ⟨f1, f2, f3, hCI, hD⟩ := hgood w fo uo wo fc tc wc h
          rw [f1, f2, f3]
          refine (docPath_go n zs fo uo wo fc tc wc w hz hCI p q (by omega) (by omega) (fun wx hx => node8_good fo uo wo fc zs.length tc zs.length wc n wx p hz.few hst.1 (fun wy hy => hD wy (btr hx hy)))).mono ?_
          rintro e w' ⟨D, d, ⟨hD', _⟩, _⟩
          exact absurd ⟨D, hD'⟩ hex
      obtain ⟨D, hDi⟩ := hex
      obtain ⟨d, hd, _⟩ := hDi.2 q (by omega)
      have hdoc : ∀ w fo uo wo fc tc wc, Arr w F T W fo uo wo fc tc wc → Calls Try.prog 14 #[.agg #[.slice fo F.length fc, .slice uo T.length tc, .slice wo W.length wc], .int .i64 p, .int .i64 q] w fun e w' => (d = 18446744073709551615 ∧ QAns w 0 (16, []) e w') ∨ (d ≠ 18446744073709551615 ∧ QAns w d (0, []) e w') := fun w fo uo wo fc tc wc h => by
        obtain ⟨f1, f2, f3, hCI, hD⟩ := hgood w fo uo wo fc tc wc h
        rw [f1, f2, f3]
        refine (docPath_go n zs fo uo wo fc tc wc w hz hCI p q (by omega) (by omega) (fun wx hx => node8_good fo uo wo fc zs.length tc zs.length wc n wx p hz.few hst.1 (fun wy hy => hD wy (btr hx hy)))).mono ?_
        rintro e w' ⟨D', d', ⟨hD', hd'⟩, h'⟩
        obtain rfl := hD'.unique hDi
        rw [hd] at hd'
        cases hd'
        exact h'
      by_cases hf : d = 18446744073709551615
      · refine Or.inl ⟨(16, []), ⟨by decide, by simp⟩, fun w fo uo wo fc tc wc h => ?_, fun w fo uo wo fc tc wc h => ?_⟩
        · obtain ⟨f1, f2, f3, hCI, hD⟩ := hgood w fo uo wo fc tc wc h
          rw [f1, f2, f3]
          refine (path_good n zs fo uo wo fc tc wc w hz hCI p q (by omega) (by omega)).mono ?_
          rintro e w' ⟨⟨D', hD', h'⟩, hb⟩
          obtain rfl := hD'.unique hDi
          rcases h' with ⟨_, rfl⟩ | ⟨P, d', po, pc, hd', hne, _⟩
          · exact ⟨_, rfl, told_numV _ _, hb⟩
          · rw [hd] at hd'
            cases hd'
            exact absurd hf hne
        · refine (hdoc w fo uo wo fc tc wc h).mono ?_
          rintro e w' (⟨_, h'⟩ | ⟨h', _⟩)
          · exact h'
          · exact absurd hf h'
      · refine Or.inr ⟨d, fun w fo uo wo fc tc wc h => ?_, fun w fo uo wo fc tc wc h => ?_⟩
        · obtain ⟨f1, f2, f3, hCI, hD⟩ := hgood w fo uo wo fc tc wc h
          rw [f1, f2, f3]
          refine (path_good n zs fo uo wo fc tc wc w hz hCI p q (by omega) (by omega)).mono ?_
          rintro e w' ⟨⟨D', hD', h'⟩, hb⟩
          obtain rfl := hD'.unique hDi
          rcases h' with ⟨h2, _⟩ | ⟨P, d', po, pc, hd', hne, hPT, hP0, ⟨hnd, hpl⟩, he, ho⟩
          · rw [hd] at h2
            exact absurd (Option.some.inj h2) hf
          · rw [hd] at hd'
            cases hd'
            obtain ⟨ws, hPI⟩ := pathIs_of hz (by omega) hPT hP0 hnd hpl
            have hl : 0 < P.length := (List.getElem?_eq_some_iff.1 hP0).1
            obtain ⟨k, hk⟩ : ∃ k, P.length = k + 1 := ⟨P.length - 1, by omega⟩
            have hxl : (nums P).reverse.length = k + 1 := by rw [List.length_reverse, nums_len, hk]
            rw [hk] at he ho
            obtain ⟨g, rfl, hc, hI, hnew⟩ := iown_ints hxl ho
            refine ⟨g, k, pc, (nums P).reverse, he, hnew, ⟨hI, fun wx fo2 uo2 wo2 fc2 tc2 wc2 h2 hI2 => ?_⟩, hb⟩
            obtain ⟨_, _, _, hCI2, hD2⟩ := hgood wx fo2 uo2 wo2 fc2 tc2 wc2 h2
            exact rPath_yes n zs fo2 uo2 wo2 fc2 tc2 wc2 wx hz hCI2 g pc k p q d (nums P).reverse ws hxl hI2 hc hPI hD2
        · refine (hdoc w fo uo wo fc tc wc h).mono ?_
          rintro e w' (⟨h', _⟩ | ⟨_, h'⟩)
          · exact absurd h' hf
          · exact h'
    · refine Or.inl ⟨(7, []), ⟨by decide, by simp⟩, fun w fo uo wo fc tc wc h => ?_, fun w fo uo wo fc tc wc h => ?_⟩
      · obtain ⟨f1, f2, f3, hCI, hD⟩ := hgood w fo uo wo fc tc wc h
        rw [f1, f2, f3]
        refine (sPath_node n zs fo uo wo fc tc wc w hz hCI s t hst).mono ?_
        rintro e w' ⟨rfl, hb⟩
        exact ⟨_, rfl, told_numV _ _, hb⟩
      · obtain ⟨f1, f2, f3, hCI, hD⟩ := hgood w fo uo wo fc tc wc h
        rw [f1, f2, f3]
        by_cases hs : 0 ≤ s ∧ s < (n : Int)
        · exact docPath_node fo uo wo n fc zs.length tc zs.length wc w s t hz.few (fun ht => hst ⟨hs, ht⟩) (fun wx hx => node8_good fo uo wo fc zs.length tc zs.length wc n wx s hz.few hs (fun wy hy => hD wy (btr hx hy)))
        · exact docPath_bad fo uo wo (n + 1) fc zs.length tc zs.length wc w s t 7 [] (by decide) (fun wx hx => node8_no fo uo wo fc zs.length tc zs.length wc n wx s hz.few hs (fun wy hy => hD wy (btr hx hy)))

end Go.Proofs.Ytnkfggccahohpab
