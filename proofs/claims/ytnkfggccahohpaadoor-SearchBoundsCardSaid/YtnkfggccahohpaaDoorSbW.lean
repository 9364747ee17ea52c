/- the law SearchPaths. -/
import Derived.Test.YtnkfggccahohpaaDoorSaX
import Derived.Test.YtnkfggccahohpaaDoorSbX
import Derived.Test.YtnkfggccahohpaaDoorSeen
namespace Go.Proofs.YtnkfggccahohpaaDoor
open Go.RowKit Go.Extern

attribute [local go_sem] Oper.semAt_some

theorem keeps_box {W W' : World} {b : Nat} {c : Array Value} {t : TypeId} (h : W.heap[b]? = some (.cells c t)) (ht : t ≠ 81) (hk : ∀ g, g ≠ b → W'.heap[g]? = W.heap[g]?) : Keeps W W' := fun d x hd => by
  have hne : d ≠ b := fun e => by rw [e, h] at hd; cases hd; exact ht rfl
  rw [hk d hne]
  exact hd
theorem told_numV (w : World) (no : Int) : IsTold w (no, []) (numV no) := by
  by_cases h : no = 0
  · subst h; exact Or.inl ⟨rfl, rfl⟩
  · exact Or.inr ⟨h, if_neg h⟩
theorem told_iface9 {w : World} {e : Int × List (Int × Int)} {v : Value} (h : IsTold w e v) (he : e.1 ≠ 0) : ∃ T x, v = .iface T x := by
  obtain ⟨c, ps⟩ := e
  rcases h with ⟨h, _⟩ | ⟨_, h⟩
  · cases h; exact absurd rfl he
  · cases ps with
    | nil => exact ⟨_, _, h⟩
    | cons p r => obtain ⟨b, u, h, _⟩ := h; exact ⟨_, _, h⟩
section
variable {F T W : List Int} {E : Int × List (Int × Int)}
theorem check_iface {w : World} {fo uo wo : Option Addr} {fc tc wc : Nat} (hE : ChkIs F T W E) (hm : F.length ≤ maxLen) (hE1 : E.1 ≠ 0) (h : Arr w F T W fo uo wo fc tc wc) : Calls Tryd.prog 44 #[.agg #[.slice fo F.length fc, .slice uo T.length tc, .slice wo W.length wc]] w fun e w' => ∃ Ty x, e = .returned (.iface Ty x) ∧ IsTold w' E (.iface Ty x) ∧ Below w.heap.size w w' := by
  refine (check_any fo uo wo F.length fc T.length tc W.length wc F T W E w h.f h.t h.w hm hE).mono ?_
  rintro e w' ⟨v, rfl, ht, hb⟩
  obtain ⟨Ty, x, rfl⟩ := told_iface9 ht hE1
  exact ⟨Ty, x, rfl, ht, hb⟩
end
theorem iown_ints {w : World} {B q pc : Nat} {po : Option Addr} {xs : List Int} (hq : xs.length = q + 1) (h : w.ownsRow B 3 1 (.slice po (q + 1) pc) (q + 1) (iv xs)) : ∃ g, po = some ⟨g, 0, none⟩ ∧ q + 1 ≤ pc ∧ HasInts w (.slice (some ⟨g, 0, none⟩) (q + 1) pc) xs := by
  obtain ⟨g, cap, e2, hc⟩ := own_some h (by omega)
  injection e2 with e3 e4 e5
  subst e3
  subst e5
  have hI := ints_of_iown (l := xs) (by rw [hq]; exact h)
  exact ⟨g, rfl, hc, hI⟩

/-- what both answer: an error, or a path of that length. -/
theorem path_both (F T W : List Int) (C : Int × List (Int × Int)) (hC : ChkIs F T W C) (hm : F.length ≤ maxLen) (s t : Int) :
    (∃ E : Int × List (Int × Int), (E.1 ≠ 0 ∧ E.2.length ≤ 1) ∧
      (∀ w fo uo wo fc tc wc, Arr w F T W fo uo wo fc tc wc → Calls Tryd.prog 18 #[.agg #[.slice fo F.length fc, .slice uo T.length tc, .slice wo W.length wc], .int .i64 s, .int .i64 t] w fun e w' => ∃ v, e = .returned (.tuple #[.slice none 0 0, v]) ∧ IsTold w' E v ∧ Below w.heap.size w w') ∧
      (∀ w fo uo wo fc tc wc, Arr w F T W fo uo wo fc tc wc → Calls Tryd.prog 19 #[.agg #[.slice fo F.length fc, .slice uo T.length tc, .slice wo W.length wc], .int .i64 s, .int .i64 t] w (QAns w 0 E))) ∨
    (∃ d : Int,
      (∀ w fo uo wo fc tc wc, Arr w F T W fo uo wo fc tc wc → Calls Tryd.prog 18 #[.agg #[.slice fo F.length fc, .slice uo T.length tc, .slice wo W.length wc], .int .i64 s, .int .i64 t] w fun e w' => ∃ g q pc xs, e = .returned (.tuple #[.slice (some ⟨g, 0, none⟩) (q + 1) pc, .nilIface]) ∧ (HasInts w' (.slice (some ⟨g, 0, none⟩) (q + 1) pc) xs ∧
        (∀ wx fo uo wo fc tc wc, Arr wx F T W fo uo wo fc tc wc → HasInts wx (.slice (some ⟨g, 0, none⟩) (q + 1) pc) xs → Calls Tryd.prog 21 #[.agg #[.slice fo F.length fc, .slice uo T.length tc, .slice wo W.length wc], .slice (some ⟨g, 0, none⟩) (q + 1) pc, .int .i64 s, .int .i64 t, .int .u64 d] wx fun e w' => e = .returned (.bool true) ∧ Below wx.heap.size wx w')) ∧ Below w.heap.size w w') ∧
      (∀ w fo uo wo fc tc wc, Arr w F T W fo uo wo fc tc wc → Calls Tryd.prog 19 #[.agg #[.slice fo F.length fc, .slice uo T.length tc, .slice wo W.length wc], .int .i64 s, .int .i64 t] w (QAns w d (0, [])))) := by
  have hDC : ∀ w fo uo wo fc tc wc, Arr w F T W fo uo wo fc tc wc → ∀ wx, Below w.heap.size w wx → Calls Tryd.prog 23 #[.agg #[.slice fo F.length fc, .slice uo T.length tc, .slice wo W.length wc]] wx (DocAns wx C) := fun w fo uo wo fc tc wc h wx hx => docCheck_any fo uo wo F.length fc T.length tc W.length wc F T W C wx (h.keep hx).f (h.keep hx).t (h.keep hx).w hm hC
  rcases (chk_split hC).2 with h1 | ⟨rfl, n, m, zs, hL, hz, e1, e2, e3, e4⟩
  · refine Or.inl ⟨C, ⟨h1, (chk_split hC).1⟩, fun w fo uo wo fc tc wc h => ?_, fun w fo uo wo fc tc wc h => ?_⟩
    · refine (sPath_early (.slice fo F.length fc) (.slice uo T.length tc) (.slice wo W.length wc) s t w C (fun wx hx => check_iface hC hm h1 (h.keep hx))).mono ?_
      rintro e w' ⟨Ty, x, rfl, ht, hb⟩
      exact ⟨_, rfl, ht, hb⟩
    · obtain ⟨C1, ps⟩ := C
      exact docPath_bad fo uo wo F.length fc T.length tc W.length wc w s t C1 ps h1 (fun wx hx => node8_bad fo uo wo F.length fc T.length tc W.length wc wx s C1 ps h1 (hDC wx fo uo wo fc tc wc (h.keep hx)))
  · have hgood : ∀ w fo uo wo fc tc wc, Arr w F T W fo uo wo fc tc wc → F.length = n + 1 ∧ T.length = zs.length ∧ W.length = zs.length ∧ CsrIn w n zs fo uo wo fc tc wc ∧ ∀ wx, Below w.heap.size w wx → Calls Tryd.prog 23 #[.agg #[.slice fo (n + 1) fc, .slice uo zs.length tc, .slice wo zs.length wc]] wx (DocAns wx (0, [])) := fun w fo uo wo fc tc wc h => by
      obtain ⟨f1, f2, f3, hCI⟩ := csrIn_of h.f h.t h.w hL e1 e2 e3 e4
      have hD := hDC w fo uo wo fc tc wc h
      rw [f1, f2, f3] at hD
      exact ⟨f1, f2, f3, hCI, hD⟩
    by_cases hst : (0 ≤ s ∧ s < (n : Int)) ∧ 0 ≤ t ∧ t < (n : Int)
    · obtain ⟨p, rfl⟩ : ∃ p : Nat, s = (p : Int) := ⟨s.toNat, by omega⟩
      obtain ⟨q, rfl⟩ : ∃ q : Nat, t = (q : Int) := ⟨t.toNat, by omega⟩
      by_cases hex : ∃ D, IsDist n zs p D
      case neg =>
        refine Or.inl ⟨(7, []), ⟨by decide, by simp⟩, fun w fo uo wo fc tc wc h => ?_, fun w fo uo wo fc tc wc h => ?_⟩
        · obtain ⟨f1, f2, f3, hCI, hD⟩ := hgood w fo uo wo fc tc wc h
          rw [f1, f2, f3]
          refine (path_good n zs fo uo wo fc tc wc w hz hCI p q (by omega) (by omega)).mono ?_
          rintro e w' ⟨⟨D, hD', _⟩, _⟩
          exact absurd ⟨D, hD'⟩ hex
        · obtain ⟨f1, f2, f3, hCI, hD⟩ := hgood w fo uo wo fc tc wc h
          rw [f1, f2, f3]
          refine (docPath_go n zs fo uo wo fc tc wc w hz hCI p q (by omega) (by omega) (fun wx hx => node8_good fo uo wo fc zs.length tc zs.length wc n wx p hz.few hst.1 (fun wy hy => hD wy (btr hx hy)))).mono ?_
          rintro e w' ⟨D, d, ⟨hD', _⟩, _⟩
          exact absurd ⟨D, hD'⟩ hex
      obtain ⟨D, hDi⟩ := hex
      obtain ⟨d, hd, _⟩ := hDi.2 q (by omega)
      have hdoc : ∀ w fo uo wo fc tc wc, Arr w F T W fo uo wo fc tc wc → Calls Tryd.prog 19 #[.agg #[.slice fo F.length fc, .slice uo T.length tc, .slice wo W.length wc], .int .i64 p, .int .i64 q] w fun e w' => (d = 18446744073709551615 ∧ QAns w 0 (16, []) e w') ∨ (d ≠ 18446744073709551615 ∧ QAns w d (0, []) e w') := fun w fo uo wo fc tc wc h => by
        obtain ⟨f1, f2, f3, hCI, hD⟩ := hgood w fo uo wo fc tc wc h
        rw [f1, f2, f3]
        refine (docPath_go n zs fo uo wo fc tc wc w hz hCI p q (by omega) (by omega) (fun wx hx => node8_good fo uo wo fc zs.length tc zs.length wc n wx p hz.few hst.1 (fun wy hy => hD wy (btr hx hy)))).mono ?_
        rintro e w' ⟨D', d', ⟨hD', hd'⟩, h'⟩
        obtain rfl := hD'.unique hDi
        rw [hd] at hd'
        cases hd'
        exact h'
      by_cases hf : d = 18446744073709551615
      · refine Or.inl ⟨(16, []), ⟨by decide, by simp⟩, fun w fo uo wo fc tc wc h => ?_, fun w fo uo wo fc tc wc h => ?_⟩
        · obtain ⟨f1, f2, f3, hCI, hD⟩ := hgood w fo uo wo fc tc wc h
          rw [f1, f2, f3]
          refine (path_good n zs fo uo wo fc tc wc w hz hCI p q (by omega) (by omega)).mono ?_
          rintro e w' ⟨⟨D', hD', h'⟩, hb⟩
          obtain rfl := hD'.unique hDi
          rcases h' with ⟨_, rfl⟩ | ⟨P, d', po, pc, hd', hne, _⟩
          · exact ⟨_, rfl, told_numV _ _, hb⟩
          · rw [hd] at hd'
            cases hd'
            exact absurd hf hne
        · refine (hdoc w fo uo wo fc tc wc h).mono ?_
          rintro e w' (⟨_, h'⟩ | ⟨h', _⟩)
          · exact h'
          · exact absurd hf h'
      · refine Or.inr ⟨d, fun w fo uo wo fc tc wc h => ?_, fun w fo uo wo fc tc wc h => ?_⟩
        · obtain ⟨f1, f2, f3, hCI, hD⟩ := hgood w fo uo wo fc tc wc h
          rw [f1, f2, f3]
          refine (path_good n zs fo uo wo fc tc wc w hz hCI p q (by omega) (by omega)).mono ?_
          rintro e w' ⟨⟨D', hD', h'⟩, hb⟩
          obtain rfl := hD'.unique hDi
          rcases h' with ⟨h2, _⟩ | ⟨P, d', po, pc, hd', hne, hPT, hP0, ⟨hnd, hpl⟩, he, ho⟩
          · rw [hd] at h2
            exact absurd (Option.some.inj h2) hf
          · rw [hd] at hd'
            cases hd'
            obtain ⟨ws, hPI⟩ := pathIs_of hz (by omega) hPT hP0 hnd hpl
            have hl : 0 < P.length := (List.getElem?_eq_some_iff.1 hP0).1
            obtain ⟨k, hk⟩ : ∃ k, P.length = k + 1 := ⟨P.length - 1, by omega⟩
            have hxl : (nums P).reverse.length = k + 1 := by rw [List.length_reverse, nums_len, hk]
            rw [hk] at he ho
            obtain ⟨g, rfl, hc, hI⟩ := iown_ints hxl ho
            refine ⟨g, k, pc, (nums P).reverse, he, ⟨hI, fun wx fo2 uo2 wo2 fc2 tc2 wc2 h2 hI2 => ?_⟩, hb⟩
            obtain ⟨_, _, _, hCI2, hD2⟩ := hgood wx fo2 uo2 wo2 fc2 tc2 wc2 h2
            exact rPath_yes n zs fo2 uo2 wo2 fc2 tc2 wc2 wx hz hCI2 g pc k p q d (nums P).reverse ws hxl hI2 hc hPI hD2
        · refine (hdoc w fo uo wo fc tc wc h).mono ?_
          rintro e w' (⟨h', _⟩ | ⟨_, h'⟩)
          · exact absurd h' hf
          · exact h'
    · refine Or.inl ⟨(7, []), ⟨by decide, by simp⟩, fun w fo uo wo fc tc wc h => ?_, fun w fo uo wo fc tc wc h => ?_⟩
      · obtain ⟨f1, f2, f3, hCI, hD⟩ := hgood w fo uo wo fc tc wc h
        rw [f1, f2, f3]
        refine (sPath_node n zs fo uo wo fc tc wc w hz hCI s t hst).mono ?_
        rintro e w' ⟨rfl, hb⟩
        exact ⟨_, rfl, told_numV _ _, hb⟩
      · obtain ⟨f1, f2, f3, hCI, hD⟩ := hgood w fo uo wo fc tc wc h
        rw [f1, f2, f3]
        by_cases hs : 0 ≤ s ∧ s < (n : Int)
        · exact docPath_node fo uo wo n fc zs.length tc zs.length wc w s t hz.few (fun ht => hst ⟨hs, ht⟩) (fun wx hx => node8_good fo uo wo fc zs.length tc zs.length wc n wx s hz.few hs (fun wy hy => hD wy (btr hx hy)))
        · exact docPath_bad fo uo wo (n + 1) fc zs.length tc zs.length wc w s t 7 [] (by decide) (fun wx hx => node8_no fo uo wo fc zs.length tc zs.length wc n wx s hz.few hs (fun wy hy => hD wy (btr hx hy)))

set_option maxRecDepth 100000 in
set_option maxHeartbeats 8000000 in
theorem paths8_calls (fo uo wo : Option Addr) (fc tc wc : Nat) (F T W : List Int) (mF : F.length * 8 ≤ 140737488351232) (mT : T.length * 8 ≤ 140737488351232) (mW : W.length * 8 ≤ 140737488351232) (w : World) (hA : Arr w F T W fo uo wo fc tc wc) (s t : Int) (hg : HasType w) :
    Calls Tryd.prog 5 #[.agg #[.slice fo F.length fc, .slice uo T.length tc, .slice wo W.length wc], .int .i64 s, .int .i64 t] w fun e w' => e = .returned (.bool true) ∧ Below w.heap.size w w' := by
  obtain ⟨C, hC⟩ := chk_total F T W
  obtain ⟨W0, hW0⟩ : ∃ W0, w.alloc (.cells #[.slice fo F.length fc, .slice uo T.length tc, .slice wo W.length wc] 24) = W0 := ⟨_, rfl⟩
  have HW0 : Hid (w.alloc (.cells #[.slice fo F.length fc, .slice uo T.length tc, .slice wo W.length wc] 24) = W0) := hW0
  have hB0 : Below w.heap.size w W0 := by rw [← hW0]; exact (Below.refl _ w).alloc (Nat.le_refl _) _
  have hbx : W0.heap[w.heap.size]? = some (.cells #[.slice fo F.length fc, .slice uo T.length tc, .slice wo W.length wc] 24) := by rw [← hW0]; exact heap_new _ _
  have hmF : F.length ≤ maxLen := by unfold maxLen; omega
  have HPB : Hid (type_of% (path_both F T W C hC hmF s t)) := path_both F T W C hC hmF s t
  have HK : Hid (∀ wx, Below W0.heap.size W0 wx → (wx.cell? ⟨w.heap.size, 0, none⟩ = some (.slice fo F.length fc) ∧ wx.cell? ⟨w.heap.size, 1, none⟩ = some (.slice uo T.length tc) ∧ wx.cell? ⟨w.heap.size, 2, none⟩ = some (.slice wo W.length wc)) ∧ w.heap.size < wx.heap.size ∧ Below w.heap.size w wx) := fun wx hwx => by
    have hg := (hwx.block _ (lt_of_get hbx)).trans hbx
    exact ⟨box3 hg, lt_of_get hg, hB0.trans (hwx.mono hB0.size)⟩
  have HX : Hid (∀ wx, Below W0.heap.size W0 wx → Arr wx F T W fo uo wo fc tc wc) := fun wx hwx => hA.keep (HK.out wx hwx).2.2
  have HG : Hid (∀ wx, Below w.heap.size w wx → HasType wx) := fun wx h => hg.keep h hg.pos
  have HFW : Hid (∀ wx, Below W0.heap.size W0 wx → Calls Tryd.prog 7 #[.agg #[.slice fo F.length fc, .slice uo T.length tc, .slice wo W.length wc]] wx fun e w' => (∃ b : Bool, e = .returned (.bool b)) ∧ Below wx.heap.size wx w') := fun wx hwx => by
    refine (few8_calls fo uo wo fc tc wc F T W C hC hmF wx (HX.out wx hwx)).mono ?_
    rintro e w' ⟨⟨b, he, _⟩, hb⟩
    exact ⟨⟨b, he⟩, hb⟩
  have HOF : Hid (∀ wx, Below W0.heap.size W0 wx → Calls Tryd.prog 9 #[.agg #[.slice fo F.length fc, .slice uo T.length tc, .slice wo W.length wc]] wx fun e w' => ∃ fo2 fc2 uo2 tc2 wo2 wc2, e = .returned (.agg #[.slice fo2 F.length fc2, .slice uo2 T.length tc2, .slice wo2 W.length wc2]) ∧ Arr w' F T W fo2 uo2 wo2 fc2 tc2 wc2 ∧ Below wx.heap.size wx w') := fun wx hwx => by
    have hA2 := HX.out wx hwx
    refine (of8_calls fo uo wo fc tc wc F T W wx hA2.f hA2.t hA2.w mF mT mW).mono ?_
    rintro e w' ⟨fo2, fc2, uo2, tc2, wo2, wc2, he, ho, hb⟩
    exact ⟨fo2, fc2, uo2, tc2, wo2, wc2, he, Own3.arr ho, hb⟩
  clear hW0 hB0 hbx hA hC hmF mF mT mW hg
  go_enter Tryd.func5, Tryd.ntmps5
  go_wp2_with fail
  rw [HW0.out]
  refine (awake8_calls W0).mono ?_
  rintro e w1 ⟨rfl, hb⟩
  have HB1 : Hid (Below W0.heap.size W0 w1) := hb
  clear hb
  obtain ⟨⟨c0, c1, c2⟩, cs, _⟩ := HK.out w1 HB1.out
  go_wp2_with fail
  refine (HFW.out w1 HB1.out).mono ?_
  rintro e w2 ⟨⟨fb, rfl⟩, hb⟩
  have HB2 : Hid (Below W0.heap.size W0 w2) := btr HB1.out hb
  have HBZ : Hid (Below w.heap.size w w2) := (HK.out w2 HB2.out).2.2
  clear hb HB1 c0 c1 c2 cs
  cases fb
  · go_wp2
    go_ret
    exact ⟨rfl, HBZ.out⟩
  · clear HBZ
    obtain ⟨⟨c0, c1, c2⟩, cs, _⟩ := HK.out w2 HB2.out
    go_wp2_with fail
    refine (HOF.out w2 HB2.out).mono ?_
    rintro e w3 ⟨fo2, fc2, uo2, tc2, wo2, wc2, rfl, hA2, hb⟩
    have H3 : Hid (Below W0.heap.size W0 w3 ∧ Arr w3 F T W fo2 uo2 wo2 fc2 tc2 wc2) := ⟨btr HB2.out hb, hA2⟩
    clear hb hA2 c0 c1 c2 cs
    rcases HPB.out with ⟨E, hE, hp, hq⟩ | ⟨d, hp, hq⟩
    · have HE : Hid (E.1 ≠ 0 ∧ E.2.length ≤ 1) := hE
      have HP : Hid (type_of% hp) := hp
      have HQ : Hid (type_of% hq) := hq
      have HSE : Hid (∀ wx v po pc, Below w.heap.size w wx → IsTold wx E v → HasPlaces wx (.slice po E.2.length pc) E.2 → Calls Tryd.prog 12 #[v, .agg #[.int .i64 E.1, .slice po E.2.length pc]] wx fun r w' => r = .returned (.bool true) ∧ Below wx.heap.size wx w') := fun wx v po pc hb h k => seen_told E v po pc wx h k (by have := HE.out.2; unfold maxLen; omega) (HG.out wx hb)
      have HBT : Hid (∀ l, (E.1 != 0 || decide (0 < l)) = true) := fun l => badT HE.out.1 l
      clear hE hp hq
      go_wp2_with fail
      refine (HP.out w3 fo2 uo2 wo2 fc2 tc2 wc2 H3.out.2).mono ?_
      rintro e w4 ⟨v, rfl, hv, hb⟩
      have H4 : Hid (Below W0.heap.size W0 w4 ∧ IsTold w4 E v) := ⟨btr H3.out.1 hb, hv⟩
      clear hb hv
      obtain ⟨⟨c0, c1, c2⟩, cs, _⟩ := HK.out w4 H4.out.1
      go_wp2_with fail
      refine (HQ.out w4 fo uo wo fc tc wc (HX.out w4 H4.out.1)).mono ?_
      rintro e w6 ⟨po, pc, rfl, hP, hb⟩
      have hb7 : Below w6.heap.size w6 (w6.alloc (.cells #[.int .i64 E.1, .slice po E.2.length pc] 36)) := below1 _ _
      have h6 := (btr H4.out.1 hb)
      have H7 : Hid (Below W0.heap.size W0 (w6.alloc (.cells #[.int .i64 E.1, .slice po E.2.length pc] 36)) ∧ IsTold (w6.alloc (.cells #[.int .i64 E.1, .slice po E.2.length pc] 36)) E v ∧ HasPlaces (w6.alloc (.cells #[.int .i64 E.1, .slice po E.2.length pc] 36)) (.slice po E.2.length pc) E.2 ∧ (w6.alloc (.cells #[.int .i64 E.1, .slice po E.2.length pc] 36)).heap[w6.heap.size]? = some (.cells #[.int .i64 E.1, .slice po E.2.length pc] 36)) := ⟨btr h6 hb7, (H4.out.2.keep (Below.keeps hb)).keep (Below.keeps hb7), hP.keep hb7, heap_new _ _⟩
      clear hb7 h6 hb hP c0 c1 c2 cs
      go_wp2_with fail
      generalize w6.alloc (.cells #[.int .i64 E.1, .slice po E.2.length pc] 36) = W7 at *
      generalize w6.heap.size = eb at *
      refine (bad_calls _ _ _ _ W7).mono ?_
      rw [HBT.out]
      rintro e w8 ⟨rfl, hb⟩
      have H8 : Hid (Below W0.heap.size W0 w8 ∧ IsTold w8 E v ∧ HasPlaces w8 (.slice po E.2.length pc) E.2 ∧ w8.heap[eb]? = some (.cells #[.int .i64 E.1, .slice po E.2.length pc] 36)) := ⟨btr H7.out.1 hb, H7.out.2.1.keep (Below.keeps hb), H7.out.2.2.1.keep hb, (hb.block _ (lt_of_get H7.out.2.2.2)).trans H7.out.2.2.2⟩
      clear hb
      obtain ⟨e0, e1, _, _⟩ := cell_two H8.out.2.2.2
      have es := lt_of_get H8.out.2.2.2
      go_wp2_with fail
      refine (HSE.out w8 v po pc (HK.out w8 H8.out.1).2.2 H8.out.2.1 H8.out.2.2.1).mono ?_
      rintro e w9 ⟨rfl, hb⟩
      have HBY : Hid (Below w.heap.size w w9) := (HK.out w9 (btr H8.out.1 hb)).2.2
      clear hb e0 e1 es
      go_wp2
      go_ret
      exact ⟨rfl, HBY.out⟩
    · have HP : Hid (type_of% hp) := hp
      have HQ : Hid (type_of% hq) := hq
      clear hp hq
      go_wp2_with fail
      refine (HP.out w3 fo2 uo2 wo2 fc2 tc2 wc2 H3.out.2).mono ?_
      rintro e w4 ⟨g, q, qc, xs, rfl, hv, hb⟩
      have H4 : Hid (Below W0.heap.size W0 w4 ∧ HasInts w4 (.slice (some ⟨g, 0, none⟩) (q + 1) qc) xs) := ⟨btr H3.out.1 hb, hv.1⟩
      have HRP : Hid (type_of% hv.2) := hv.2
      clear hb hv
      obtain ⟨⟨c0, c1, c2⟩, cs, _⟩ := HK.out w4 H4.out.1
      go_wp2_with fail
      refine (HQ.out w4 fo uo wo fc tc wc (HX.out w4 H4.out.1)).mono ?_
      rintro e w6 ⟨po, pc, rfl, hP, hb⟩
      have hb7 : Below w6.heap.size w6 (w6.alloc (.cells #[.int .i64 0, .slice po 0 pc] 36)) := below1 _ _
      have h6 := (btr H4.out.1 hb)
      have H7 : Hid (Below W0.heap.size W0 (w6.alloc (.cells #[.int .i64 0, .slice po 0 pc] 36)) ∧ HasInts (w6.alloc (.cells #[.int .i64 0, .slice po 0 pc] 36)) (.slice (some ⟨g, 0, none⟩) (q + 1) qc) xs) := ⟨btr h6 hb7, (H4.out.2.keep hb).keep hb7⟩
      clear hb7 h6 hb hP c0 c1 c2 cs
      go_wp2_with fail
      generalize w6.alloc (.cells #[.int .i64 0, .slice po 0 pc] 36) = W7 at *
      refine (bad_calls _ _ _ _ W7).mono ?_
      rw [show ((0 : Int) != 0 || decide (0 < 0)) = false from rfl]
      rintro e w8 ⟨rfl, hb⟩
      have H8 : Hid (Below W0.heap.size W0 w8 ∧ HasInts w8 (.slice (some ⟨g, 0, none⟩) (q + 1) qc) xs) := ⟨btr H7.out.1 hb, H7.out.2.keep hb⟩
      clear hb
      obtain ⟨⟨c0, c1, c2⟩, cs, _⟩ := HK.out w8 H8.out.1
      go_wp2_with fail
      refine (HRP.out w8 fo uo wo fc tc wc (HX.out w8 H8.out.1) H8.out.2).mono ?_
      rintro e w9 ⟨rfl, hb⟩
      have HBY : Hid (Below w.heap.size w w9) := (HK.out w9 (btr H8.out.1 hb)).2.2
      clear hb c0 c1 c2 cs
      go_wp2
      go_ret
      exact ⟨rfl, HBY.out⟩
end Go.Proofs.YtnkfggccahohpaaDoor
