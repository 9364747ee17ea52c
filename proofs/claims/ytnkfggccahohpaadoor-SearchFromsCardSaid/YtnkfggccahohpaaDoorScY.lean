/- the law SearchFroms. the law SearchFroms: its walk. -/
import Derived.Test.YtnkfggccahohpaaDoorSbW
import Derived.Test.YtnkfggccahohpaaDoorScX
namespace Go.Proofs.YtnkfggccahohpaaDoor
open Go.RowKit Go.Extern

attribute [local go_sem] Oper.semAt_some

/-- what From of both answers. -/
def FP (w : World) (D : List Int) (E : Int × List (Int × Int)) (e : Ending) (w' : World) : Prop := ∃ ao ac v, e = .returned (.tuple #[.slice ao D.length ac, v]) ∧ URow w' ao D ∧ IsTold w' E v ∧ Below w.heap.size w w'
def FD (w : World) (D : List Int) (E : Int × List (Int × Int)) (e : Ending) (w' : World) : Prop := ∃ bo bc po pc, e = .returned (.tuple #[.slice bo D.length bc, .agg #[.int .i64 E.1, .slice po E.2.length pc]]) ∧ URow w' bo D ∧ HasPlaces w' (.slice po E.2.length pc) E.2 ∧ Below w.heap.size w w'
/-- what Matrix of both answers. -/
def MP (w : World) (n : Nat) (zs : List (Int × Int × Int)) (E : Int × List (Int × Int)) (e : Ending) (w' : World) : Prop := ∃ ao ac vs v, e = .returned (.tuple #[.slice ao n ac, v]) ∧ (vs.length = n ∧ HasRows w' ao vs ∧ Mat w' n zs vs) ∧ IsTold w' E v ∧ Below w.heap.size w w'
def MD (w : World) (n : Nat) (zs : List (Int × Int × Int)) (E : Int × List (Int × Int)) (e : Ending) (w' : World) : Prop := ∃ bo bc vs po pc, e = .returned (.tuple #[.slice bo n bc, .agg #[.int .i64 E.1, .slice po E.2.length pc]]) ∧ (vs.length = n ∧ HasRows w' bo vs ∧ Mat w' n zs vs) ∧ HasPlaces w' (.slice po E.2.length pc) E.2 ∧ Below w.heap.size w w'
theorem urow_nil (w : World) : URow w none [] := Or.inl ⟨rfl, rfl⟩
theorem hrows_nil (w : World) (lo : Option Addr) : HasRows w lo [] := fun i v hv => by simp at hv
theorem mat_nil (w : World) (zs : List (Int × Int × Int)) : Mat w 0 zs [] := fun i v hv => by simp at hv
theorem told_nil (w : World) : IsTold w (0, []) .nilIface := Or.inl ⟨rfl, rfl⟩

section
variable (F T W : List Int) (C : Int × List (Int × Int))
theorem good_of (hC : ChkIs F T W (0, [])) (hm : F.length ≤ maxLen) {n m : Nat} {zs : List (Int × Int × Int)} (hL : Lens F T W n m) (e1 : firsts n zs = F) (e2 : tos zs = T) (e3 : weights zs = W) (e4 : zs.length = m) : ∀ w fo uo wo fc tc wc, Arr w F T W fo uo wo fc tc wc → F.length = n + 1 ∧ T.length = zs.length ∧ W.length = zs.length ∧ CsrIn w n zs fo uo wo fc tc wc ∧ ∀ wx, Below w.heap.size w wx → Calls Tryd.prog 23 #[.agg #[.slice fo (n + 1) fc, .slice uo zs.length tc, .slice wo zs.length wc]] wx (DocAns wx (0, [])) := fun w fo uo wo fc tc wc h => by
  obtain ⟨f1, f2, f3, hCI⟩ := csrIn_of h.f h.t h.w hL e1 e2 e3 e4
  have hD : ∀ wx, Below w.heap.size w wx → Calls Tryd.prog 23 #[.agg #[.slice fo F.length fc, .slice uo T.length tc, .slice wo W.length wc]] wx (DocAns wx (0, [])) := fun wx hx => docCheck_any fo uo wo F.length fc T.length tc W.length wc F T W (0, []) wx (h.keep hx).f (h.keep hx).t (h.keep hx).w hm hC
  rw [f1, f2, f3] at hD
  exact ⟨f1, f2, f3, hCI, hD⟩
theorem from_both (hC : ChkIs F T W C) (hm : F.length ≤ maxLen) (s : Int) : ∃ (D : List Int) (E : Int × List (Int × Int)), (D.length ≤ 65536 ∧ E.2.length ≤ 1) ∧
    (∀ w fo uo wo fc tc wc, Arr w F T W fo uo wo fc tc wc → Calls Tryd.prog 8 #[.agg #[.slice fo F.length fc, .slice uo T.length tc, .slice wo W.length wc], .int .i64 s] w (FP w D E)) ∧
    (∀ w fo uo wo fc tc wc, Arr w F T W fo uo wo fc tc wc → Calls Tryd.prog 10 #[.agg #[.slice fo F.length fc, .slice uo T.length tc, .slice wo W.length wc], .int .i64 s] w (FD w D E)) := by
  have hDC : ∀ w fo uo wo fc tc wc, Arr w F T W fo uo wo fc tc wc → ∀ wx, Below w.heap.size w wx → Calls Tryd.prog 23 #[.agg #[.slice fo F.length fc, .slice uo T.length tc, .slice wo W.length wc]] wx (DocAns wx C) := fun w fo uo wo fc tc wc h wx hx => docCheck_any fo uo wo F.length fc T.length tc W.length wc F T W C wx (h.keep hx).f (h.keep hx).t (h.keep hx).w hm hC
  rcases (chk_split hC).2 with h1 | ⟨rfl, n, m, zs, hL, hz, e1, e2, e3, e4⟩
  · refine ⟨[], C, ⟨by simp, (chk_split hC).1⟩, fun w fo uo wo fc tc wc h => ?_, fun w fo uo wo fc tc wc h => ?_⟩
    · refine (sFrom_early (.slice fo F.length fc) (.slice uo T.length tc) (.slice wo W.length wc) s w C (fun wx hx => check_iface hC hm h1 (h.keep hx))).mono ?_
      rintro e w' ⟨Ty, x, rfl, ht, hb⟩
      exact ⟨none, 0, _, rfl, urow_nil _, ht, hb⟩
    · obtain ⟨C1, ps⟩ := C
      refine (docFrom_bad fo uo wo F.length fc T.length tc W.length wc w s C1 ps h1 (fun wx hx => node8_bad fo uo wo F.length fc T.length tc W.length wc wx s C1 ps h1 (hDC wx fo uo wo fc tc wc (h.keep hx)))).mono ?_
      rintro e w' ⟨po, pc, rfl, hp, hb⟩
      exact ⟨none, 0, po, pc, rfl, urow_nil _, hp, hb⟩
  · have hgood := good_of F T W hC hm hL e1 e2 e3 e4
    by_cases hs : 0 ≤ s ∧ s < (n : Int)
    · obtain ⟨p, rfl⟩ : ∃ p : Nat, s = (p : Int) := ⟨s.toNat, by omega⟩
      by_cases hex : ∃ D, IsDist n zs p D
      · obtain ⟨D, hDi⟩ := hex
        have hl := hDi.1
        refine ⟨D, (0, []), ⟨by rw [hl]; exact hz.few, by simp⟩, fun w fo uo wo fc tc wc h => ?_, fun w fo uo wo fc tc wc h => ?_⟩
        · obtain ⟨f1, f2, f3, hCI, hD⟩ := hgood w fo uo wo fc tc wc h
          rw [f1, f2, f3]
          refine (from_good n zs fo uo wo fc tc wc w hz hCI p (by omega)).mono ?_
          rintro e w' ⟨db, D', rfl, hD', hU, hb⟩
          obtain rfl := hD'.unique hDi
          exact ⟨some ⟨db, 0, none⟩, n, .nilIface, by rw [hl], Or.inr ⟨db, rfl, hU⟩, told_nil _, hb⟩
        · obtain ⟨f1, f2, f3, hCI, hD⟩ := hgood w fo uo wo fc tc wc h
          rw [f1, f2, f3]
          refine (docFrom_good n zs fo uo wo fc tc wc w hz hCI p (by omega) (fun wx hx => node8_good fo uo wo fc zs.length tc zs.length wc n wx p hz.few hs (fun wy hy => hD wy (btr hx hy)))).mono ?_
          rintro e w' ⟨db, D', rfl, hD', hU, hb⟩
          obtain rfl := hD'.unique hDi
          exact ⟨some ⟨db, 0, none⟩, n, none, 0, by rw [hl]; rfl, Or.inr ⟨db, rfl, hU⟩, places_nil _, hb⟩
      · refine ⟨[], (0, []), ⟨by simp, by simp⟩, fun w fo uo wo fc tc wc h => ?_, fun w fo uo wo fc tc wc h => ?_⟩
        · obtain ⟨f1, f2, f3, hCI, hD⟩ := hgood w fo uo wo fc tc wc h
          rw [f1, f2, f3]
          refine (from_good n zs fo uo wo fc tc wc w hz hCI p (by omega)).mono ?_
          rintro e w' ⟨db, D', _, hD', _⟩
          exact absurd ⟨D', hD'⟩ hex
        · obtain ⟨f1, f2, f3, hCI, hD⟩ := hgood w fo uo wo fc tc wc h
          rw [f1, f2, f3]
          refine (docFrom_good n zs fo uo wo fc tc wc w hz hCI p (by omega) (fun wx hx => node8_good fo uo wo fc zs.length tc zs.length wc n wx p hz.few hs (fun wy hy => hD wy (btr hx hy)))).mono ?_
          rintro e w' ⟨db, D', _, hD', _⟩
          exact absurd ⟨D', hD'⟩ hex
    · refine ⟨[], (7, []), ⟨by simp, by simp⟩, fun w fo uo wo fc tc wc h => ?_, fun w fo uo wo fc tc wc h => ?_⟩
      · obtain ⟨f1, f2, f3, hCI, hD⟩ := hgood w fo uo wo fc tc wc h
        rw [f1, f2, f3]
        refine (sFrom_node n zs fo uo wo fc tc wc w hz hCI s hs).mono ?_
        rintro e w' ⟨rfl, hb⟩
        exact ⟨none, 0, _, rfl, urow_nil _, told_numV _ 7, hb⟩
      · obtain ⟨f1, f2, f3, hCI, hD⟩ := hgood w fo uo wo fc tc wc h
        rw [f1, f2, f3]
        refine (docFrom_bad fo uo wo (n + 1) fc zs.length tc zs.length wc w s 7 [] (by decide) (fun wx hx => node8_no fo uo wo fc zs.length tc zs.length wc n wx s hz.few hs (fun wy hy => hD wy (btr hx hy)))).mono ?_
        rintro e w' ⟨po, pc, rfl, hp, hb⟩
        exact ⟨none, 0, po, pc, rfl, urow_nil _, hp, hb⟩
theorem matrix_both (hC : ChkIs F T W C) (hm : F.length ≤ maxLen) (hfew : C.1 ≠ 0 ∨ 0 < C.2.length ∨ F.length ≤ 30) : ∃ (n : Nat) (zs : List (Int × Int × Int)) (E : Int × List (Int × Int)), (n ≤ 65536 ∧ E.2.length ≤ 1) ∧
    (∀ w fo uo wo fc tc wc, Arr w F T W fo uo wo fc tc wc → Calls Tryd.prog 13 #[.agg #[.slice fo F.length fc, .slice uo T.length tc, .slice wo W.length wc]] w (MP w n zs E)) ∧
    (∀ w fo uo wo fc tc wc, Arr w F T W fo uo wo fc tc wc → Calls Tryd.prog 14 #[.agg #[.slice fo F.length fc, .slice uo T.length tc, .slice wo W.length wc]] w (MD w n zs E)) := by
  have hDC : ∀ w fo uo wo fc tc wc, Arr w F T W fo uo wo fc tc wc → ∀ wx, Below w.heap.size w wx → Calls Tryd.prog 23 #[.agg #[.slice fo F.length fc, .slice uo T.length tc, .slice wo W.length wc]] wx (DocAns wx C) := fun w fo uo wo fc tc wc h wx hx => docCheck_any fo uo wo F.length fc T.length tc W.length wc F T W C wx (h.keep hx).f (h.keep hx).t (h.keep hx).w hm hC
  rcases (chk_split hC).2 with h1 | ⟨rfl, n, m, zs, hL, hz, e1, e2, e3, e4⟩
  · refine ⟨0, [], C, ⟨by omega, (chk_split hC).1⟩, fun w fo uo wo fc tc wc h => ?_, fun w fo uo wo fc tc wc h => ?_⟩
    · refine (sMatrix_early (.slice fo F.length fc) (.slice uo T.length tc) (.slice wo W.length wc) w C (fun wx hx => check_iface hC hm h1 (h.keep hx))).mono ?_
      rintro e w' ⟨Ty, x, rfl, ht, hb⟩
      exact ⟨none, 0, [], _, rfl, ⟨rfl, hrows_nil _ _, mat_nil _ _⟩, ht, hb⟩
    · obtain ⟨C1, ps⟩ := C
      refine (docMatrix_bad fo uo wo F.length fc T.length tc W.length wc w C1 ps h1 (hDC w fo uo wo fc tc wc h)).mono ?_
      rintro e w' ⟨po, pc, rfl, hp, hb⟩
      exact ⟨none, 0, [], po, pc, rfl, ⟨rfl, hrows_nil _ _, mat_nil _ _⟩, hp, hb⟩
  · have hgood := good_of F T W hC hm hL e1 e2 e3 e4
    have hf30 : F.length ≤ 30 := by
      rcases hfew with h | h | h
      · exact absurd rfl h
      · simp at h
      · exact h
    have hn : n ≤ 1024 := by have := hL.f; omega
    refine ⟨n, zs, (0, []), ⟨by omega, by simp⟩, fun w fo uo wo fc tc wc h => ?_, fun w fo uo wo fc tc wc h => ?_⟩
    · obtain ⟨f1, f2, f3, hCI, hD⟩ := hgood w fo uo wo fc tc wc h
      rw [f1, f2, f3]
      refine (sMatrix_good n zs fo uo wo fc tc wc w hz hCI hn).mono ?_
      rintro e w' ⟨rb, vs, rfl, hv, hR, hM, hb⟩
      exact ⟨some ⟨rb, 0, none⟩, n, vs, .nilIface, rfl, ⟨hv, rows_of_at hR, hM⟩, told_nil _, hb⟩
    · obtain ⟨f1, f2, f3, hCI, hD⟩ := hgood w fo uo wo fc tc wc h
      rw [f1, f2, f3]
      refine (docMatrix_good n zs fo uo wo fc tc wc w hz hCI hn hD).mono ?_
      rintro e w' ⟨lo, lc, vs, rfl, hv, hR, hM, hb⟩
      exact ⟨lo, lc, vs, none, 0, rfl, ⟨hv, hR, hM⟩, places_nil _, hb⟩
end
end Go.Proofs.YtnkfggccahohpaaDoor

namespace Go.Proofs.YtnkfggccahohpaaDoor
open Go.RowKit Go.Extern

attribute [local go_sem] Oper.semAt_some

set_option maxRecDepth 100000 in
set_option maxHeartbeats 8000000 in
theorem froms8_calls (fo uo wo : Option Addr) (fc tc wc : Nat) (F T W : List Int) (mF : F.length * 8 ≤ 140737488351232) (mT : T.length * 8 ≤ 140737488351232) (mW : W.length * 8 ≤ 140737488351232) (w : World) (hA : Arr w F T W fo uo wo fc tc wc) (s : Int) (hg : HasType w) :
    Calls Tryd.prog 3 #[.agg #[.slice fo F.length fc, .slice uo T.length tc, .slice wo W.length wc], .int .i64 s] w fun e w' => e = .returned (.bool true) ∧ Below w.heap.size w w' := by
  obtain ⟨C, hC⟩ := chk_total F T W
  obtain ⟨W0, hW0⟩ : ∃ W0, w.alloc (.cells #[.slice fo F.length fc, .slice uo T.length tc, .slice wo W.length wc] 24) = W0 := ⟨_, rfl⟩
  have HW0 : Hid (w.alloc (.cells #[.slice fo F.length fc, .slice uo T.length tc, .slice wo W.length wc] 24) = W0) := hW0
  have hB0 : Below w.heap.size w W0 := by rw [← hW0]; exact (Below.refl _ w).alloc (Nat.le_refl _) _
  have hbx : W0.heap[w.heap.size]? = some (.cells #[.slice fo F.length fc, .slice uo T.length tc, .slice wo W.length wc] 24) := by rw [← hW0]; exact heap_new _ _
  have hmF : F.length ≤ maxLen := by unfold maxLen; omega
  obtain ⟨D, E, hDE, hp, hq⟩ := from_both F T W C hC hmF s
  have HMB : Hid ((C.1 ≠ 0 ∨ 0 < C.2.length ∨ F.length ≤ 30) → ∃ (n : Nat) (zs : List (Int × Int × Int)) (E : Int × List (Int × Int)), (n ≤ 65536 ∧ E.2.length ≤ 1) ∧ (∀ w fo uo wo fc tc wc, Arr w F T W fo uo wo fc tc wc → Calls Tryd.prog 13 #[.agg #[.slice fo F.length fc, .slice uo T.length tc, .slice wo W.length wc]] w (MP w n zs E)) ∧ (∀ w fo uo wo fc tc wc, Arr w F T W fo uo wo fc tc wc → Calls Tryd.prog 14 #[.agg #[.slice fo F.length fc, .slice uo T.length tc, .slice wo W.length wc]] w (MD w n zs E))) := fun h => matrix_both F T W C hC hmF h
  have HK : Hid (∀ wx, Below W0.heap.size W0 wx → (wx.cell? ⟨w.heap.size, 0, none⟩ = some (.slice fo F.length fc) ∧ wx.cell? ⟨w.heap.size, 1, none⟩ = some (.slice uo T.length tc) ∧ wx.cell? ⟨w.heap.size, 2, none⟩ = some (.slice wo W.length wc)) ∧ w.heap.size < wx.heap.size ∧ Below w.heap.size w wx) := fun wx hwx => by
    have hg := (hwx.block _ (lt_of_get hbx)).trans hbx
    exact ⟨box3 hg, lt_of_get hg, hB0.trans (hwx.mono hB0.size)⟩
  have HX : Hid (∀ wx, Below W0.heap.size W0 wx → Arr wx F T W fo uo wo fc tc wc) := fun wx hwx => hA.keep (HK.out wx hwx).2.2
  have HG : Hid (∀ wx, Below w.heap.size w wx → HasType wx) := fun wx h => hg.keep h hg.pos
  have HFW : Hid (∀ wx, Below W0.heap.size W0 wx → Calls Tryd.prog 7 #[.agg #[.slice fo F.length fc, .slice uo T.length tc, .slice wo W.length wc]] wx fun e w' => (∃ b : Bool, e = .returned (.bool b) ∧ (b = true → C.1 ≠ 0 ∨ 0 < C.2.length ∨ F.length ≤ 30)) ∧ Below wx.heap.size wx w') := fun wx hwx => few8_calls fo uo wo fc tc wc F T W C hC hmF wx (HX.out wx hwx)
  have HOF : Hid (∀ wx, Below W0.heap.size W0 wx → Calls Tryd.prog 9 #[.agg #[.slice fo F.length fc, .slice uo T.length tc, .slice wo W.length wc]] wx fun e w' => ∃ fo2 fc2 uo2 tc2 wo2 wc2, e = .returned (.agg #[.slice fo2 F.length fc2, .slice uo2 T.length tc2, .slice wo2 W.length wc2]) ∧ Arr w' F T W fo2 uo2 wo2 fc2 tc2 wc2 ∧ Below wx.heap.size wx w') := fun wx hwx => by
    have hA2 := HX.out wx hwx
    refine (of8_calls fo uo wo fc tc wc F T W wx hA2.f hA2.t hA2.w mF mT mW).mono ?_
    rintro e w' ⟨fo2, fc2, uo2, tc2, wo2, wc2, he, ho, hb⟩
    exact ⟨fo2, fc2, uo2, tc2, wo2, wc2, he, Own3.arr ho, hb⟩
  have HSEE : Hid (∀ (E : Int × List (Int × Int)), E.2.length ≤ 1 → ∀ wx v po pc, Below w.heap.size w wx → IsTold wx E v → HasPlaces wx (.slice po E.2.length pc) E.2 → Calls Tryd.prog 12 #[v, .agg #[.int .i64 E.1, .slice po E.2.length pc]] wx fun r w' => r = .returned (.bool true) ∧ Below wx.heap.size wx w') := fun E hE wx v po pc hb h k => seen_told E v po pc wx h k (by unfold maxLen; omega) (HG.out wx hb)
  have HP : Hid (type_of% hp) := hp
  have HQ : Hid (type_of% hq) := hq
  have HDE : Hid (D.length ≤ 65536 ∧ E.2.length ≤ 1) := hDE
  have HSE := HSEE.out E hDE.2
  have HSE1 : Hid (type_of% HSE) := HSE
  have HSR : Hid (∀ wx ao ac bo bc, URow wx ao D → URow wx bo D → Calls Tryd.prog 11 #[.slice ao D.length ac, .slice bo D.length bc] wx fun e w' => e = .returned (.bool true) ∧ Below wx.heap.size wx w') := fun wx ao ac bo bc h1 h2 => sameRow_yes ao bo ac bc D wx h1 h2 (by have := hDE.1; unfold maxLen; omega)
  clear hW0 hB0 hbx hA hC hmF mF mT mW hg hp hq hDE HSE
  go_enter Tryd.func3, Tryd.ntmps3
  go_wp2_with fail
  rw [HW0.out]
  refine (awake8_calls W0).mono ?_
  rintro e w1 ⟨rfl, hb⟩
  have HB1 : Hid (Below W0.heap.size W0 w1) := hb
  clear hb
  obtain ⟨⟨c0, c1, c2⟩, cs, _⟩ := HK.out w1 HB1.out
  go_wp2_with fail
  refine (HFW.out w1 HB1.out).mono ?_
  rintro e w2 ⟨⟨fb, rfl, hfb⟩, hb⟩
  have HFB : Hid (fb = true → C.1 ≠ 0 ∨ 0 < C.2.length ∨ F.length ≤ 30) := hfb
  have HB2 : Hid (Below W0.heap.size W0 w2) := btr HB1.out hb
  have HBZ : Hid (Below w.heap.size w w2) := (HK.out w2 HB2.out).2.2
  clear hb HB1 c0 c1 c2 cs hfb
  cases fb
  · go_wp2
    go_ret
    exact ⟨rfl, HBZ.out⟩
  · clear HBZ
    obtain ⟨n, zs, G, hnG, mp, md⟩ := HMB.out (HFB.out (by rfl))
    have HMP : Hid (type_of% mp) := mp
    have HMD : Hid (type_of% md) := md
    have HSM : Hid (∀ wx ao ac bo bc vs us, (vs.length = n ∧ HasRows wx ao vs ∧ Mat wx n zs vs) → (us.length = n ∧ HasRows wx bo us ∧ Mat wx n zs us) → Calls Tryd.prog 15 #[.slice ao n ac, .slice bo n bc] wx fun e w' => e = .returned (.bool true) ∧ Below wx.heap.size wx w') := fun wx ao ac bo bc vs us h1 h2 => sameMatrix_yes ao bo ac bc n zs vs us wx h1.1 h2.1 h1.2.1 h2.2.1 h1.2.2 h2.2.2 hnG.1
    have HSE := HSEE.out G hnG.2
    have HSE2 : Hid (type_of% HSE) := HSE
    clear mp md HSE hnG
    obtain ⟨⟨c0, c1, c2⟩, cs, _⟩ := HK.out w2 HB2.out
    go_wp2_with fail
    refine (HOF.out w2 HB2.out).mono ?_
    rintro e w3 ⟨fo2, fc2, uo2, tc2, wo2, wc2, rfl, hA2, hb⟩
    have H3 : Hid (Below W0.heap.size W0 w3 ∧ Arr w3 F T W fo2 uo2 wo2 fc2 tc2 wc2) := ⟨btr HB2.out hb, hA2⟩
    clear hb hA2 c0 c1 c2 cs
    go_wp2_with fail
    refine (HP.out w3 fo2 uo2 wo2 fc2 tc2 wc2 H3.out.2).mono ?_
    rintro e w4 ⟨ao, ac, v, rfl, hu, hv, hb⟩
    have H4 : Hid (Below W0.heap.size W0 w4 ∧ URow w4 ao D ∧ IsTold w4 E v) := ⟨btr H3.out.1 hb, hu, hv⟩
    clear hb hv hu
    obtain ⟨⟨c0, c1, c2⟩, cs, _⟩ := HK.out w4 H4.out.1
    go_wp2_with fail
    refine (HQ.out w4 fo uo wo fc tc wc (HX.out w4 H4.out.1)).mono ?_
    rintro e w6 ⟨bo, bc, po, pc, rfl, hu, hP, hb⟩
    have hb7 : Below w6.heap.size w6 (w6.alloc (.cells #[.int .i64 E.1, .slice po E.2.length pc] 36)) := below1 _ _
    have h6 := (btr H4.out.1 hb)
    have H7 : Hid (Below W0.heap.size W0 (w6.alloc (.cells #[.int .i64 E.1, .slice po E.2.length pc] 36)) ∧ IsTold (w6.alloc (.cells #[.int .i64 E.1, .slice po E.2.length pc] 36)) E v ∧ HasPlaces (w6.alloc (.cells #[.int .i64 E.1, .slice po E.2.length pc] 36)) (.slice po E.2.length pc) E.2 ∧ ((w6.alloc (.cells #[.int .i64 E.1, .slice po E.2.length pc] 36)).heap[w6.heap.size]? = some (.cells #[.int .i64 E.1, .slice po E.2.length pc] 36) ∧ W0.heap.size ≤ w6.heap.size) ∧ URow (w6.alloc (.cells #[.int .i64 E.1, .slice po E.2.length pc] 36)) ao D ∧ URow (w6.alloc (.cells #[.int .i64 E.1, .slice po E.2.length pc] 36)) bo D) := ⟨btr h6 hb7, (H4.out.2.2.keep (Below.keeps hb)).keep (Below.keeps hb7), hP.keep hb7, ⟨heap_new _ _, h6.size⟩, URow.keep (URow.keep H4.out.2.1 hb) hb7, URow.keep hu hb7⟩
    clear hb7 h6 hb hP hu c0 c1 c2 cs
    go_wp2_with fail
    generalize w6.alloc (.cells #[.int .i64 E.1, .slice po E.2.length pc] 36) = W7 at *
    generalize w6.heap.size = eb at *
    refine (HSR.out W7 ao ac bo bc H7.out.2.2.2.2.1 H7.out.2.2.2.2.2).mono ?_
    rintro e w8 ⟨rfl, hb⟩
    have H8 : Hid (Below W0.heap.size W0 w8 ∧ IsTold w8 E v ∧ HasPlaces w8 (.slice po E.2.length pc) E.2 ∧ w8.heap[eb]? = some (.cells #[.int .i64 E.1, .slice po E.2.length pc] 36) ∧ W0.heap.size ≤ eb) := ⟨btr H7.out.1 hb, H7.out.2.1.keep (Below.keeps hb), H7.out.2.2.1.keep hb, (hb.block _ (lt_of_get H7.out.2.2.2.1.1)).trans H7.out.2.2.2.1.1, H7.out.2.2.2.1.2⟩
    clear hb H7 H4 H3
    obtain ⟨e0, e1, _, _⟩ := cell_two H8.out.2.2.2.1
    have es := lt_of_get H8.out.2.2.2.1
    go_wp2_with fail
    refine (HSE1.out w8 v po pc (HK.out w8 H8.out.1).2.2 H8.out.2.1 H8.out.2.2.1).mono ?_
    rintro e w9 ⟨rfl, hb⟩
    have H9 : Hid (Below W0.heap.size W0 w9 ∧ w9.heap[eb]? = some (.cells #[.int .i64 E.1, .slice po E.2.length pc] 36) ∧ W0.heap.size ≤ eb) := ⟨btr H8.out.1 hb, (hb.block _ (lt_of_get H8.out.2.2.2.1)).trans H8.out.2.2.2.1, H8.out.2.2.2.2⟩
    clear hb e0 e1 es H8
    obtain ⟨⟨c0, c1, c2⟩, cs, _⟩ := HK.out w9 H9.out.1
    go_wp2_with fail
    refine (HOF.out w9 H9.out.1).mono ?_
    rintro e w10 ⟨fo3, fc3, uo3, tc3, wo3, wc3, rfl, hA3, hb⟩
    have H10 : Hid ((Below W0.heap.size W0 w10 ∧ w10.heap[eb]? = some (.cells #[.int .i64 E.1, .slice po E.2.length pc] 36) ∧ W0.heap.size ≤ eb) ∧ Arr w10 F T W fo3 uo3 wo3 fc3 tc3 wc3) := ⟨⟨btr H9.out.1 hb, (hb.block _ (lt_of_get H9.out.2.1)).trans H9.out.2.1, H9.out.2.2⟩, hA3⟩
    clear hb hA3 c0 c1 c2 cs
    go_wp2_with fail
    refine (HMP.out w10 fo3 uo3 wo3 fc3 tc3 wc3 H10.out.2).mono ?_
    rintro e w11 ⟨ao2, ac2, vs, v2, rfl, hm1, hv, hb⟩
    have H11 : Hid ((Below W0.heap.size W0 w11 ∧ w11.heap[eb]? = some (.cells #[.int .i64 E.1, .slice po E.2.length pc] 36) ∧ W0.heap.size ≤ eb) ∧ IsTold w11 G v2 ∧ (vs.length = n ∧ HasRows w11 ao2 vs ∧ Mat w11 n zs vs)) := ⟨⟨btr H10.out.1.1 hb, (hb.block _ (lt_of_get H10.out.1.2.1)).trans H10.out.1.2.1, H10.out.1.2.2⟩, hv, hm1⟩
    clear hb hv hm1
    obtain ⟨⟨c0, c1, c2⟩, cs, _⟩ := HK.out w11 H11.out.1.1
    go_wp2_with fail
    refine (HMD.out w11 fo uo wo fc tc wc (HX.out w11 H11.out.1.1)).mono ?_
    rintro e w12 ⟨bo2, bc2, us, po2, pc2, rfl, hm2, hP, hb⟩
    have H12 : Hid ((Below W0.heap.size W0 w12 ∧ w12.heap[eb]? = some (.cells #[.int .i64 E.1, .slice po E.2.length pc] 36) ∧ W0.heap.size ≤ eb) ∧ IsTold w12 G v2 ∧ HasPlaces w12 (.slice po2 G.2.length pc2) G.2 ∧ (vs.length = n ∧ HasRows w12 ao2 vs ∧ Mat w12 n zs vs) ∧ (us.length = n ∧ HasRows w12 bo2 us ∧ Mat w12 n zs us)) := ⟨⟨btr H11.out.1.1 hb, (hb.block _ (lt_of_get H11.out.1.2.1)).trans H11.out.1.2.1, H11.out.1.2.2⟩, H11.out.2.1.keep (Below.keeps hb), hP, ⟨H11.out.2.2.1, H11.out.2.2.2.1.keep hb, H11.out.2.2.2.2.keep hb⟩, hm2⟩
    clear hb hP hm2 c0 c1 c2 cs H11 H10 H9
    obtain ⟨d0, d1, x0, x1⟩ := cell_two H12.out.1.2.1
    have ds := lt_of_get H12.out.1.2.1
    have H13 : Hid ((Below W0.heap.size W0 (lay2 w12 eb (.int .i64 G.1) (.slice po2 G.2.length pc2)) ∧ (lay2 w12 eb (.int .i64 G.1) (.slice po2 G.2.length pc2)).heap[eb]? = some (.cells #[.int .i64 G.1, .slice po2 G.2.length pc2] 36)) ∧ IsTold (lay2 w12 eb (.int .i64 G.1) (.slice po2 G.2.length pc2)) G v2 ∧ HasPlaces (lay2 w12 eb (.int .i64 G.1) (.slice po2 G.2.length pc2)) (.slice po2 G.2.length pc2) G.2 ∧ (vs.length = n ∧ HasRows (lay2 w12 eb (.int .i64 G.1) (.slice po2 G.2.length pc2)) ao2 vs ∧ Mat (lay2 w12 eb (.int .i64 G.1) (.slice po2 G.2.length pc2)) n zs vs) ∧ (us.length = n ∧ HasRows (lay2 w12 eb (.int .i64 G.1) (.slice po2 G.2.length pc2)) bo2 us ∧ Mat (lay2 w12 eb (.int .i64 G.1) (.slice po2 G.2.length pc2)) n zs us)) := by
      have hbx := H12.out.1.2.1
      obtain ⟨_, g1, g2, ⟨a1, a2, a3⟩, b1, b2, b3⟩ := H12.out
      exact ⟨⟨(H12.out.1.1.setCell (p := ⟨eb, 0, none⟩) H12.out.1.2.2 _).setCell (p := ⟨eb, 1, none⟩) H12.out.1.2.2 _, lay2_box hbx⟩, g1.keep (keeps_box hbx (by decide) (fun _ hg => lay2_far hg)), lay2_places g2 hbx, ⟨a1, a2.lay hbx (by decide), a3.lay hbx (by decide)⟩, b1, b2.lay hbx (by decide), b3.lay hbx (by decide)⟩
    go_wp2_with fail
    rw [show (w12.setCell ⟨eb, 0, none⟩ (.int .i64 G.1)).setCell ⟨eb, 1, none⟩ (.slice po2 G.2.length pc2) = lay2 w12 eb (.int .i64 G.1) (.slice po2 G.2.length pc2) from rfl]
    clear d0 d1 x0 x1 ds
    generalize lay2 w12 eb (.int .i64 G.1) (.slice po2 G.2.length pc2) = W13 at *
    refine (HSM.out W13 ao2 ac2 bo2 bc2 vs us H13.out.2.2.2.1 H13.out.2.2.2.2).mono ?_
    rintro e w14 ⟨rfl, hb⟩
    have H14 : Hid (Below W0.heap.size W0 w14 ∧ w14.heap[eb]? = some (.cells #[.int .i64 G.1, .slice po2 G.2.length pc2] 36) ∧ IsTold w14 G v2 ∧ HasPlaces w14 (.slice po2 G.2.length pc2) G.2) := ⟨btr H13.out.1.1 hb, (hb.block _ (lt_of_get H13.out.1.2)).trans H13.out.1.2, H13.out.2.1.keep (Below.keeps hb), H13.out.2.2.1.keep hb⟩
    clear hb
    obtain ⟨e0, e1, _, _⟩ := cell_two H14.out.2.1
    have es := lt_of_get H14.out.2.1
    go_wp2_with fail
    refine (HSE2.out w14 v2 po2 pc2 (HK.out w14 H14.out.1).2.2 H14.out.2.2.1 H14.out.2.2.2).mono ?_
    rintro e w15 ⟨rfl, hb⟩
    have HBY : Hid (Below w.heap.size w w15) := (HK.out w15 (btr H14.out.1 hb)).2.2
    clear hb e0 e1 es
    go_wp2
    go_ret
    exact ⟨rfl, HBY.out⟩
end Go.Proofs.YtnkfggccahohpaaDoor
