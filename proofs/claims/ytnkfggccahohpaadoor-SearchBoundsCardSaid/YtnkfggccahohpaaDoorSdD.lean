/- Bounded of both: the same labels, the same errors. the law SearchBounds: its walk. -/
import Derived.Test.YtnkfggccahohpaaDoorSbW
import Derived.Test.YtnkfggccahohpaaDoorScW
import Derived.Test.YtnkfggccahohpaaDoorSdX
import Derived.Test.YtnkfggccahohpaaDoorSdC
import Derived.BigQuiet
namespace Go.Proofs.YtnkfggccahohpaaDoor
open Go.RowKit Go.Extern

/-- a label's four cells. -/
abbrev L4 := Int × Int × Int × Bool
def flat4 (l : List L4) : List Value := l.flatMap fun a => [.int .i64 a.1, .int .u64 a.2.1, .int .i64 a.2.2.1, .bool a.2.2.2]
theorem flat4_get : ∀ (l : List L4) (i : Nat) (a : L4), l[i]? = some a → (flat4 l)[i * 4]? = some (.int .i64 a.1) ∧ (flat4 l)[i * 4 + 1]? = some (.int .u64 a.2.1) ∧ (flat4 l)[i * 4 + 2]? = some (.int .i64 a.2.2.1) ∧ (flat4 l)[i * 4 + 3]? = some (.bool a.2.2.2)
  | [], i, a, h => by simp at h
  | b :: r, 0, a, h => by
    simp at h
    subst h
    simp [flat4]
  | b :: r, i + 1, a, h => by
    have ih := flat4_get r i a (by simpa using h)
    have e : flat4 (b :: r) = [.int .i64 b.1, .int .u64 b.2.1, .int .i64 b.2.2.1, .bool b.2.2.2] ++ flat4 r := by simp [flat4]
    rw [e, show (i + 1) * 4 = i * 4 + 4 by omega]
    refine ⟨?_, ?_, ?_, ?_⟩
    · rw [List.getElem?_append_right (by simp)]; simpa using ih.1
    · rw [List.getElem?_append_right (by simp)]; simpa [show i * 4 + 4 + 1 - 4 = i * 4 + 1 by omega] using ih.2.1
    · rw [List.getElem?_append_right (by simp)]; simpa [show i * 4 + 4 + 2 - 4 = i * 4 + 2 by omega] using ih.2.2.1
    · rw [List.getElem?_append_right (by simp)]; simpa [show i * 4 + 4 + 3 - 4 = i * 4 + 3 by omega] using ih.2.2.2
/-- labels in memory. -/
def LabIn (w : World) (o : Option Addr) (l : List L4) : Prop := ∀ (j : Nat) (a : L4), l[j]? = some a → ∃ b off, o = some ⟨b, off, none⟩ ∧ b < w.heap.size ∧ w.cell? ⟨b, off + j * 4, none⟩ = some (.int .i64 a.1) ∧ w.cell? ⟨b, off + j * 4 + 1, none⟩ = some (.int .u64 a.2.1) ∧ w.cell? ⟨b, off + j * 4 + 2, none⟩ = some (.int .i64 a.2.2.1) ∧ w.cell? ⟨b, off + j * 4 + 3, none⟩ = some (.bool a.2.2.2)
theorem LabIn.keep {w w' : World} {o : Option Addr} {l : List L4} (h : LabIn w o l) (hb : Below w.heap.size w w') : LabIn w' o l := fun j a ha => by
  obtain ⟨b, off, e, hl, h0, h1, h2, h3⟩ := h j a ha
  exact ⟨b, off, e, Nat.lt_of_lt_of_le hl hb.size, (hb.cell (p := ⟨b, _, none⟩) hl).trans h0, (hb.cell (p := ⟨b, _, none⟩) hl).trans h1, (hb.cell (p := ⟨b, _, none⟩) hl).trans h2, (hb.cell (p := ⟨b, _, none⟩) hl).trans h3⟩
theorem LabIn.nil (w : World) : LabIn w none [] := fun j a h => by simp at h
theorem labIn_of {w : World} {base T : Nat} {o : Option Addr} {c : Nat} {l : List L4} (h : w.ownsRow base T 4 (.slice o l.length c) l.length (flat4 l)) : LabIn w o l := fun j a hj => by
  have hlt := (List.getElem?_eq_some_iff.1 hj).1
  rcases h.2 with ⟨e, h0⟩ | ⟨g, cap, cur, e, hg, hh, _⟩
  · omega
  · injection e with e1 e2 e3
    subst e1
    subst e3
    refine ⟨g, 0, rfl, lt_of_get hh, ?_⟩
    obtain ⟨g0, g1, g2, g3⟩ := flat4_get l j a hj
    rw [Nat.zero_add]
    exact ⟨(h.cellAt (j * 4) (by omega)).trans g0, (h.cellAt (j * 4 + 1) (by omega)).trans g1, (h.cellAt (j * 4 + 2) (by omega)).trans g2, (h.cellAt (j * 4 + 3) (by omega)).trans g3⟩
def labT (S : FS) (v : Int) : L4 := ((v.toNat : Int), labD S v.toNat, S.hs v.toNat, (S.f (v.toNat : Int)).isNone)
theorem labCs_flat (S : FS) (l : List Int) : labCs S l = flat4 (l.map (labT S)) := by
  unfold labCs flat4
  rw [List.flatMap_map]
  rfl
/-- what Bounded of both answers. -/
def BD (w : World) (L : List L4) (E : Int × List (Int × Int)) (e : Ending) (w' : World) : Prop := ∃ bo bc po pc, e = .returned (.tuple #[.slice bo L.length bc, .agg #[.int .i64 E.1, .slice po E.2.length pc]]) ∧ LabIn w' bo L ∧ HasPlaces w' (.slice po E.2.length pc) E.2 ∧ Below w.heap.size w w'
def BP (F T W : List Int) (s hp se mo : Int) (w : World) (E : Int × List (Int × Int)) (e : Ending) (w' : World) : Prop := ∃ (L : List L4) (ao : Option Addr) (ac : Nat) (v : Value), L.length ≤ 65536 ∧ e = .returned (.tuple #[.slice ao L.length ac, v]) ∧ LabIn w' ao L ∧ IsTold w' E v ∧ Below w.heap.size w w' ∧ ∀ wx fo uo wo fc tc wc, Arr wx F T W fo uo wo fc tc wc → Calls Tryd.prog 17 #[.agg #[.slice fo F.length fc, .slice uo T.length tc, .slice wo W.length wc], .int .i64 s, .int .i64 hp, .int .i64 se, .int .u64 mo] wx (BD wx L E)
theorem labN_len {S : FS} {n : Nat} (h : S.vs.length = n) : (labN S).length ≤ n := by
  unfold labN
  refine Nat.le_trans (St.allB_len _ _) ?_
  rw [List.length_map, h]
  exact Nat.le_refl _

theorem bounded_both (F T W : List Int) (C : Int × List (Int × Int)) (hC : ChkIs F T W C) (hm : F.length ≤ maxLen) (s hp se mo : Int) :
    ∃ E : Int × List (Int × Int), E.2.length ≤ 1 ∧ ∀ w fo uo wo fc tc wc, Arr w F T W fo uo wo fc tc wc → Calls Tryd.prog 16 #[.agg #[.slice fo F.length fc, .slice uo T.length tc, .slice wo W.length wc], .int .i64 s, .int .i64 hp, .int .i64 se, .int .u64 mo] w (BP F T W s hp se mo w E) := by
  have hDC : ∀ w fo uo wo fc tc wc, Arr w F T W fo uo wo fc tc wc → ∀ wx, Below w.heap.size w wx → Calls Tryd.prog 23 #[.agg #[.slice fo F.length fc, .slice uo T.length tc, .slice wo W.length wc]] wx (DocAns wx C) := fun w fo uo wo fc tc wc h wx hx => docCheck_any fo uo wo F.length fc T.length tc W.length wc F T W C wx (h.keep hx).f (h.keep hx).t (h.keep hx).w hm hC
  rcases (chk_split hC).2 with h1 | ⟨rfl, n, m, zs, hL, hz, e1, e2, e3, e4⟩
  · refine ⟨C, (chk_split hC).1, fun w fo uo wo fc tc wc h => ?_⟩
    refine (sBounded_early (.slice fo F.length fc) (.slice uo T.length tc) (.slice wo W.length wc) s hp se mo w C (fun wx hx => check_iface hC hm h1 (h.keep hx))).mono ?_
    rintro e w' ⟨Ty, x, rfl, ht, hb⟩
    refine ⟨[], none, 0, _, by simp, rfl, LabIn.nil _, ht, hb, fun wx fo uo wo fc tc wc h => ?_⟩
    obtain ⟨C1, ps⟩ := C
    refine (docBounded_bad fo uo wo F.length fc T.length tc W.length wc wx s hp se mo C1 ps h1 (fun wy hy => node8_bad fo uo wo F.length fc T.length tc W.length wc wy s C1 ps h1 (hDC wy fo uo wo fc tc wc (h.keep hy)))).mono ?_
    rintro e w' ⟨po, pc, rfl, hP, hb⟩
    exact ⟨none, 0, po, pc, rfl, LabIn.nil _, hP, hb⟩
  · have hgood := good_of F T W hC hm hL e1 e2 e3 e4
    by_cases hs : 0 ≤ s ∧ s < (n : Int)
    · obtain ⟨p, rfl⟩ : ∃ p : Nat, s = (p : Int) := ⟨s.toNat, by omega⟩
      refine ⟨(0, []), by simp, fun w fo uo wo fc tc wc h => ?_⟩
      obtain ⟨f1, f2, f3, hCI, hD⟩ := hgood w fo uo wo fc tc wc h
      rw [f1, f2, f3]
      refine (sBounded_good n zs fo uo wo fc tc wc w hz hCI p (by omega) hp se mo).mono ?_
      rintro e w' ⟨S0, t, S, lo, lc, ⟨hS1, hS2⟩, rfl, ho, hb⟩
      have hI := steps_inv hz (start_inv (hb := hp) (s := p) (by omega) _ rfl rfl) t S hS1
      have hlen : ((labN S).map (labT S)).length = (labN S).length := by simp
      refine ⟨(labN S).map (labT S), lo, lc, _, ?_, by rw [hlen], labIn_of (base := w.heap.size) (T := 56) (c := lc) (by rw [hlen, ← labCs_flat]; exact ho), told_nil _, hb, fun wx fo uo wo fc tc wc h => ?_⟩
      · rw [hlen]
        exact Nat.le_trans (labN_len hI.lv) hz.few
      · obtain ⟨g1, g2, g3, hCI2, hD2⟩ := hgood wx fo uo wo fc tc wc h
        rw [g1, g2, g3]
        refine (docBounded_good n zs fo uo wo fc tc wc wx hz hCI2 p (by omega) hp se mo S0 (fun wy hy => node8_good fo uo wo fc zs.length tc zs.length wc n wy p hz.few hs (fun wz hz' => hD2 wz (btr hy hz')))).mono ?_
        rintro e w'' ⟨t', S', lo', lc', rfl, ⟨hS1', hS2'⟩, ho', hb'⟩
        obtain ⟨_, rfl⟩ := run_unique hS1 hS2 hS1' hS2'
        exact ⟨lo', lc', none, 0, by rw [hlen]; rfl, labIn_of (base := wx.heap.size) (T := 57) (c := lc') (by rw [hlen, ← labCs_flat]; exact ho'), places_nil _, hb'⟩
    · refine ⟨(7, []), by simp, fun w fo uo wo fc tc wc h => ?_⟩
      obtain ⟨f1, f2, f3, hCI, hD⟩ := hgood w fo uo wo fc tc wc h
      rw [f1, f2, f3]
      refine (sBounded_node n zs fo uo wo fc tc wc w hz hCI s hp se mo hs).mono ?_
      rintro e w' ⟨rfl, hb⟩
      refine ⟨[], none, 0, _, by simp, rfl, LabIn.nil _, told_numV _ 7, hb, fun wx fo uo wo fc tc wc h => ?_⟩
      obtain ⟨g1, g2, g3, hCI2, hD2⟩ := hgood wx fo uo wo fc tc wc h
      rw [g1, g2, g3]
      refine (docBounded_bad fo uo wo (n + 1) fc zs.length tc zs.length wc wx s hp se mo 7 [] (by decide) (fun wy hy => node8_no fo uo wo fc zs.length tc zs.length wc n wy s hz.few hs (fun wz hz' => hD2 wz (btr hy hz')))).mono ?_
      rintro e w'' ⟨po, pc, rfl, hP, hb'⟩
      exact ⟨none, 0, po, pc, rfl, LabIn.nil _, hP, hb'⟩
end Go.Proofs.YtnkfggccahohpaaDoor

namespace Go.Proofs.YtnkfggccahohpaaDoor
open Go.RowKit Go.Extern

attribute [local go_sem] Oper.semAt_some

set_option maxRecDepth 100000 in
set_option maxHeartbeats 8000000 in
theorem bounds8_calls (fo uo wo : Option Addr) (fc tc wc : Nat) (F T W : List Int) (mF : F.length * 8 ≤ 140737488351232) (mT : T.length * 8 ≤ 140737488351232) (mW : W.length * 8 ≤ 140737488351232) (w : World) (hA : Arr w F T W fo uo wo fc tc wc) (s hp se mo : Int) (hg : HasType w) :
    Calls Tryd.prog 4 #[.agg #[.slice fo F.length fc, .slice uo T.length tc, .slice wo W.length wc], .int .i64 s, .int .i64 hp, .int .i64 se, .int .u64 mo] w fun e w' => e = .returned (.bool true) ∧ Below w.heap.size w w' := by
  obtain ⟨C, hC⟩ := chk_total F T W
  obtain ⟨W0, hW0⟩ : ∃ W0, w.alloc (.cells #[.slice fo F.length fc, .slice uo T.length tc, .slice wo W.length wc] 24) = W0 := ⟨_, rfl⟩
  have HW0 : Hid (w.alloc (.cells #[.slice fo F.length fc, .slice uo T.length tc, .slice wo W.length wc] 24) = W0) := hW0
  have hB0 : Below w.heap.size w W0 := by rw [← hW0]; exact (Below.refl _ w).alloc (Nat.le_refl _) _
  have hbx : W0.heap[w.heap.size]? = some (.cells #[.slice fo F.length fc, .slice uo T.length tc, .slice wo W.length wc] 24) := by rw [← hW0]; exact heap_new _ _
  have hmF : F.length ≤ maxLen := by unfold maxLen; omega
  obtain ⟨E, hE, hp1⟩ := bounded_both F T W C hC hmF s hp se mo
  have HK : Hid (∀ wx, Below W0.heap.size W0 wx → (wx.cell? ⟨w.heap.size, 0, none⟩ = some (.slice fo F.length fc) ∧ wx.cell? ⟨w.heap.size, 1, none⟩ = some (.slice uo T.length tc) ∧ wx.cell? ⟨w.heap.size, 2, none⟩ = some (.slice wo W.length wc)) ∧ w.heap.size < wx.heap.size ∧ Below w.heap.size w wx) := fun wx hwx => by
    have hg := (hwx.block _ (lt_of_get hbx)).trans hbx
    exact ⟨box3 hg, lt_of_get hg, hB0.trans (hwx.mono hB0.size)⟩
  have HX : Hid (∀ wx, Below W0.heap.size W0 wx → Arr wx F T W fo uo wo fc tc wc) := fun wx hwx => hA.keep (HK.out wx hwx).2.2
  have HG : Hid (∀ wx, Below w.heap.size w wx → HasType wx) := fun wx h => hg.keep h hg.pos
  have HFW : Hid (∀ wx, Below W0.heap.size W0 wx → Calls Tryd.prog 7 #[.agg #[.slice fo F.length fc, .slice uo T.length tc, .slice wo W.length wc]] wx fun e w' => (∃ b : Bool, e = .returned (.bool b) ∧ (b = true → C.1 ≠ 0 ∨ 0 < C.2.length ∨ F.length ≤ 30)) ∧ Below wx.heap.size wx w') := fun wx hwx => few8_calls fo uo wo fc tc wc F T W C hC hmF wx (HX.out wx hwx)
  have HOF : Hid (∀ wx, Below W0.heap.size W0 wx → Calls Tryd.prog 9 #[.agg #[.slice fo F.length fc, .slice uo T.length tc, .slice wo W.length wc]] wx fun e w' => ∃ fo2 fc2 uo2 tc2 wo2 wc2, e = .returned (.agg #[.slice fo2 F.length fc2, .slice uo2 T.length tc2, .slice wo2 W.length wc2]) ∧ Arr w' F T W fo2 uo2 wo2 fc2 tc2 wc2 ∧ Below wx.heap.size wx w') := fun wx hwx => by
    have hA2 := HX.out wx hwx
    refine (of8_calls fo uo wo fc tc wc F T W wx hA2.f hA2.t hA2.w mF mT mW).mono ?_
    rintro e w' ⟨fo2, fc2, uo2, tc2, wo2, wc2, he, ho, hb⟩
    exact ⟨fo2, fc2, uo2, tc2, wo2, wc2, he, Own3.arr ho, hb⟩
  have HSE1 : Hid (∀ wx v po pc, Below w.heap.size w wx → IsTold wx E v → HasPlaces wx (.slice po E.2.length pc) E.2 → Calls Tryd.prog 12 #[v, .agg #[.int .i64 E.1, .slice po E.2.length pc]] wx fun r w' => r = .returned (.bool true) ∧ Below wx.heap.size wx w') := fun wx v po pc hb h k => seen_told E v po pc wx h k (by unfold maxLen; omega) (HG.out wx hb)
  have HP : Hid (type_of% hp1) := hp1
  clear hW0 hB0 hbx hA hC hmF mF mT mW hg hp1 hE
  go_enter Tryd.func4, Tryd.ntmps4
  go_wp2_with fail
  rw [HW0.out]
  refine (awake8_calls W0).mono ?_
  rintro e w1 ⟨rfl, hb⟩
  have HB1 : Hid (Below W0.heap.size W0 w1) := hb
  clear hb
  obtain ⟨⟨c0, c1, c2⟩, cs, _⟩ := HK.out w1 HB1.out
  go_wp2_with fail
  refine (HFW.out w1 HB1.out).mono ?_
  rintro e w2 ⟨⟨fb, rfl, _⟩, hb⟩
  have HB2 : Hid (Below W0.heap.size W0 w2) := btr HB1.out hb
  have HBZ : Hid (Below w.heap.size w w2) := (HK.out w2 HB2.out).2.2
  clear hb HB1 c0 c1 c2 cs
  cases fb
  · go_wp2
    go_ret
    exact ⟨rfl, HBZ.out⟩
  · clear HBZ
    obtain ⟨⟨c0, c1, c2⟩, cs, _⟩ := HK.out w2 HB2.out
    go_wp2_with fail
    refine (HOF.out w2 HB2.out).mono ?_
    rintro e w3 ⟨fo2, fc2, uo2, tc2, wo2, wc2, rfl, hA2, hb⟩
    have H3 : Hid (Below W0.heap.size W0 w3 ∧ Arr w3 F T W fo2 uo2 wo2 fc2 tc2 wc2) := ⟨btr HB2.out hb, hA2⟩
    clear hb hA2 c0 c1 c2 cs
    go_wp2_with fail
    refine (HP.out w3 fo2 uo2 wo2 fc2 tc2 wc2 H3.out.2).mono ?_
    rintro e w4 ⟨L, ao, ac, v, hLl, rfl, hu, hv, hb, hdoc⟩
    have H4 : Hid (Below W0.heap.size W0 w4 ∧ LabIn w4 ao L ∧ IsTold w4 E v) := ⟨btr H3.out.1 hb, hu, hv⟩
    have HQ : Hid (type_of% hdoc) := hdoc
    clear hb hv hu hdoc
    obtain ⟨⟨c0, c1, c2⟩, cs, _⟩ := HK.out w4 H4.out.1
    go_wp2_with fail
    refine (HQ.out w4 fo uo wo fc tc wc (HX.out w4 H4.out.1)).mono ?_
    rintro e w6 ⟨bo, bc, po, pc, rfl, hu, hP, hb⟩
    have hb7 : Below w6.heap.size w6 (w6.alloc (.cells #[.int .i64 E.1, .slice po E.2.length pc] 36)) := below1 _ _
    have h6 := (btr H4.out.1 hb)
    have H7 : Hid (Below W0.heap.size W0 (w6.alloc (.cells #[.int .i64 E.1, .slice po E.2.length pc] 36)) ∧ IsTold (w6.alloc (.cells #[.int .i64 E.1, .slice po E.2.length pc] 36)) E v ∧ HasPlaces (w6.alloc (.cells #[.int .i64 E.1, .slice po E.2.length pc] 36)) (.slice po E.2.length pc) E.2 ∧ ((w6.alloc (.cells #[.int .i64 E.1, .slice po E.2.length pc] 36)).heap[w6.heap.size]? = some (.cells #[.int .i64 E.1, .slice po E.2.length pc] 36) ∧ W0.heap.size ≤ w6.heap.size) ∧ LabIn (w6.alloc (.cells #[.int .i64 E.1, .slice po E.2.length pc] 36)) ao L ∧ LabIn (w6.alloc (.cells #[.int .i64 E.1, .slice po E.2.length pc] 36)) bo L) := ⟨btr h6 hb7, (H4.out.2.2.keep (Below.keeps hb)).keep (Below.keeps hb7), hP.keep hb7, ⟨heap_new _ _, h6.size⟩, (H4.out.2.1.keep hb).keep hb7, hu.keep hb7⟩
    clear hb7 h6 hb hP hu c0 c1 c2 cs
    go_upto_region 7 with fail
    generalize w6.alloc (.cells #[.int .i64 E.1, .slice po E.2.length pc] 36) = W7 at *
    generalize w6.heap.size = eb at *
    obtain ⟨e0, e1, _, _⟩ := cell_two H7.out.2.2.2.1.1
    have es := lt_of_get H7.out.2.2.2.1.1
    go_wp2_with fail
    refine (HSE1.out W7 v po pc (HK.out W7 H7.out.1).2.2 H7.out.2.1 H7.out.2.2.1).mono ?_
    rintro e w8 ⟨rfl, hb⟩
    have H8 : Hid (Below W0.heap.size W0 w8 ∧ LabIn w8 ao L ∧ LabIn w8 bo L) := ⟨btr H7.out.1 hb, H7.out.2.2.2.2.1.keep hb, H7.out.2.2.2.2.2.keep hb⟩
    clear hb e0 e1 es
    go_wp2_with fail
    go_loopw [53] (fun iv wr => ∃ i : Nat, i ≤ L.length ∧ iv = .int .i64 i ∧ Below w8.heap.size w8 wr) (fun iv _ => L.length - (intOf iv).toNat)
    case atStart => exact ⟨0, Nat.zero_le _, rfl, Below.refl _ _⟩
    case round =>
      obtain ⟨i, hi, rfl, hbw⟩ := hrel
      have HB : Hid (Below w8.heap.size w8 wr) := hbw
      by_cases hlt : i < L.length
      · obtain ⟨a, ha⟩ : ∃ a, L[i]? = some a := ⟨L[i], List.getElem?_eq_getElem hlt⟩
        obtain ⟨b1, o1, rfl, l1, p0, p1, p2, p3⟩ := (H8.out.2.1.keep hbw) i a ha
        obtain ⟨b2, o2, rfl, l2, q0, q1, q2, q3⟩ := (H8.out.2.2.keep hbw) i a ha
        obtain ⟨a0, a1, a2, a3⟩ := a
        simp only at p0 p1 p2 p3 q0 q1 q2 q3
        have s1 : (i : Int) < (L.length : Int) := by omega
        have s2 : (0 : Int) ≤ (i : Int) := by omega
        clear hbw ha
        go_wp2_with fail
        go_quiet (fail)
        have HB4 : Hid (Below w8.heap.size w8 (wr.drewN nq)) := below_drewN HB.out nq
        go_wp2
        go_roundw
        case rel => exact ⟨i + 1, by omega, by go_num, HB4.out⟩
        case measure => simp [intOf]; omega
      · obtain rfl : i = L.length := by omega
        have HBY : Hid (Below w.heap.size w wr) := (HK.out wr (btr H8.out.1 HB.out)).2.2
        go_wp2
        go_ret
        exact ⟨rfl, HBY.out⟩
end Go.Proofs.YtnkfggccahohpaaDoor
