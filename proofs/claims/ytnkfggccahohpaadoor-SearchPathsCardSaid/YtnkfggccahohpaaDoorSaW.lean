/- awake and few of the laws on searches. -/
import Derived.Test.YtnkfggccahohpaaDoorSaA
import Derived.Test.YtnkfggccahohpaaDoorSaP
import Derived.Test.YtnkfggccahohpaaDoorSqS
namespace Go.Proofs.YtnkfggccahohpaaDoor
open Go.RowKit Go.Extern

attribute [local go_sem] Oper.semAt_some

theorem chk8 : ChkIs (firsts 4 Z8) (tos Z8) (weights Z8) (0, []) := by
  refine Or.inr (Or.inr (Or.inr ⟨4, 4, ⟨by decide, by decide, by decide, by decide, by decide⟩, by omega, by omega, Or.inr ⟨firstAt Z8, ⟨fun v hv => ?_, fun v hv => firstAt_mono _ (by omega), by decide, by decide⟩, Or.inr ⟨fun v i hv h1 h2 => ?_, rfl⟩⟩⟩))
  · have h : ∀ v, v < 5 → (firsts 4 Z8)[v]? = some (firstAt Z8 v : Int) := by decide
    exact h v (by omega)
  · have h : ∀ v, v < 4 → ∀ i, i < 4 → firstAt Z8 v ≤ i → i < firstAt Z8 (v + 1) → arcAt 4 (firstAt Z8) (tos Z8) (weights Z8) v i = 0 := by decide
    have h4 : firstAt Z8 (v + 1) ≤ firstAt Z8 4 := firstAt_mono _ (by omega)
    have h5 : firstAt Z8 4 = 4 := by decide
    exact h v hv i (by omega) h1 h2
theorem docCheck8 (fo uo wo : Option Addr) (fc tc wc : Nat) (w : World) (h : CsrIn w 4 Z8 fo uo wo fc tc wc) : Calls Tryd.prog 23 #[.agg #[.slice fo (4 + 1) fc, .slice uo Z8.length tc, .slice wo Z8.length wc]] w (DocAns w (0, [])) :=
  docCheck_any fo uo wo _ fc _ tc _ wc (firsts 4 Z8) (tos Z8) (weights Z8) (0, []) w h.f h.t h.w (by decide) chk8
theorem of8z_calls (fo uo wo : Option Addr) (fc tc wc : Nat) (w : World) (h : CsrIn w 4 Z8 fo uo wo fc tc wc) :
    Calls Tryd.prog 9 #[.agg #[.slice fo 5 fc, .slice uo 4 tc, .slice wo 4 wc]] w fun e w' => ∃ fo fc uo tc wo wc, e = .returned (.agg #[.slice fo 5 fc, .slice uo 4 tc, .slice wo 4 wc]) ∧ CsrIn w' 4 Z8 fo uo wo fc tc wc ∧ Below w.heap.size w w' := by
  refine (of8_calls fo uo wo fc tc wc (firsts 4 Z8) (tos Z8) (weights Z8) w h.f h.t h.w (by decide) (by decide) (by decide)).mono ?_
  rintro e w' ⟨fo', fc', uo', tc', wo', wc', he, ⟨o1, o2, o3⟩, hb⟩
  exact ⟨fo', fc', uo', tc', wo', wc', he, ⟨ints_of_iown o1, ints_of_iown o2, ints_of_iown o3⟩, hb⟩
theorem own_some {w : World} {B n : Nat} {v : Value} {xs : List Value} (h : w.ownsRow B 3 1 v n xs) (h0 : 0 < n) : ∃ g cap, v = .slice (some ⟨g, 0, none⟩) n cap ∧ n ≤ cap := by
  rcases h.2 with ⟨_, e⟩ | ⟨g, cap, cur, e, _, _, hle, _⟩
  · omega
  · exact ⟨g, cap, e, hle⟩

set_option maxRecDepth 100000 in
set_option maxHeartbeats 4000000 in
theorem awake8_calls (w : World) : Calls Tryd.prog 6 #[] w fun e w' => e = .returned (.bool true) ∧ Below w.heap.size w w' := by
  go_enter Tryd.func6, Tryd.ntmps6
  go_wp2_with fail
  refine (four8_calls w).mono ?_
  rintro e w1 ⟨fo, fc, uo, tc, wo, wc, rfl, hI, hb⟩
  have H1 : Hid (CsrIn w1 4 Z8 fo uo wo fc tc wc ∧ Below w.heap.size w w1) := ⟨hI, hb⟩
  clear hI hb
  go_wp2_with fail
  refine (of8z_calls fo uo wo fc tc wc w1 H1.out.1).mono ?_
  rintro e w2 ⟨fo2, fc2, uo2, tc2, wo2, wc2, rfl, hI, hb⟩
  have H2 : Hid (CsrIn w2 4 Z8 fo2 uo2 wo2 fc2 tc2 wc2 ∧ Below w.heap.size w w2) := ⟨hI, btr H1.out.2 hb⟩
  clear hI hb H1
  go_wp2_with fail
  have HF : Hid (Calls Tryd.prog 8 #[.agg #[.slice fo2 5 fc2, .slice uo2 4 tc2, .slice wo2 4 wc2], .int .i64 0] w2 fun e w' => ∃ db, e = .returned (.tuple #[.slice (some ⟨db, 0, none⟩) 4 4, .nilIface]) ∧ U64s w' db [0, 4, 5, 7] ∧ Below w.heap.size w w') := by
    refine (from_good 4 Z8 fo2 uo2 wo2 fc2 tc2 wc2 w2 fine8 H2.out.1 0 (by omega)).mono ?_
    rintro e w' ⟨db, D, he, hD, hU, hb⟩
    obtain rfl := hD.unique dist8
    exact ⟨db, he, hU, btr H2.out.2 hb⟩
  refine HF.out.mono ?_
  rintro e w3 ⟨db, rfl, hU, hb⟩
  have H3 : Hid (U64s w3 db [0, 4, 5, 7] ∧ Below w.heap.size w w3) := ⟨hU, hb⟩
  clear hU hb HF H2
  go_wp2_with fail
  refine (four8_calls w3).mono ?_
  rintro e w4 ⟨fo4, fc4, uo4, tc4, wo4, wc4, rfl, hI, hb⟩
  have H4 : Hid (CsrIn w4 4 Z8 fo4 uo4 wo4 fc4 tc4 wc4 ∧ Below w3.heap.size w3 w4) := ⟨hI, hb⟩
  clear hI hb
  go_wp2_with fail
  refine (of8z_calls fo4 uo4 wo4 fc4 tc4 wc4 w4 H4.out.1).mono ?_
  rintro e w5 ⟨fo5, fc5, uo5, tc5, wo5, wc5, rfl, hI, hb⟩
  have H5 : Hid (CsrIn w5 4 Z8 fo5 uo5 wo5 fc5 tc5 wc5 ∧ Below w3.heap.size w3 w5) := ⟨hI, btr H4.out.2 hb⟩
  clear hI hb H4
  go_wp2_with fail
  have HP : Hid (Calls Tryd.prog 18 #[.agg #[.slice fo5 5 fc5, .slice uo5 4 tc5, .slice wo5 4 wc5], .int .i64 0, .int .i64 3] w5 fun e w' => ∃ g q pc xs ws, e = .returned (.tuple #[.slice (some ⟨g, 0, none⟩) (q + 1) pc, .nilIface]) ∧ (xs.length = q + 1 ∧ q + 1 ≤ pc ∧ HasInts w' (.slice (some ⟨g, 0, none⟩) (q + 1) pc) xs ∧ PathIs 4 Z8 0 3 7 xs ws) ∧ Below w3.heap.size w3 w') := by
    refine (path_good 4 Z8 fo5 uo5 wo5 fc5 tc5 wc5 w5 fine8 H5.out.1 0 3 (by omega) (by omega)).mono ?_
    rintro e w' ⟨⟨D, hD, h⟩, hb⟩
    obtain rfl := hD.unique dist8
    rcases h with ⟨h, _⟩ | ⟨P, d, po, pc, hd, _, hPT, hP0, ⟨hnd, hpl⟩, he, ho⟩
    · exact absurd h (by decide)
    · obtain rfl : (7 : Int) = d := by simpa using hd
      obtain ⟨ws, hPI⟩ := pathIs_of fine8 (by omega) hPT hP0 hnd hpl
      have hl : 0 < P.length := (List.getElem?_eq_some_iff.1 hP0).1
      obtain ⟨q, hq⟩ : ∃ q, P.length = q + 1 := ⟨P.length - 1, by omega⟩
      obtain ⟨g, cap, e2, hc⟩ := own_some ho hl
      injection e2 with e3 e4 e5
      subst e3
      subst e5
      rw [hq] at he ho hc
      have hxl : (nums P).reverse.length = q + 1 := by rw [List.length_reverse, nums_len, hq]
      have hI := ints_of_iown (l := (nums P).reverse) (by rw [hxl]; exact ho)
      exact ⟨g, q, pc, _, ws, he, ⟨hxl, hc, hI, hPI⟩, btr H5.out.2 hb⟩
  refine HP.out.mono ?_
  rintro e w6 ⟨g, q, pc, xs, ws, rfl, hx, hb⟩
  have H6 : Hid ((xs.length = q + 1 ∧ q + 1 ≤ pc ∧ HasInts w6 (.slice (some ⟨g, 0, none⟩) (q + 1) pc) xs ∧ PathIs 4 Z8 0 3 7 xs ws) ∧ Below w3.heap.size w3 w6) := ⟨hx, hb⟩
  clear hx hb HP H5
  go_wp2_with fail
  have hne : (w6.alloc (.cells #[.int .u64 0, .int .u64 4, .int .u64 5, .int .u64 7] 48)).heap[w6.heap.size]? = some (.cells #[.int .u64 0, .int .u64 4, .int .u64 5, .int .u64 7] 48) := heap_new _ _
  have hal : Below w6.heap.size w6 (w6.alloc (.cells #[.int .u64 0, .int .u64 4, .int .u64 5, .int .u64 7] 48)) := (Below.refl _ _).alloc (Nat.le_refl _) _
  have HSR : Hid (Calls Tryd.prog 11 #[.slice (some ⟨db, 0, none⟩) 4 4, .slice (some ⟨w6.heap.size, 0, none⟩) 4 4] (w6.alloc (.cells #[.int .u64 0, .int .u64 4, .int .u64 5, .int .u64 7] 48)) fun e w' => e = .returned (.bool true) ∧ Below w6.heap.size w6 w') := by
    refine (sameRow_yes (some ⟨db, 0, none⟩) (some ⟨w6.heap.size, 0, none⟩) 4 4 [0, 4, 5, 7] _ ?_ ?_ (by decide)).mono fun e w' ⟨he, hb⟩ => ⟨he, btr hal hb⟩
    · exact URow.keep (URow.keep (Or.inr ⟨db, rfl, H3.out.1⟩) H6.out.2) hal
    · exact Or.inr ⟨w6.heap.size, rfl, hne⟩
  clear hne hal
  refine HSR.out.mono ?_
  rintro e w7 ⟨rfl, hb⟩
  have H7 : Hid (Below w6.heap.size w6 w7) := hb
  clear hb HSR
  go_wp2_with fail
  refine (four8_calls w7).mono ?_
  rintro e w8 ⟨fo8, fc8, uo8, tc8, wo8, wc8, rfl, hI, hb⟩
  have H8 : Hid (CsrIn w8 4 Z8 fo8 uo8 wo8 fc8 tc8 wc8 ∧ Below w6.heap.size w6 w8) := ⟨hI, btr H7.out hb⟩
  clear hI hb H7
  go_wp2_with fail
  have HRP : Hid (Calls Tryd.prog 21 #[.agg #[.slice fo8 5 fc8, .slice uo8 4 tc8, .slice wo8 4 wc8], .slice (some ⟨g, 0, none⟩) (q + 1) pc, .int .i64 0, .int .i64 3, .int .u64 7] w8 fun e w' => e = .returned (.bool true) ∧ Below w.heap.size w w') :=
    (rPath_yes 4 Z8 fo8 uo8 wo8 fc8 tc8 wc8 w8 fine8 H8.out.1 g pc q 0 3 7 xs ws H6.out.1.1 (H6.out.1.2.2.1.keep H8.out.2) H6.out.1.2.1 H6.out.1.2.2.2 (fun wx hx => docCheck8 fo8 uo8 wo8 fc8 tc8 wc8 wx (H8.out.1.keep hx))).mono fun e w' ⟨he, hb⟩ => ⟨he, btr (btr (btr H3.out.2 H6.out.2) H8.out.2) hb⟩
  refine HRP.out.mono ?_
  rintro e w9 ⟨rfl, hb⟩
  have H9 : Hid (Below w.heap.size w w9) := hb
  clear hb HRP
  go_wp2
  go_ret
  exact ⟨rfl, H9.out⟩

set_option maxRecDepth 100000 in
set_option maxHeartbeats 4000000 in
theorem few8_calls (fo uo wo : Option Addr) (fc tc wc : Nat) (F T W : List Int) (C : Int × List (Int × Int)) (hC : ChkIs F T W C) (hm : F.length ≤ maxLen) (w : World) (hA : Arr w F T W fo uo wo fc tc wc) :
    Calls Tryd.prog 7 #[.agg #[.slice fo F.length fc, .slice uo T.length tc, .slice wo W.length wc]] w fun e w' => (∃ b : Bool, e = .returned (.bool b) ∧ (b = true → C.1 ≠ 0 ∨ 0 < C.2.length ∨ F.length ≤ 30)) ∧ Below w.heap.size w w' := by
  obtain ⟨W0, hW0⟩ : ∃ W0, w.alloc (.cells #[.slice fo F.length fc, .slice uo T.length tc, .slice wo W.length wc] 24) = W0 := ⟨_, rfl⟩
  have HW0 : Hid (w.alloc (.cells #[.slice fo F.length fc, .slice uo T.length tc, .slice wo W.length wc] 24) = W0) := hW0
  have hB0 : Below w.heap.size w W0 := by rw [← hW0]; exact (Below.refl _ w).alloc (Nat.le_refl _) _
  have hbx : W0.heap[w.heap.size]? = some (.cells #[.slice fo F.length fc, .slice uo T.length tc, .slice wo W.length wc] 24) := by rw [← hW0]; exact heap_new _ _
  have HB0 : Hid (Below w.heap.size w W0) := hB0
  have HK : Hid (∀ wx, Below W0.heap.size W0 wx → (wx.cell? ⟨w.heap.size, 0, none⟩ = some (.slice fo F.length fc) ∧ wx.cell? ⟨w.heap.size, 1, none⟩ = some (.slice uo T.length tc) ∧ wx.cell? ⟨w.heap.size, 2, none⟩ = some (.slice wo W.length wc)) ∧ w.heap.size < wx.heap.size) := fun wx hx => by
    have hg := (hx.block _ (lt_of_get hbx)).trans hbx
    exact ⟨box3 hg, lt_of_get hg⟩
  have HDC : Hid (Calls Tryd.prog 23 #[.agg #[.slice fo F.length fc, .slice uo T.length tc, .slice wo W.length wc]] W0 (DocAns W0 C)) := docCheck_any fo uo wo _ fc _ tc _ wc F T W C W0 (hA.f.keep hB0) (hA.t.keep hB0) (hA.w.keep hB0) hm hC
  unfold maxLen at hm
  clear hA hW0 hB0 hbx hC
  obtain ⟨⟨c0, c1, c2⟩, cs⟩ := HK.out W0 (Below.refl _ _)
  go_enter Tryd.func7, Tryd.ntmps7
  go_wp2_with fail
  rw [HW0.out]
  refine HDC.out.mono ?_
  rintro e w1 ⟨mo, mc, rfl, _, hb⟩
  have HB1 : Hid (Below W0.heap.size W0 w1) := hb
  clear hb c0 c1 c2 cs
  go_wp2_with fail
  have hb2 : Below w1.heap.size w1 (w1.alloc (.cells #[.int .i64 C.1, .slice mo C.2.length mc] 36)) := (Below.refl _ _).alloc (Nat.le_refl _) _
  generalize w1.alloc (.cells #[.int .i64 C.1, .slice mo C.2.length mc] 36) = w2 at *
  have HB2 : Hid (Below W0.heap.size W0 w2) := btr HB1.out hb2
  clear hb2
  refine (bad_calls _ _ _ _ _).mono ?_
  have HBB : Hid ((C.1 != 0 || decide (0 < C.2.length)) = true → C.1 ≠ 0 ∨ 0 < C.2.length) := by
    show _ → _
    intro h
    simpa using h
  generalize (C.1 != 0 || decide (0 < C.2.length)) = bb at *
  rintro e w3 ⟨rfl, hb⟩
  have HB3 : Hid (Below W0.heap.size W0 w3) := btr HB2.out hb
  clear hb HB2
  obtain ⟨⟨c0, c1, c2⟩, cs⟩ := HK.out w3 HB3.out
  have HBZ : Hid (Below w.heap.size w w3) := btr HB0.out HB3.out
  cases bb
  · by_cases h2 : (F.length : Int) ≤ 30
    · go_wp2
      go_ret
      exact ⟨⟨_, rfl, fun _ => Or.inr (Or.inr (by omega))⟩, HBZ.out⟩
    · go_wp2
      go_ret
      exact ⟨⟨_, rfl, fun h => absurd (of_decide_eq_true h) (by omega)⟩, HBZ.out⟩
  · have HBC : Hid (C.1 ≠ 0 ∨ 0 < C.2.length ∨ F.length ≤ 30) := by
      rcases HBB.out (by simp) with h | h
      · exact Or.inl h
      · exact Or.inr (Or.inl h)
    go_wp2
    go_ret
    exact ⟨⟨_, rfl, fun _ => HBC.out⟩, HBZ.out⟩
end Go.Proofs.YtnkfggccahohpaaDoor
