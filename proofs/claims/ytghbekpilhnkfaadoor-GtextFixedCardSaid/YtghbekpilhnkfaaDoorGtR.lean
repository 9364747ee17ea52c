/- the reference's DocRows, walked. (gendr.py) -/
import Derived.Test.YtghbekpilhnkfaaDoorGtQ
namespace Go.Proofs.YtghbekpilhnkfaaDoor.Gt
open Go Go.Lib Go.RowKit Go.Extern Hi

attribute [local go_sem] Oper.semAt_some

theorem place_one {w : World} {g : Nat} {k a : Int} (h : w.heap[g]? = some (.cells #[.int .i64 k, .int .i64 a] 66)) : RefPl w (.slice (some ⟨g, 0, none⟩) 1 1) [(k, a)] := by
  refine ⟨⟨_, _, rfl, fun j p hj => ?_⟩, Or.inr ⟨g, 1, 1, _, rfl, h⟩⟩
  rcases j with _ | j
  · simp at hj
    subst hj
    exact ⟨g, 0, rfl, (Array.getElem?_eq_some_iff.1 h).1, by simp [World.cell?, h], by simp [World.cell?, h]⟩
  · simp at hj
theorem places_nil (w : World) : RefPl w (.slice none 0 0) [] := ⟨⟨none, 0, rfl, fun j p hj => by simp at hj⟩, Or.inl rfl⟩
theorem drows_res {W : World} {z : Nat} {v x0 x1 : Value} {tmps : Array Value} (h1 : W.heap[z]? = some (.cells #[x0, x1] 32)) (t2 : tmps[3]?.getD undef = .pointer (some ⟨z, 0, none⟩)) (t3 : tmps[2]?.getD undef = v) :
    (results Tryd.f33 tmps).run Tryd.prog W = .ok (.tuple #[v, .agg #[x0, x1]]) W := by
  have c0 : W.cell? ⟨z, 0, none⟩ = some x0 := by simp [World.cell?, h1]
  have c1 : W.cell? ⟨z, 1, none⟩ = some x1 := by simp [World.cell?, h1]
  simp [results, Tryd.results33, go_sem, t2, t3, c0, c1]
theorem dr_bad {w W1 Y : World} {t : By} {c n : Int} {z g : Nat} {cz : Array Value} (hE : rowsE t = (c, [(1, n)])) (hw : Below w.heap.size w W1) (hb : Below W1.heap.size W1 Y) (hz : Y.heap[z]? = some (.cells cz 32)) (hzw : w.heap.size ≤ z) (hpg : Y.heap[g]? = some (.cells #[.int .i64 1, .int .i64 n] 66)) :
    DrA t w (.returned (.tuple #[.slice none 0 0, .agg #[.int .i64 c, .slice (some ⟨g, 0, none⟩) 1 1]])) ((Y.setCell ⟨z, 0, none⟩ (.int .i64 c)).setCell ⟨z, 1, none⟩ (.slice (some ⟨g, 0, none⟩) 1 1)) := by
  obtain ⟨g1, g2⟩ := set_far (hw.trans (hb.mono hw.size)) hzw (.int .i64 c) (.slice (some ⟨g, 0, none⟩) 1 1)
  have hp := place_one ((g2 g (at_ne hpg hz rr_ne.2.2.2)).trans hpg)
  refine ⟨_, none, 0, [], rfl, ?_, World.ownsRow_nil _ _ _ _, (fun q hq => by cases hq), (fun q hq => by cases hq), g1, Nat.zero_le _, by rw [hE, if_neg (by simp)]; rfl⟩
  rw [hE]
  exact ⟨some ⟨g, 0, none⟩, 1, rfl, hp⟩
theorem few_of {l : By} {X : List ByteArray} (n A : Nat) {lc : Nat} (hwd : X.map bs = wordsOf l) (hl : l.length ≤ 200) (hx0 : X ≠ []) : FewR (n, A, lc, X) := by
  have g1 : (hashOf l).length ≤ l.length := (List.takeWhile_sublist _).length_le
  refine ⟨hx0, ?_, fun x hx => ?_⟩
  · have g2 := words_few (hashOf l) []
    have g3 : X.length = (wordsOf l).length := by rw [← hwd, List.length_map]
    have g4 : wordsOf l = wordsF [] (hashOf l) := rfl
    simp at g2
    show X.length ≤ 200
    rw [g3, g4]
    omega
  · have g2 : bs x ∈ wordsOf l := by rw [← hwd]; exact List.mem_map.2 ⟨x, hx, rfl⟩
    have g3 := word_len _ [] _ g2
    rw [bs_len] at g3
    simp at g3
    omega

set_option maxRecDepth 100000 in
set_option maxHeartbeats 8000000 in
theorem docRows_calls (s : ByteArray) (w : World) (hs : s.size ≤ 281474976710656) : Calls Tryd.prog 33 #[.string s] w (DrA (bs s) w) := by
  obtain ⟨z, hz⟩ : ∃ z, w.heap.size = z := ⟨_, rfl⟩
  obtain ⟨W1, hW1⟩ : ∃ W1, w.alloc (.cells #[.int .i64 0, .slice none 0 0] 32) = W1 := ⟨_, rfl⟩
  have HW1 : Hid (w.alloc (.cells #[.int .i64 0, .slice none 0 0] 32) = W1) := hW1
  have n0 : W1.heap[z]? = some (.cells #[.int .i64 0, .slice none 0 0] 32) := by rw [← hW1, ← hz]; exact heap_newG _ _
  have hb1 : Below w.heap.size w W1 := by rw [← hW1]; exact (Below.refl _ _).alloc (Nat.le_refl _) _
  have H1 : Hid (Below w.heap.size w W1 ∧ W1.heap[z]? = some (.cells #[.int .i64 0, .slice none 0 0] 32) ∧ w.heap.size ≤ z ∧ z < W1.heap.size) := ⟨hb1, n0, by omega, (Array.getElem?_eq_some_iff.1 n0).1⟩
  have HZ : Hid (∀ Y, Below W1.heap.size W1 Y → Y.heap[z]? = some (.cells #[.int .i64 0, .slice none 0 0] 32)) := fun Y hY => (hY.block _ H1.out.2.2.2).trans H1.out.2.1
  have HCL : Hid (∀ Y, Below W1.heap.size W1 Y → Y.cell? ⟨z, 0, none⟩ = some (.int .i64 0) ∧ Y.cell? ⟨z, 1, none⟩ = some (.slice none 0 0) ∧ Y.frozen? ⟨z, 0, none⟩ = false ∧ Y.frozen? ⟨z, 1, none⟩ = false) := fun Y hY => by
    have g := HZ.out Y hY
    exact ⟨by simp [World.cell?, g], by simp [World.cell?, g], by simp [World.frozen?, g], by simp [World.frozen?, g]⟩
  clear hW1 n0 hb1
  by_cases hl : 1048576 < s.size
  · have i1 : decide ((s.size : Int) > 1048576) = true := by simp; omega
    have HE : Hid (rowsE (bs s) = (2, [])) := by show _ = _; unfold rowsE; rw [bs_len, if_pos hl]
    clear hl
    go_enter Tryd.func33, Tryd.ntmps33
    go_wp2_with fail
    rw [HW1.out]
    refine (E_calls 2 W1).mono ?_
    rintro e y5 ⟨rfl, hy5⟩
    obtain ⟨c0, c1, f0, f1⟩ := HCL.out y5 hy5
    have HY5 : Hid (Below W1.heap.size W1 y5) := hy5
    clear hy5
    go_wp2
    refine bodyPost_ret (drows_res (set_twoG (HZ.out y5 HY5.out) _ _) rfl rfl) rfl ?_
    refine ⟨_, none, 0, [], rfl, ?_, World.ownsRow_nil _ _ _ _, (fun q hq => by cases hq), (fun q hq => by cases hq), (set_far (H1.out.1.trans (HY5.out.mono H1.out.1.size)) H1.out.2.2.1 _ _).1, Nat.zero_le _, by rw [HE.out, if_neg (by simp)]; rfl⟩
    rw [HE.out]
    exact ⟨none, 0, rfl, places_nil _⟩
  · have i1 : decide ((s.size : Int) > 1048576) = false := by simp; omega
    obtain ⟨T, hT⟩ : ∃ T, bs s = T := ⟨_, rfl⟩
    obtain ⟨RR, hRR⟩ : ∃ RR, rowsF T.length 1 T [] = RR := ⟨_, rfl⟩
    have HT : Hid (rowsE T = (if RR.1.1 = 0 then (0, []) else (RR.1.1, [(1, (RR.1.2 : Int))])) ∧ rowsR T = RR.2) := by
      have e : ¬ 1048576 < T.length := by rw [← hT, bs_len]; exact hl
      refine ⟨?_, ?_⟩
      · unfold rowsE; rw [if_neg e, hRR]
      · unfold rowsR; rw [if_neg e, hRR]
    have HS : Hid (rowsF ((bs s).drop 0).length 1 ((bs s).drop 0) [] = RR) := by rw [List.drop_zero, hT]; exact hRR
    have HSZ : Hid ((bs s).length = s.size) := bs_len s
    obtain ⟨i0, hi9, hzz⟩ := Option.map_eq_some_iff.1 infoRowR
    simp only [Prod.mk.injEq] at hzz
    have HI0 : Hid (Tryd.prog.info? 117 = some i0 ∧ i0.zero = some (.agg #[.int .i64 0, .slice none 0 0]) ∧ i0.size = 2 ∧ i0.bytes = 32) := ⟨hi9, hzz⟩
    rw [hT]
    clear hT hRR hi9 hzz
    go_enter Tryd.func33, Tryd.ntmps33
    go_upto_region 3 with fail
    rw [HW1.out]
    go_wp2_with fail
    go_loopw [4, 5, 6] (fun rv nv av wr => ∃ (a n : Nat) (Q : List Rr) (ro : Option Addr) (rc : Nat), rv = .slice ro Q.length rc ∧ nv = .int .i64 n ∧ av = .int .i64 a ∧ a ≤ s.size + 1 ∧ n ≤ a + 1 ∧ Q.length < n ∧ Hid (RowsJ W1 wr (.slice ro Q.length rc) Q) ∧ Hid (rowsF ((bs s).drop a).length n ((bs s).drop a) (Q.map rowOfR) = RR)) (fun _ _ av _ => s.size + 1 - (intOf av).toNat)
    case atStart => exact ⟨0, 1, [], none, 0, rfl, rfl, rfl, by omega, by omega, by simp, rows_noneR _ _ (Below.refl _ _), HS.out⟩
    case round =>
      obtain ⟨a, n, Q, ro, rc, rfl, rfl, rfl, ha, hn, hQ, HI, HR⟩ := hrel
      by_cases h0 : a < s.size
      · have i3 : decide ((a : Int) < (s.size : Int)) = true := by simp; omega
        have HNE : Hid ((bs s).drop a ≠ []) := fun e => by have := congrArg List.length e; rw [List.length_drop, HSZ.out] at this; simp at this; omega
        go_wp2_with fail
        go_loopw [7] (fun ev wq => ∃ e : Nat, a ≤ e ∧ e ≤ s.size ∧ ev = .int .i64 e ∧ Hid (lineOf ((bs s).drop a) = ((bs s).drop a).take (e - a) ++ lineOf ((bs s).drop e) ∧ restOf ((bs s).drop a) = restOf ((bs s).drop e)) ∧ wq = wr) (fun ev _ => s.size - (intOf ev).toNat)
        case atStart => exact ⟨a, Nat.le_refl _, by omega, rfl, ⟨by rw [Nat.sub_self]; rfl, rfl⟩, rfl⟩
        case round =>
          obtain ⟨e, hae, hes, rfl, HW, rfl⟩ := hrel
          rcases Nat.lt_or_eq_of_le hes with h1 | h1
          · have hb := bs_at s e h1
            obtain ⟨x, hx⟩ : ∃ x, s[e]'h1 = x := ⟨_, rfl⟩
            rw [hx] at hb
            have HB : Hid ((bs s)[e]? = some x) := hb
            clear hb
            have k1 : (0 : Int) ≤ (e : Int) := by omega
            have k2 : (e : Int) < (s.size : Int) := by omega
            have k3 : decide ((e : Int) < (s.size : Int)) = true := by simp; omega
            by_cases hx5 : x = 10
            · have HTL : Hid (lineOf ((bs s).drop e) = [] ∧ restOf ((bs s).drop e) = (bs s).drop (e + 1)) := line_stop (hx5 ▸ HB.out)
              subst hx5
              have HLN : Hid (lineOf ((bs s).drop a) = bs (s.extract a e) ∧ restOf ((bs s).drop a) = (bs s).drop (e + 1) ∧ (lineOf ((bs s).drop a)).length = e - a) := by
                obtain ⟨a1, a2⟩ := HW.out
                rw [HTL.out.1, List.append_nil] at a1
                rw [HTL.out.2] at a2
                refine ⟨by rw [a1, bs_extract], a2, ?_⟩
                rw [a1, List.length_take, List.length_drop, HSZ.out]
                omega
              clear HW HTL
              have j5 : IntKind.i64.wrap ((e : Int) - (a : Int)) = (e : Int) - (a : Int) := by rw [IntKind.wrap_i64] <;> omega
              have j6 : (a : Int) ≤ (e : Int) := by omega
              have j7 : (e : Int) ≤ (s.size : Int) := by omega
              have j8 : (0 : Int) ≤ (a : Int) := by omega
              have j9 : (0 : Int) ≤ (e : Int) := by omega
              by_cases hlong : 200 < e - a
              · have d5 : decide ((e : Int) - (a : Int) > 200) = true := by simp; omega
                have HER : Hid (rowsE T = (2, [(1, (n : Int))])) := by
                  have e1 := HR.out
                  rw [rows_long HNE.out (by rw [HLN.out.2.2]; exact hlong)] at e1
                  show _ = _
                  rw [HT.out.1, ← e1]
                  rfl
                clear hlong
                go_wp2_with fail
                refine (E_calls 2 wr).mono ?_
                rintro e9 y5 ⟨rfl, hy5⟩
                go_wp2_with fail
                refine (refAt_calls 1 (n : Int) 2 y5).mono ?_
                rintro e9 y6 ⟨pg, rfl, hpg, hy6⟩
                have hb6 : Below W1.heap.size W1 y6 := (HI.out.bel).trans ((btrG hy5 hy6).mono (HI.out.bel).size)
                obtain ⟨c0, c1, f0, f1⟩ := HCL.out y6 hb6
                have HPG : Hid (y6.heap[pg]? = some (.cells #[.int .i64 1, .int .i64 (n : Int)] 66) ∧ Below W1.heap.size W1 y6) := ⟨hpg, hb6⟩
                clear hpg hb6 hy5 hy6
                go_wp2
                refine bodyPost_ret (drows_res (set_twoG (HZ.out y6 HPG.out.2) _ _) rfl rfl) rfl ?_
                exact dr_bad HER.out H1.out.1 HPG.out.2 (HZ.out y6 HPG.out.2) H1.out.2.2.1 HPG.out.1
              · have d5 : decide ((e : Int) - (a : Int) > 200) = false := by simp; omega
                have hsz : (s.extract a e).size ≤ 200 := by
                  have e1 := HLN.out.2.2
                  rw [HLN.out.1, bs_len] at e1
                  omega
                have HLE : Hid ((lineOf ((bs s).drop a)).length ≤ 200) := by have := HLN.out.2.2; show _ ≤ _; omega
                obtain ⟨l, hl⟩ : ∃ l, s.extract a e = l := ⟨_, rfl⟩
                rw [hl] at HLN hsz
                have HWC : Hid (Calls Tryd.prog 48 #[.string l] wr (WrA (bs l) wr)) := rwords_calls l wr (by omega)
                clear hlong hsz
                go_wp2_with fail
                try rw [hl]
                refine HWC.out.mono ?_
                rintro e9 y2 ⟨lo, lc, X, rfl, hX, hown, hby⟩
                clear hl HWC
                have HI2 : Hid (RowsJ W1 y2 (.slice ro Q.length rc) Q) := HI.out.up hby
                have HY2 : Hid (y2.ownsRow wr.heap.size 9 1 (.slice lo X.length lc) X.length (X.map Value.string)) := hown
                have hwd : X.map bs = wordsOf (lineOf ((bs s).drop a)) := by rw [hX, HLN.out.1]
                clear hown hby hX
                by_cases hrt : rightL (bs l) = true
                · rw [hrt]
                  have HST : Hid (rowsF ((bs s).drop (e + 1)).length (n + 1) ((bs s).drop (e + 1)) (if X = [] then Q.map rowOfR else Q.map rowOfR ++ [(n, X.map bs)]) = RR) := by
                    have e1 := HR.out
                    rw [rows_step HNE.out HLE.out (by rw [HLN.out.1]; exact hrt), ← hwd, HLN.out.2.1] at e1
                    by_cases hx0 : X = []
                    · rw [hx0] at e1 ⊢
                      exact e1
                    · rw [if_neg (by simpa using hx0)] at e1
                      rw [if_neg hx0]
                      exact e1
                  by_cases hx0 : X = []
                  · subst hx0
                    rw [if_pos rfl] at HST
                    clear hrt hwd
                    go_wp2_with fail
                    go_roundw
                    case rel => exact ⟨e + 1, n + 1, Q, ro, rc, rfl, by rw [show (n : Int) + 1 = ((n + 1 : Nat) : Int) by omega], by rw [show (e : Int) + 1 = ((e + 1 : Nat) : Int) by omega], by omega, by omega, by omega, HI2, HST⟩
                    case measure => simp only [intOf]; omega
                  · rw [if_neg hx0] at HST
                    have hxl : 0 < X.length := List.length_pos_iff.2 hx0
                    have i5 : decide ((X.length : Int) > 0) = true := by simp; omega
                    obtain ⟨A, hA, hSA⟩ := str_atR n HY2.out hx0
                    subst hA
                    have HSA : Hid (StR y2 (n, A, lc, X)) := hSA
                    have HFW : Hid (FewR (n, A, lc, X)) := few_of n A hwd HLE.out hx0
                    clear hx0 hSA hwd hrt
                    go_wp2_with (at_builtin; refine wpList_append_own _ rfl _ _ 82 rfl W1.heap.size 117 i0 (.agg #[.int .i64 0, .slice none 0 0]) 2 32 Tryd.underlying82 HI0.out.1 HI0.out.2.1 HI0.out.2.2.1 HI0.out.2.2.2 rfl (by decide) _ Q.length (rcsR Q) rfl (HI2.out.up ((Below.refl _ y2).alloc (Nat.le_refl _) _)).own ⟨y2.heap.size, 0, none⟩ 1 1 (rcsR [(n, A, lc, X)]) rfl rfl (new_cellsG y2 (rcsR [(n, A, lc, X)]) 117) (rcsR_one _) (by unfold maxLen; omega) (by omega) (by have := HI2.out.bel.size; simp; omega) ?_; intro v5 w5 hown5 hgr5 _; have H5 : Hid (RowsJ W1 w5 v5 (Q ++ [(n, A, lc, X)])) := (HI2.out.up ((Below.refl _ y2).alloc (Nat.le_refl _) _)).add ⟨HSA.out.1.keep ((Below.refl _ y2).alloc (Nat.le_refl _) _), HSA.out.2⟩ HFW.out hown5 hgr5; clear hown5 hgr5; obtain ⟨po, pc, hv5⟩ := slice_ofG H5.out.own; subst hv5)
                    go_roundw
                    case rel => exact ⟨e + 1, n + 1, Q ++ [(n, A, lc, X)], po, pc, by simp, by rw [show (n : Int) + 1 = ((n + 1 : Nat) : Int) by omega], by rw [show (e : Int) + 1 = ((e + 1 : Nat) : Int) by omega], by omega, by omega, by simp; omega, H5, by have e := HST.out; show _ = _; rw [List.map_append]; exact e⟩
                    case measure => simp only [intOf]; omega
                · have hrf : rightL (bs l) = false := by simpa using hrt
                  rw [hrf]
                  have HER : Hid (rowsE T = (3, [(1, (n : Int))])) := by
                    have e1 := HR.out
                    rw [rows_word HNE.out HLE.out (by rw [HLN.out.1]; exact hrf)] at e1
                    show _ = _
                    rw [HT.out.1, ← e1]
                    rfl
                  clear hrt hrf hwd
                  go_wp2_with fail
                  refine (E_calls 3 y2).mono ?_
                  rintro e9 y5 ⟨rfl, hy5⟩
                  go_wp2_with fail
                  refine (refAt_calls 1 (n : Int) 3 y5).mono ?_
                  rintro e9 y6 ⟨pg, rfl, hpg, hy6⟩
                  have hb6 : Below W1.heap.size W1 y6 := (HI2.out.bel).trans ((btrG hy5 hy6).mono (HI2.out.bel).size)
                  obtain ⟨c0, c1, f0, f1⟩ := HCL.out y6 hb6
                  have HPG : Hid (y6.heap[pg]? = some (.cells #[.int .i64 1, .int .i64 (n : Int)] 66) ∧ Below W1.heap.size W1 y6) := ⟨hpg, hb6⟩
                  clear hpg hb6 hy5 hy6
                  go_wp2
                  refine bodyPost_ret (drows_res (set_twoG (HZ.out y6 HPG.out.2) _ _) rfl rfl) rfl ?_
                  exact dr_bad HER.out H1.out.1 HPG.out.2 (HZ.out y6 HPG.out.2) H1.out.2.2.1 HPG.out.1
            · have d1 : ((x.toNat : Int) != 10) = true := bne_iff_ne.2 (fun q => hx5 (UInt8.toNat_inj.1 (by show x.toNat = 10; omega)))
              have HW2 : Hid (lineOf ((bs s).drop a) = ((bs s).drop a).take (e + 1 - a) ++ lineOf ((bs s).drop (e + 1)) ∧ restOf ((bs s).drop a) = restOf ((bs s).drop (e + 1))) := by
                obtain ⟨a1, a2⟩ := HW.out
                obtain ⟨b1, b2⟩ := line_step HB.out hx5
                refine ⟨by rw [a1, b1, take_more HB.out hae]; simp, by rw [a2, b2]⟩
              clear hx5 HW
              go_wp2_with fail
              go_roundw
              case rel => exact ⟨e + 1, by omega, by omega, by rw [show (e : Int) + 1 = ((e + 1 : Nat) : Int) by omega], HW2, trivial⟩
              case measure => simp only [intOf]; omega
          · have k3 : decide ((e : Int) < (s.size : Int)) = false := by simp; omega
            have HTL : Hid (lineOf ((bs s).drop e) = [] ∧ restOf ((bs s).drop e) = (bs s).drop (e + 1)) := line_end (by rw [HSZ.out]; omega)
            have k4 : ¬ e < s.size := by omega
            clear h1
            have HLN : Hid (lineOf ((bs s).drop a) = bs (s.extract a e) ∧ restOf ((bs s).drop a) = (bs s).drop (e + 1) ∧ (lineOf ((bs s).drop a)).length = e - a) := by
              obtain ⟨a1, a2⟩ := HW.out
              rw [HTL.out.1, List.append_nil] at a1
              rw [HTL.out.2] at a2
              refine ⟨by rw [a1, bs_extract], a2, ?_⟩
              rw [a1, List.length_take, List.length_drop, HSZ.out]
              omega
            clear HW HTL
            have j5 : IntKind.i64.wrap ((e : Int) - (a : Int)) = (e : Int) - (a : Int) := by rw [IntKind.wrap_i64] <;> omega
            have j6 : (a : Int) ≤ (e : Int) := by omega
            have j7 : (e : Int) ≤ (s.size : Int) := by omega
            have j8 : (0 : Int) ≤ (a : Int) := by omega
            have j9 : (0 : Int) ≤ (e : Int) := by omega
            by_cases hlong : 200 < e - a
            · have d5 : decide ((e : Int) - (a : Int) > 200) = true := by simp; omega
              have HER : Hid (rowsE T = (2, [(1, (n : Int))])) := by
                have e1 := HR.out
                rw [rows_long HNE.out (by rw [HLN.out.2.2]; exact hlong)] at e1
                show _ = _
                rw [HT.out.1, ← e1]
                rfl
              clear hlong
              go_wp2_with fail
              refine (E_calls 2 wr).mono ?_
              rintro e9 y5 ⟨rfl, hy5⟩
              go_wp2_with fail
              refine (refAt_calls 1 (n : Int) 2 y5).mono ?_
              rintro e9 y6 ⟨pg, rfl, hpg, hy6⟩
              have hb6 : Below W1.heap.size W1 y6 := (HI.out.bel).trans ((btrG hy5 hy6).mono (HI.out.bel).size)
              obtain ⟨c0, c1, f0, f1⟩ := HCL.out y6 hb6
              have HPG : Hid (y6.heap[pg]? = some (.cells #[.int .i64 1, .int .i64 (n : Int)] 66) ∧ Below W1.heap.size W1 y6) := ⟨hpg, hb6⟩
              clear hpg hb6 hy5 hy6
              go_wp2
              refine bodyPost_ret (drows_res (set_twoG (HZ.out y6 HPG.out.2) _ _) rfl rfl) rfl ?_
              exact dr_bad HER.out H1.out.1 HPG.out.2 (HZ.out y6 HPG.out.2) H1.out.2.2.1 HPG.out.1
            · have d5 : decide ((e : Int) - (a : Int) > 200) = false := by simp; omega
              have hsz : (s.extract a e).size ≤ 200 := by
                have e1 := HLN.out.2.2
                rw [HLN.out.1, bs_len] at e1
                omega
              have HLE : Hid ((lineOf ((bs s).drop a)).length ≤ 200) := by have := HLN.out.2.2; show _ ≤ _; omega
              obtain ⟨l, hl⟩ : ∃ l, s.extract a e = l := ⟨_, rfl⟩
              rw [hl] at HLN hsz
              have HWC : Hid (Calls Tryd.prog 48 #[.string l] wr (WrA (bs l) wr)) := rwords_calls l wr (by omega)
              clear hlong hsz
              go_wp2_with fail
              try rw [hl]
              refine HWC.out.mono ?_
              rintro e9 y2 ⟨lo, lc, X, rfl, hX, hown, hby⟩
              clear hl HWC
              have HI2 : Hid (RowsJ W1 y2 (.slice ro Q.length rc) Q) := HI.out.up hby
              have HY2 : Hid (y2.ownsRow wr.heap.size 9 1 (.slice lo X.length lc) X.length (X.map Value.string)) := hown
              have hwd : X.map bs = wordsOf (lineOf ((bs s).drop a)) := by rw [hX, HLN.out.1]
              clear hown hby hX
              by_cases hrt : rightL (bs l) = true
              · rw [hrt]
                have HST : Hid (rowsF ((bs s).drop (e + 1)).length (n + 1) ((bs s).drop (e + 1)) (if X = [] then Q.map rowOfR else Q.map rowOfR ++ [(n, X.map bs)]) = RR) := by
                  have e1 := HR.out
                  rw [rows_step HNE.out HLE.out (by rw [HLN.out.1]; exact hrt), ← hwd, HLN.out.2.1] at e1
                  by_cases hx0 : X = []
                  · rw [hx0] at e1 ⊢
                    exact e1
                  · rw [if_neg (by simpa using hx0)] at e1
                    rw [if_neg hx0]
                    exact e1
                by_cases hx0 : X = []
                · subst hx0
                  rw [if_pos rfl] at HST
                  clear hrt hwd
                  go_wp2_with fail
                  go_roundw
                  case rel => exact ⟨e + 1, n + 1, Q, ro, rc, rfl, by rw [show (n : Int) + 1 = ((n + 1 : Nat) : Int) by omega], by rw [show (e : Int) + 1 = ((e + 1 : Nat) : Int) by omega], by omega, by omega, by omega, HI2, HST⟩
                  case measure => simp only [intOf]; omega
                · rw [if_neg hx0] at HST
                  have hxl : 0 < X.length := List.length_pos_iff.2 hx0
                  have i5 : decide ((X.length : Int) > 0) = true := by simp; omega
                  obtain ⟨A, hA, hSA⟩ := str_atR n HY2.out hx0
                  subst hA
                  have HSA : Hid (StR y2 (n, A, lc, X)) := hSA
                  have HFW : Hid (FewR (n, A, lc, X)) := few_of n A hwd HLE.out hx0
                  clear hx0 hSA hwd hrt
                  go_wp2_with (at_builtin; refine wpList_append_own _ rfl _ _ 82 rfl W1.heap.size 117 i0 (.agg #[.int .i64 0, .slice none 0 0]) 2 32 Tryd.underlying82 HI0.out.1 HI0.out.2.1 HI0.out.2.2.1 HI0.out.2.2.2 rfl (by decide) _ Q.length (rcsR Q) rfl (HI2.out.up ((Below.refl _ y2).alloc (Nat.le_refl _) _)).own ⟨y2.heap.size, 0, none⟩ 1 1 (rcsR [(n, A, lc, X)]) rfl rfl (new_cellsG y2 (rcsR [(n, A, lc, X)]) 117) (rcsR_one _) (by unfold maxLen; omega) (by omega) (by have := HI2.out.bel.size; simp; omega) ?_; intro v5 w5 hown5 hgr5 _; have H5 : Hid (RowsJ W1 w5 v5 (Q ++ [(n, A, lc, X)])) := (HI2.out.up ((Below.refl _ y2).alloc (Nat.le_refl _) _)).add ⟨HSA.out.1.keep ((Below.refl _ y2).alloc (Nat.le_refl _) _), HSA.out.2⟩ HFW.out hown5 hgr5; clear hown5 hgr5; obtain ⟨po, pc, hv5⟩ := slice_ofG H5.out.own; subst hv5)
                  go_roundw
                  case rel => exact ⟨e + 1, n + 1, Q ++ [(n, A, lc, X)], po, pc, by simp, by rw [show (n : Int) + 1 = ((n + 1 : Nat) : Int) by omega], by rw [show (e : Int) + 1 = ((e + 1 : Nat) : Int) by omega], by omega, by omega, by simp; omega, H5, by have e := HST.out; show _ = _; rw [List.map_append]; exact e⟩
                  case measure => simp only [intOf]; omega
              · have hrf : rightL (bs l) = false := by simpa using hrt
                rw [hrf]
                have HER : Hid (rowsE T = (3, [(1, (n : Int))])) := by
                  have e1 := HR.out
                  rw [rows_word HNE.out HLE.out (by rw [HLN.out.1]; exact hrf)] at e1
                  show _ = _
                  rw [HT.out.1, ← e1]
                  rfl
                clear hrt hrf hwd
                go_wp2_with fail
                refine (E_calls 3 y2).mono ?_
                rintro e9 y5 ⟨rfl, hy5⟩
                go_wp2_with fail
                refine (refAt_calls 1 (n : Int) 3 y5).mono ?_
                rintro e9 y6 ⟨pg, rfl, hpg, hy6⟩
                have hb6 : Below W1.heap.size W1 y6 := (HI2.out.bel).trans ((btrG hy5 hy6).mono (HI2.out.bel).size)
                obtain ⟨c0, c1, f0, f1⟩ := HCL.out y6 hb6
                have HPG : Hid (y6.heap[pg]? = some (.cells #[.int .i64 1, .int .i64 (n : Int)] 66) ∧ Below W1.heap.size W1 y6) := ⟨hpg, hb6⟩
                clear hpg hb6 hy5 hy6
                go_wp2
                refine bodyPost_ret (drows_res (set_twoG (HZ.out y6 HPG.out.2) _ _) rfl rfl) rfl ?_
                exact dr_bad HER.out H1.out.1 HPG.out.2 (HZ.out y6 HPG.out.2) H1.out.2.2.1 HPG.out.1
      · have i3 : decide ((a : Int) < (s.size : Int)) = false := by simp; omega
        have HZR : Hid (rowsE T = (0, []) ∧ rowsR T = Q.map rowOfR) := by
          have e1 := HR.out
          rw [List.drop_eq_nil_of_le (by rw [HSZ.out]; omega)] at e1
          have e2 : rowsF ([] : By).length n [] (Q.map rowOfR) = ((0, 0), Q.map rowOfR) := rfl
          rw [e2] at e1
          rw [HT.out.1, HT.out.2, ← e1]
          exact ⟨rfl, rfl⟩
        obtain ⟨c0, c1, f0, f1⟩ := HCL.out wr HI.out.bel
        go_wp2
        obtain ⟨g1, g2, g3⟩ := HI.out.set (x := .int .i64 0) (y := .slice none 0 0) (HZ.out wr HI.out.bel) w.heap.size H1.out.1.size H1.out.2.2.1
        refine bodyPost_ret (drows_res (set_twoG (HZ.out wr HI.out.bel) _ _) rfl rfl) rfl ?_
        refine ⟨_, ro, rc, Q, rfl, ?_, g1, g2, HI.out.few, H1.out.1.trans g3, by omega, by rw [HZR.out.1, if_pos rfl, HZR.out.2]⟩
        rw [HZR.out.1]
        exact ⟨none, 0, rfl, places_nil _⟩
end Go.Proofs.YtghbekpilhnkfaaDoor.Gt
