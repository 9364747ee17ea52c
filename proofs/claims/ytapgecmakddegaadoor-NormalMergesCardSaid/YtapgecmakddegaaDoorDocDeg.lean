/- viaductref04.DocDegrees: the document's answer: what is counted, or the error. -/
import Derived.Test.YtapgecmakddegaaDoorDeg
namespace Go.Proofs.YtapgecmakddegaaDoor
open Go.RowKit Go.Extern Go.Sort Go.Shelf

attribute [local go_sem] Oper.semAt_some

/-- two cells of a block are laid: what lies in other blocks stays. -/
theorem HasInts.lay {W : World} {v : Value} {l : List Int} (h : HasInts W v l) {R : Nat} (hR : ∀ b off lc ll, v = .slice (some ⟨b, off, none⟩) ll lc → b ≠ R) (c0 c1 : Value) : HasInts ((W.setCell ⟨R, 0, none⟩ c0).setCell ⟨R, 1, none⟩ c1) v l := by
  obtain ⟨ao, cap, e, hc⟩ := h
  refine ⟨ao, cap, e, fun j a hj => ?_⟩
  obtain ⟨b, off, ea, hl, q0⟩ := hc j a hj
  have n1 : b ≠ R := hR b off cap l.length (by rw [e, ea])
  refine ⟨b, off, ea, by simp; exact hl, ?_⟩
  rw [World.cell?_setCell_other _ _ _ _ (fun e => n1 (congrArg Addr.block e).symm), World.cell?_setCell_other _ _ _ _ (fun e => n1 (congrArg Addr.block e).symm)]
  exact q0
theorem HasPlaces.lay2 {W : World} {v : Value} {l : List (Int × Int)} (h : HasPlaces W v l) {R : Nat} {x0 : Value} {so : Option Addr} {sl sc : Nat} {t : TypeId} (h1 : W.heap[R]? = some (.cells #[x0, .slice so sl sc] t)) (c0 c1 : Value) : HasPlaces ((W.setCell ⟨R, 0, none⟩ c0).setCell ⟨R, 1, none⟩ c1) v l := by
  obtain ⟨ao, cap, e, hc⟩ := h
  refine ⟨ao, cap, e, fun j a hj => ?_⟩
  obtain ⟨b, off, ea, hl, q0, q1⟩ := hc j a hj
  have n1 : b ≠ R := fun e => by
    subst e
    simp only [World.cell?, h1] at q1
    rw [if_neg (by simp)] at q1
    rcases (show off + j * 2 = 0 ∨ 2 ≤ off + j * 2 + 1 by omega) with h | h
    · rw [h] at q1; simp at q1
    · rw [Array.getElem?_eq_none (by simpa using h)] at q1; cases q1
  refine ⟨b, off, ea, by simp; exact hl, ?_, ?_⟩
  · rw [World.cell?_setCell_other _ _ _ _ (fun e => n1 (congrArg Addr.block e).symm), World.cell?_setCell_other _ _ _ _ (fun e => n1 (congrArg Addr.block e).symm)]
    exact q0
  · rw [World.cell?_setCell_other _ _ _ _ (fun e => n1 (congrArg Addr.block e).symm), World.cell?_setCell_other _ _ _ _ (fun e => n1 (congrArg Addr.block e).symm)]
    exact q1

set_option maxRecDepth 100000 in
set_option maxHeartbeats 4000000 in
theorem docDegrees_calls (N : Int) (ao : Option Addr) (cap : Nat) (xs : List (Int × Int × Int)) (w : World) (hl : HasArcs w (.slice ao xs.length cap) xs) (hm : xs.length ≤ maxLen) :
    Calls Tryd.prog 18 #[.agg #[.int .i64 N, .slice ao xs.length cap]] w fun e w' => ∃ fv tv fl tl po pc, e = .returned (.tuple #[fv, tv, .agg #[.int .i64 (graphErr N xs).1, .slice po (graphErr N xs).2.length pc]]) ∧ HasInts w' fv fl ∧ HasInts w' tv tl ∧ (NewV w fv ∧ NewV w tv) ∧ HasPlaces w' (.slice po (graphErr N xs).2.length pc) (graphErr N xs).2 ∧ ((graphErr N xs = (0, []) ∧ fl = outL N.toNat xs ∧ tl = inL N.toNat xs) ∨ (graphErr N xs ≠ (0, []) ∧ fl = [] ∧ tl = [])) ∧ Below w.heap.size w w' := by
  obtain ⟨W0, hW0⟩ : ∃ W0, (w.alloc (.cells #[.int .i64 N, .slice ao xs.length cap] 24)).alloc (.cells #[.int .i64 0, .slice none 0 0] 33) = W0 := ⟨_, rfl⟩
  have hB0 : Below w.heap.size w W0 := by rw [← hW0]; exact ((Below.refl _ w).alloc (Nat.le_refl _) _).alloc (by simp) _
  have k0 : W0.heap[w.heap.size]? = some (.cells #[.int .i64 N, .slice ao xs.length cap] 24) := by rw [← hW0, Below.heap_alloc _ _ _ (by simp)]; exact heap_new _ _
  have k2 : W0.heap[w.heap.size + 1]? = some (.cells #[.int .i64 0, .slice none 0 0] 33) := by
    have h := heap_new (w.alloc (.cells #[.int .i64 N, .slice ao xs.length cap] 24)) (.cells #[.int .i64 0, .slice none 0 0] 33)
    rw [hW0] at h
    simpa using h
  have HW0 : Hid ((w.alloc (.cells #[.int .i64 N, .slice ao xs.length cap] 24)).alloc (.cells #[.int .i64 0, .slice none 0 0] 33) = W0) := hW0
  have HB0 : Hid (Below w.heap.size w W0) := hB0
  have HK : Hid (∀ wx, Below W0.heap.size W0 wx → wx.cell? ⟨w.heap.size, 0, none⟩ = some (.int .i64 N) ∧ wx.cell? ⟨w.heap.size, 1, none⟩ = some (.slice ao xs.length cap) ∧ (wx.cell? ⟨w.heap.size + 1, 0, none⟩ = some (.int .i64 0) ∧ wx.cell? ⟨w.heap.size + 1, 1, none⟩ = some (.slice none 0 0) ∧ wx.frozen? ⟨w.heap.size + 1, 0, none⟩ = false ∧ wx.frozen? ⟨w.heap.size + 1, 1, none⟩ = false) ∧ w.heap.size + 1 < wx.heap.size ∧ Below w.heap.size w wx ∧ wx.heap[w.heap.size + 1]? = some (.cells #[.int .i64 0, .slice none 0 0] 33)) := fun wx h => by
    have g0 := (h.block _ (lt_of_get k0)).trans k0
    have g2 := (h.block _ (lt_of_get k2)).trans k2
    exact ⟨(cell_two g0).1, (cell_two g0).2.1, cell_two g2, lt_of_get g2, hB0.trans (h.mono hB0.size), g2⟩
  have HDC : Hid (Calls Tryd.prog 33 #[.agg #[.int .i64 N, .slice ao xs.length cap]] W0 fun e w' => ∃ lo lc, e = .returned (.agg #[.int .i64 (graphErr N xs).1, .slice lo (graphErr N xs).2.length lc]) ∧ HasPlaces w' (.slice lo (graphErr N xs).2.length lc) (graphErr N xs).2 ∧ Below W0.heap.size W0 w') := docCheck_calls N ao cap xs W0 (hl.keep hB0) hm
  have HL : Hid (HasArcs w (.slice ao xs.length cap) xs) := hl
  have HCD : Hid (graphErr N xs = (0, []) ∨ (graphErr N xs).1 ≠ 0) := by
    show _ ∨ _
    by_cases h : (graphErr N xs).1 = 0
    · left
      unfold graphErr at *
      split at h
      · simp at h
      · rename_i hlim
        rw [if_neg hlim]
        cases hf : firstBad N xs 0 with
        | none => rfl
        | some q =>
          rw [hf] at h
          exact absurd h (firstBad_ne N xs 0 q hf)
    · exact Or.inr h
  clear hl k0 k2 hB0 hW0
  have HBD : Hid (∀ wx C lo l lc, Calls Tryd.prog 34 #[.agg #[.int .i64 C, .slice lo l lc]] wx fun e w' => e = .returned (.bool (C != 0 || decide (0 < l))) ∧ Below wx.heap.size wx w') := fun wx C lo l lc => bad_calls C lo l lc wx
  go_enter Tryd.func18, Tryd.ntmps18
  go_wp2_with fail
  rw [HW0.out]
  refine HDC.out.mono ?_
  rintro e w1 ⟨po, pc, rfl, hp1, hb1⟩
  have HP1 : Hid (HasPlaces w1 (.slice po (graphErr N xs).2.length pc) (graphErr N xs).2) := hp1
  have HB1 : Hid (Below W0.heap.size W0 w1) := hb1
  clear hp1 hb1
  have HBE : Hid (Below w1.heap.size w1 (w1.alloc (.cells #[.int .i64 (graphErr N xs).1, .slice po (graphErr N xs).2.length pc] 33))) := (Below.refl _ w1).alloc (Nat.le_refl _) _
  have HNE : Hid ((w1.alloc (.cells #[.int .i64 (graphErr N xs).1, .slice po (graphErr N xs).2.length pc] 33)).heap[w1.heap.size]? = some (.cells #[.int .i64 (graphErr N xs).1, .slice po (graphErr N xs).2.length pc] 33)) := heap_new _ _
  rcases HCD.out with hgood | hbad
  · have HG : Hid (graphErr N xs = (0, [])) := hgood
    obtain ⟨hN0, hN1, hlen, hends⟩ := graph_good hgood
    have hC : (graphErr N xs).1 = 0 := by rw [hgood]
    have hL : (graphErr N xs).2.length = 0 := by rw [hgood]; rfl
    rw [hC, hL] at HBE HNE ⊢
    obtain ⟨n, rfl⟩ : ∃ n : Nat, N = (n : Int) := ⟨N.toNat, by omega⟩
    have HE : Hid (∀ (k : Nat) (a : Int × Int × Int), xs[k]? = some a → 0 ≤ a.1 ∧ a.1 < n ∧ 0 ≤ a.2.1 ∧ a.2.1 < n) := hends
    have hmk := run_make_row' (P := Tryd.prog) 42 3 (.int .i64 0) 8 Tryd.underlying42 info3i rfl .i64 .i64 n (by omega) (by omega)
    clear hgood hC hL hends
    go_wp2_with fail
    refine (HBD.out _ _ _ _ _).mono ?_
    rintro e w2 ⟨rfl, hb2⟩
    have HB2 : Hid (Below W0.heap.size W0 w2) := HB1.out.trans ((HBE.out.trans (hb2.mono HBE.out.size)).mono HB1.out.size)
    obtain ⟨c0, c1, ⟨b0, b1, y0, y1⟩, hs2, hB2, _⟩ := HK.out w2 HB2.out
    have hs1 : w.heap.size < w2.heap.size := by omega
    have HBW : Hid (Below w.heap.size w w2) := hB2
    have HD : Hid (_ ∧ _) := deg_two w2 n xs
    clear hb2 hB2 b0 b1 y0 y1
    go_upto_region 4 with fail
    go_cut [6, 7] (fun f t wx => ∃ F T, f = .slice (some ⟨F, 0, none⟩) n n ∧ t = .slice (some ⟨T, 0, none⟩) n n ∧ DegI w2 F T n xs 0 wx)
    case first =>
      go_region_held (fun w' => w'.cell? ⟨w.heap.size, 0, none⟩ = some (.int .i64 n)) (go_keep) (first | fail)
      all_goals (go_wp2_with fail; go_meet; refine ⟨_, _, rfl, rfl, ?_⟩)
      · exact HD.out.1
      · exact HD.out.2
    case rest =>
      obtain ⟨F, T, hf, ht, hd⟩ := hcut
      subst hf
      subst ht
      have HD2 : Hid (DegI w2 F T n xs 0 wc) := hd
      have d1 := (hd.below.cell (p := ⟨w.heap.size, 1, none⟩) hs1).trans c1
      clear hd c0 c1 hmk HD
      generalize wc = w3 at *
      go_wp2_with fail
      go_loopw [24] (fun iv wr => ∃ k : Nat, k ≤ xs.length ∧ iv = .int .i64 k ∧ DegI w2 F T n xs k wr) (fun iv _ => xs.length - (intOf iv).toNat)
      case atStart => exact ⟨0, Nat.zero_le _, rfl, HD2.out⟩
      case round =>
        obtain ⟨k, hk, rfl, hinv⟩ := hrel
        have HI : Hid (DegI w2 F T n xs k wr) := hinv
        clear hinv d1
        by_cases hlt : k < xs.length
        · obtain ⟨a, ha⟩ : ∃ a, xs[k]? = some a := ⟨xs[k], List.getElem?_eq_getElem hlt⟩
          obtain ⟨i, j, c, hi, hj, rfl⟩ : ∃ (i j : Nat) (c : Int), i < n ∧ j < n ∧ a = ((i : Int), (j : Int), c) := by
            obtain ⟨a0, a1, a2⟩ := a
            obtain ⟨p0, p1, p2, p3⟩ := HE.out k _ ha
            simp only at p0 p1 p2 p3
            exact ⟨a0.toNat, a1.toNat, a2, by omega, by omega, by rw [Int.toNat_of_nonneg p0, Int.toNat_of_nonneg p2]⟩
          obtain ⟨b, off, hao, hbl, q0, q1, q2⟩ := HL.out.at ha
          subst hao
          have hbw := HBW.out.trans (HI.out.below.mono HBW.out.size)
          have e0 := (hbw.cell (p := ⟨b, off + k * 3, none⟩) hbl).trans q0
          have e1 := (hbw.cell (p := ⟨b, off + k * 3 + 1, none⟩) hbl).trans q1
          have e2 := (hbw.cell (p := ⟨b, off + k * 3 + 2, none⟩) hbl).trans q2
          simp only at e0 e1 e2
          obtain ⟨of, hof⟩ : ∃ x, cnt (outs xs k) i = x := ⟨_, rfl⟩
          obtain ⟨ot, hot⟩ : ∃ x, cnt (ins xs k) j = x := ⟨_, rfl⟩
          have f0 := HI.out.cf i hi
          have f1 := HI.out.ct j hj
          have HIN : Hid (DegI w2 F T n xs (k + 1) (((wr.setCell ⟨F, i, none⟩ (.int .i64 (of + 1))).setCell ⟨T, j, none⟩ (.int .i64 (ot + 1))).alloc (.cells #[.int .i64 i, .int .i64 j, .int .i64 c] 51))) := by
            have h := (HI.out.next ha hi hj).keep ((Below.refl _ _).alloc (Nat.le_refl _) (.cells #[.int .i64 i, .int .i64 j, .int .i64 c] 51))
            rw [hof, hot] at h
            exact h
          have bo := outs_bound xs k i
          have bi := ins_bound xs k j
          rw [hof] at f0 bo
          rw [hot] at f1 bi
          have z0 := HI.out.ff i
          have z1 := HI.out.ft j
          have hFl := HI.out.lf
          have hTl := HI.out.lt
          have n1 : ¬ F = T := HI.out.ne
          have n2 : ¬ T = F := fun e => HI.out.ne e.symm
          clear q0 q1 q2 ha hof hot hbw
          go_wp2
          go_roundw
          case rel => exact ⟨k + 1, by omega, by go_num, HIN.out⟩
          case measure => simp [intOf]; omega
        · obtain rfl : k = xs.length := by omega
          obtain ⟨_, _, ⟨b0, b1, y0, y1⟩, hs3, hB3, g2⟩ := HK.out wr (HB2.out.trans (HI.out.below.mono HB2.out.size))
          have HB3 : Hid (Below w.heap.size w wr) := hB3
          have nF : F ≠ w.heap.size + 1 := fun e => by have := HI.out.hf; omega
          have nT : T ≠ w.heap.size + 1 := fun e => by have := HI.out.ht; omega
          have HO : Hid (∀ c0 c1, HasInts ((wr.setCell ⟨w.heap.size + 1, 0, none⟩ c0).setCell ⟨w.heap.size + 1, 1, none⟩ c1) (.slice (some ⟨F, 0, none⟩) n n) (outL n xs)) := fun c0 c1 => (HI.out.outs n).lay (fun b off lc ll e => by injection e with e1; injection e1 with e1; injection e1 with e1; rw [← e1]; exact nF) _ _
          have HN : Hid (∀ c0 c1, HasInts ((wr.setCell ⟨w.heap.size + 1, 0, none⟩ c0).setCell ⟨w.heap.size + 1, 1, none⟩ c1) (.slice (some ⟨T, 0, none⟩) n n) (inL n xs)) := fun c0 c1 => (HI.out.ins n).lay (fun b off lc ll e => by injection e with e1; injection e1 with e1; injection e1 with e1; rw [← e1]; exact nT) _ _
          clear hB3 g2 nF nT
          go_wp2
          refine bodyPost_ret (v := .tuple #[.slice (some ⟨F, 0, none⟩) n n, .slice (some ⟨T, 0, none⟩) n n, .agg #[.int .i64 0, .slice none 0 0]]) (by simp [results, Tryd.results18, go_sem, b0, b1]) rfl ?_
          exact ⟨_, _, _, _, none, 0, by rw [HG.out]; rfl, HO.out _ _, HN.out _ _, ⟨newV_at (Nat.le_trans HBW.out.size HI.out.hf), newV_at (Nat.le_trans HBW.out.size HI.out.ht)⟩, ⟨none, 0, by rw [HG.out], fun j p hj => by rw [HG.out] at hj; simp at hj⟩, Or.inl ⟨HG.out, rfl, rfl⟩, (HB3.out.setCell (p := ⟨w.heap.size + 1, 0, none⟩) (by simp) _).setCell (p := ⟨w.heap.size + 1, 1, none⟩) (by simp) _⟩
  · have HGN : Hid (graphErr N xs ≠ (0, [])) := fun e => hbad (by rw [e])
    have hbd : ((graphErr N xs).1 != 0 || decide (0 < (graphErr N xs).2.length)) = true := by simp [hbad]
    have HBD2 : Hid (∀ wx, Calls Tryd.prog 34 #[.agg #[.int .i64 (graphErr N xs).1, .slice po (graphErr N xs).2.length pc]] wx fun e w' => e = .returned (.bool true) ∧ Below wx.heap.size wx w') := fun wx => by
      have h := HBD.out wx (graphErr N xs).1 po (graphErr N xs).2.length pc
      rw [hbd] at h
      exact h
    clear hbd hbad
    generalize hge : graphErr N xs = ge at *
    obtain ⟨C, ps⟩ := ge
    simp only at *
    go_wp2_with fail
    refine (HBD2.out _).mono ?_
    rintro e w2 ⟨rfl, hb2⟩
    have hbE2 : Below w1.heap.size w1 w2 := HBE.out.trans (hb2.mono HBE.out.size)
    have HB2 : Hid (Below W0.heap.size W0 w2) := HB1.out.trans (hbE2.mono HB1.out.size)
    have hN2 := (hb2.block w1.heap.size (lt_of_get HNE.out)).trans HNE.out
    obtain ⟨e0, e1, _, _⟩ := cell_two hN2
    have HP2 : Hid (HasPlaces w2 (.slice po ps.length pc) ps) := HP1.out.keep hbE2
    obtain ⟨c0, c1, ⟨d0, d1, x0, x1⟩, hs2, hB2, g2⟩ := HK.out w2 HB2.out
    have H2 : Hid (Below w.heap.size w w2 ∧ w2.heap[w.heap.size + 1]? = some (.cells #[.int .i64 0, .slice none 0 0] 33)) := ⟨hB2, g2⟩
    clear hb2 hbE2 hN2 hB2 g2
    have hle : w1.heap.size < w2.heap.size := by
      rcases Nat.lt_or_ge w1.heap.size w2.heap.size with h | h
      · exact h
      · simp [World.cell?, Array.getElem?_eq_none h] at e0
    have hw1 : w.heap.size + 1 < w1.heap.size := (HK.out w1 HB1.out).2.2.2.1
    have n1 : ¬ w.heap.size + 1 = w1.heap.size := by omega
    have n2 : ¬ w1.heap.size = w.heap.size + 1 := by omega
    go_wp2_with fail
    go_region_held (fun w' => w'.cell? ⟨w1.heap.size, 0, none⟩ = some (.int .i64 C) ∧ w'.cell? ⟨w1.heap.size, 1, none⟩ = some (.slice po ps.length pc)) (go_keep) (first | fail)
    all_goals
      go_wp2
      refine bodyPost_ret (v := .tuple #[.slice none 0 0, .slice none 0 0, .agg #[.int .i64 C, .slice po ps.length pc]]) (by simp [results, Tryd.results18, go_sem, d0, d1]) rfl ?_
      rw [hge]
      exact ⟨.slice none 0 0, .slice none 0 0, [], [], po, pc, rfl, ⟨none, 0, rfl, fun j a hj => by simp at hj⟩, ⟨none, 0, rfl, fun j a hj => by simp at hj⟩, ⟨newV_nil _ _ _, newV_nil _ _ _⟩, HP2.out.lay2 H2.out.2 _ _, Or.inr ⟨HGN.out, rfl, rfl⟩, ((H2.out.1.setCell (p := ⟨w.heap.size + 1, 0, none⟩) (by simp) _).setCell (p := ⟨w.heap.size + 1, 1, none⟩) (by simp) _).drew⟩
end Go.Proofs.YtapgecmakddegaaDoor
