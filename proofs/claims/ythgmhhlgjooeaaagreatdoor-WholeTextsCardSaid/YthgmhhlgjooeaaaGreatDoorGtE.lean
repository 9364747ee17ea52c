/- scan's Rows, walked. -/
import Derived.Test.YthgmhhlgjooeaaaGreatDoorGtD
namespace Go.Proofs.YthgmhhlgjooeaaaGreatDoor.Gt
open Go Go.Lib Go.RowKit Go.Extern

attribute [local go_sem] Oper.semAt_some

theorem rows_none (w wr : World) (hb : Below w.heap.size w wr) : RowsI w wr (.slice none 0 0) [] := ⟨World.ownsRow_nil _ _ _ _, hb, (fun q hq => by cases hq), (fun q hq => by cases hq)⟩
theorem new_cellsG (W : World) (c : List Value) (T : TypeId) : ∀ j u, c[j]? = some u → (W.alloc (.cells c.toArray T)).cell? ((⟨W.heap.size, 0, none⟩ : Addr).add j) = some u := fun j u hj => by
  have hh := heap_newG W (.cells c.toArray T)
  generalize W.alloc (.cells c.toArray T) = W' at hh
  have e : (⟨W.heap.size, 0, none⟩ : Addr).add j = ⟨W.heap.size, j, none⟩ := by
    by_cases h0 : j = 0
    · subst h0; rfl
    · simp [Addr.add, h0]
  rw [e]
  simp [World.cell?, hh, hj]
theorem slice_ofG {w : World} {B n z : Nat} {T : TypeId} {v : Value} {xs : List Value} (h : w.ownsRow B T z v n xs) : ∃ ao cap, v = .slice ao n cap := by
  rcases h.2 with ⟨e, h0⟩ | ⟨g, cap, cur, e, _⟩
  · exact ⟨none, 0, by rw [e, h0]⟩
  · exact ⟨_, _, e⟩
theorem wE_cases (l : By) : wE l = 0 ∨ wE l = 2 ∨ wE l = 3 := by
  unfold wE
  split
  · simp
  · split <;> simp
theorem wE_zero {l : By} (h : wE l = 0) : l.length ≤ 200 ∧ rightL l = true := by
  unfold wE at h
  split at h
  · cases h
  · split at h
    · cases h
    · rename_i h1 h2
      exact ⟨by omega, by simpa using h2⟩
theorem wE_err {l : By} {n : Nat} {acc : List Row} (h0 : l ≠ []) (h : wE (lineOf l) ≠ 0) : rowsF l.length n l acc = ((wE (lineOf l), n), []) := by
  unfold wE at h ⊢
  split at h
  · rename_i h1
    rw [if_pos h1]
    exact rows_long h0 h1
  · rename_i h1
    rw [if_neg h1]
    split at h
    · rename_i h2
      rw [if_pos h2]
      exact rows_word h0 (by omega) h2
    · exact absurd rfl h

set_option maxRecDepth 100000 in
set_option maxHeartbeats 8000000 in
theorem rows_calls (s : ByteArray) (w : World) (hs : s.size ≤ 281474976710656) : Calls Tryz.prog 24 #[.string s] w (RwA (bs s) w) := by
  by_cases hl : 1048576 < s.size
  · have i1 : decide ((s.size : Int) > 1048576) = true := by simp; omega
    have HE : Hid (rowsE (bs s) = (2, [])) := by show _ = _; unfold rowsE; rw [bs_len, if_pos hl]
    clear hl
    go_enter Tryz.func24, Tryz.ntmps24
    go_wp2
    go_ret2
    exact ⟨_, none, 0, [], rfl, by rw [HE.out]; exact told_numG _ (by decide), rows_none _ _ (Below.refl _ _), Nat.zero_le _, by rw [HE.out, if_neg (by decide)]; rfl⟩
  · have i1 : decide ((s.size : Int) > 1048576) = false := by simp; omega
    obtain ⟨T, hT⟩ : ∃ T, bs s = T := ⟨_, rfl⟩
    obtain ⟨RR, hRR⟩ : ∃ RR, rowsF T.length 1 T [] = RR := ⟨_, rfl⟩
    have HT : Hid (rowsE T = (if RR.1.1 = 0 then (0, []) else (RR.1.1, [(1, (RR.1.2 : Int))])) ∧ rowsR T = RR.2) := by
      have e : ¬ 1048576 < T.length := by rw [← hT, bs_len]; exact hl
      refine ⟨?_, ?_⟩
      · unfold rowsE; rw [if_neg e, hRR]
      · unfold rowsR; rw [if_neg e, hRR]
    have HS : Hid (rowsF (bs s).length 1 (bs s) [] = RR) := by rw [hT]; exact hRR
    obtain ⟨i0, hi9, hzz⟩ := Option.map_eq_some_iff.1 infoRow
    simp only [Prod.mk.injEq] at hzz
    have HI0 : Hid (Tryz.prog.info? 115 = some i0 ∧ i0.zero = some (.agg #[.int .i64 0, .slice none 0 0]) ∧ i0.size = 2 ∧ i0.bytes = 32) := ⟨hi9, hzz⟩
    rw [hT]
    clear hT hRR hi9 hzz
    go_enter Tryz.func24, Tryz.ntmps24
    go_wp2_with fail
    go_loopw [0, 4, 5] (fun tv rv nv wr => ∃ (t : ByteArray) (n : Nat) (Q : List Rw) (ro : Option Addr) (rc : Nat), tv = .string t ∧ rv = .slice ro Q.length rc ∧ nv = .int .i64 n ∧ t.size + n ≤ 1048577 ∧ Q.length < n ∧ Hid (RowsI w wr (.slice ro Q.length rc) Q) ∧ Hid (rowsF (bs t).length n (bs t) (Q.map rowOf) = RR)) (fun tv _ _ _ => szS tv)
    case atStart => exact ⟨s, 1, [], none, 0, rfl, rfl, rfl, by omega, by simp, rows_none _ _ (Below.refl _ _), HS.out⟩
    case round =>
      obtain ⟨t, n, Q, ro, rc, rfl, rfl, rfl, hn, hQ, HI, HR⟩ := hrel
      by_cases h0 : 0 < t.size
      · have f1 : t.toList.isEmpty = false := nonempty_of h0
        have f2 : ¬ t.toList = [] := fun e => by rw [e] at f1; cases f1
        have HNE : Hid (bs t ≠ []) := fun e => by have := bs_len t; rw [e] at this; simp at this; omega
        have HC : Hid (∀ wx, Calls Tryz.prog 43 #[.string t, .string ⟨#[10]⟩] wx (CutA t 10 wx)) := fun wx => cut_calls t 10 wx (by omega)
        go_wp2_with fail
        refine (HC.out wr).mono ?_
        rintro e y1 ⟨a, b, f, rfl, ha, hb2, hb⟩
        have HA : Hid (bs a = lineOf (bs t) ∧ bs b = restOf (bs t) ∧ Below wr.heap.size wr y1) := ⟨ha, hb2, hb⟩
        have has : a.size ≤ t.size := by rw [← bs_len, ha, ← bs_len t]; exact (List.takeWhile_sublist _).length_le
        have hbs : b.size < t.size := by
          have := rest_lt HNE.out
          have e1 : (bs b).length = (restOf (bs t)).length := by rw [hb2]; rfl
          rw [bs_len] at e1
          rw [bs_len] at this
          omega
        have HW : Hid (Calls Tryz.prog 44 #[.string a] y1 (WdA a y1)) := words_calls a y1 (by omega)
        clear ha hb2 hb f1 f2
        go_wp2_with fail
        refine HW.out.mono ?_
        rintro e y2 ⟨hbel, ⟨hne, rfl⟩ | ⟨h00, X, A, hX, rfl, ho⟩⟩
        · obtain ⟨c, hc⟩ : ∃ c, wE (bs a) = c := ⟨_, rfl⟩
          have hc0 : c ≠ 0 := by rw [← hc]; exact hne
          have HER : Hid (rowsE T = (c, [(1, (n : Int))])) := by
            have e1 := HR.out
            rw [wE_err HNE.out (by rw [← HA.out.1]; exact hne), ← HA.out.1, hc] at e1
            show _ = _
            rw [HT.out.1, ← e1, if_neg hc0]
          have HCC : Hid (c ≠ 0 ∧ Below w.heap.size w y2) := ⟨hc0, HI.out.bel.trans ((btrG HA.out.2.2 hbel).mono HI.out.bel.size)⟩
          have ev : errV c = .iface 29 (.int .i64 c) := by unfold errV; rw [if_neg hc0]
          rw [hc, ev]
          clear hc hne ev hbel hc0
          go_wp2_with fail
          refine (at_some 1 (n : Int) 29 (.int .i64 c) y2).mono ?_
          rintro e y3 ⟨rfl, rfl⟩
          go_wp2
          go_ret2
          exact ⟨_, none, 0, [], rfl, by rw [HER.out]; exact told_atG _ HCC.out.1, rows_none _ _ (HCC.out.2.alloc HCC.out.2.size _), Nat.zero_le _, by rw [HER.out, if_neg (by simp)]; rfl⟩
        · have hz := wE_zero h00
          rw [HA.out.1] at hz
          have hwd : X.map bs = wordsOf (lineOf (bs t)) := by rw [hX, HA.out.1]
          have HST : Hid (rowsF (bs b).length (n + 1) (bs b) (if X = [] then Q.map rowOf else Q.map rowOf ++ [(n, X.map bs)]) = RR) := by
            have e1 := HR.out
            rw [rows_step HNE.out hz.1 hz.2, ← hwd] at e1
            rw [HA.out.2.1]
            by_cases hx0 : X = []
            · rw [hx0] at e1 ⊢
              exact e1
            · rw [if_neg (by simpa using hx0)] at e1
              rw [if_neg hx0]
              exact e1
          have HI2 : Hid (RowsI w y2 (.slice ro Q.length rc) Q) := HI.out.up (btrG HA.out.2.2 hbel)
          have HSA : Hid (StAt y2 (n, A, X)) := str_at ho
          have HFW : Hid (X ≠ [] → Few (n, A, X)) := fun hx0 => by
            have g1 : (hashOf (lineOf (bs t))).length ≤ (lineOf (bs t)).length := (List.takeWhile_sublist _).length_le
            refine ⟨hx0, ?_, fun x hx => ?_⟩
            · have g2 := words_few (hashOf (lineOf (bs t))) []
              have g3 : X.length = (wordsOf (lineOf (bs t))).length := by rw [← hwd, List.length_map]
              have g4 : wordsOf (lineOf (bs t)) = wordsF [] (hashOf (lineOf (bs t))) := rfl
              have g5 := hz.1
              simp at g2
              show X.length ≤ 200
              rw [g3, g4]
              omega
            · have g2 : bs x ∈ wordsOf (lineOf (bs t)) := by rw [← hwd]; exact List.mem_map.2 ⟨x, hx, rfl⟩
              have g3 := word_len _ [] _ g2
              have g5 := hz.1
              rw [bs_len] at g3
              simp at g3
              omega
          clear hz hwd hX ho hbel h00
          by_cases hx0 : X = []
          · subst hx0
            rw [if_pos rfl] at HST
            go_wp2_with fail
            go_roundw
            case rel => exact ⟨b, n + 1, Q, ro, rc, rfl, rfl, by rw [show (n : Int) + 1 = ((n + 1 : Nat) : Int) by omega], by omega, by omega, HI2, HST⟩
            case measure => simp only [szS]; omega
          · rw [if_neg hx0] at HST
            have hxl : 0 < X.length := List.length_pos_iff.2 hx0
            have i5 : decide ((X.length : Int) > 0) = true := by simp; omega
            have HX0 : Hid (X ≠ []) := hx0
            clear hx0
            go_wp2_with (at_builtin; refine wpList_append_own _ rfl _ _ 70 rfl w.heap.size 115 i0 (.agg #[.int .i64 0, .slice none 0 0]) 2 32 Tryz.underlying70 HI0.out.1 HI0.out.2.1 HI0.out.2.2.1 HI0.out.2.2.2 rfl (by decide) _ Q.length (rcs Q) rfl (rown_keep HI2.out.own ((Below.refl _ y2).alloc (Nat.le_refl _) _)) ⟨y2.heap.size, 0, none⟩ 1 1 (rcs [(n, A, X)]) rfl rfl (new_cellsG y2 (rcs [(n, A, X)]) 115) (rcs_one _) (by unfold maxLen; omega) (by omega) (by have := HI2.out.bel.size; simp; omega) ?_; intro v5 w5 hown5 hgr5 _; have H5 : Hid (RowsI w w5 v5 (Q ++ [(n, A, X)])) := (HI2.out.up ((Below.refl _ y2).alloc (Nat.le_refl _) _)).add (HSA.out.keep ((Below.refl _ y2).alloc (Nat.le_refl _) _)) (HFW.out HX0.out) hown5 hgr5; clear hown5 hgr5; obtain ⟨po, pc, hv5⟩ := slice_ofG H5.out.own; subst hv5)
            go_roundw
            case rel => exact ⟨b, n + 1, Q ++ [(n, A, X)], po, pc, rfl, by simp, by rw [show (n : Int) + 1 = ((n + 1 : Nat) : Int) by omega], by omega, by simp; omega, H5, by have e := HST.out; show _ = _; rw [List.map_append]; exact e⟩
            case measure => simp only [szS]; omega
      · have e0 : t = ⟨#[]⟩ := by
          cases t with
          | mk d =>
            have h1 : ¬ 0 < d.size := h0
            have h2 : d.size = 0 := by omega
            rw [Array.eq_empty_of_size_eq_zero h2]
        subst e0
        have HZ : Hid (rowsE T = (0, []) ∧ rowsR T = Q.map rowOf) := by
          have e1 := HR.out
          have e2 : rowsF (bs ⟨#[]⟩).length n (bs ⟨#[]⟩) (Q.map rowOf) = ((0, 0), Q.map rowOf) := rfl
          rw [e2] at e1
          rw [HT.out.1, HT.out.2, ← e1]
          exact ⟨rfl, rfl⟩
        go_wp2
        go_ret2
        exact ⟨_, ro, rc, Q, rfl, by rw [HZ.out.1]; exact told_noG _, HI.out, by omega, by rw [HZ.out.1, if_pos rfl, HZ.out.2]⟩
end Go.Proofs.YthgmhhlgjooeaaaGreatDoor.Gt
