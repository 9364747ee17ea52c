/- viaductref05.Build of a normal graph: its arrays. -/
import Derived.Test.YtbaahjppofbdlaaGreatDoorRefBu
import Derived.Test.YtbaahjppofbdlaaGreatDoorCsrM
import Derived.Deep.DeepCutAuto
namespace Go.Proofs.YtbaahjppofbdlaaGreatDoor
open Go.RowKit Go.Extern

attribute [local go_sem] Oper.semAt_some

theorem take_more {l : List Int} {i : Nat} {x : Int} (h : l[i]? = some x) : l.take (i + 1) = l.take i ++ [x] := by
  rw [List.take_add_one, h]; rfl

theorem iown_base {w : World} {B B' n : Nat} {v : Value} {xs : List Value} (h : w.ownsRow B' 3 1 v n xs) (hb : B ≤ B') : w.ownsRow B 3 1 v n xs := by
  obtain ⟨h1, h2⟩ := h
  refine ⟨h1, ?_⟩
  rcases h2 with h2 | ⟨g, cap, cur, e, hg, r⟩
  · exact Or.inl h2
  · exact Or.inr ⟨g, cap, cur, e, by omega, r⟩
theorem cell_int1 (w : World) (v : Value) : ∀ j u, [v][j]? = some u → (w.alloc (.cells #[v] 3)).cell? ((⟨w.heap.size, 0, none⟩ : Addr).add j) = some u := by
  intro j u hj
  have h := heap_new w (.cells #[v] 3)
  generalize w.alloc (.cells #[v] 3) = W at h
  rcases j with _ | j
  · cases hj
    simp [Addr.add, World.cell?, h]
  · simp at hj

set_option maxRecDepth 100000 in
set_option maxHeartbeats 4000000 in
theorem rBuild_calls (n : Nat) (zs : List (Int × Int × Int)) (lo : Option Addr) (lc : Nat) (w : World) (hl : HasArcs w (.slice lo zs.length lc) zs) (hz : Fine n zs) :
    Calls Tryz.prog 36 #[.agg #[.int .i64 n, .slice lo zs.length lc]] w fun e w' => ∃ fo fc uo tc wo wc, e = .returned (.agg #[.slice fo (n + 1) fc, .slice uo zs.length tc, .slice wo zs.length wc]) ∧ w'.ownsRow w.heap.size 3 1 (.slice fo (n + 1) fc) (firsts n zs).length (iv (firsts n zs)) ∧ w'.ownsRow w.heap.size 3 1 (.slice uo zs.length tc) (tos zs).length (iv (tos zs)) ∧ w'.ownsRow w.heap.size 3 1 (.slice wo zs.length wc) (weights zs).length (iv (weights zs)) ∧ Below w.heap.size w w' := by
  obtain ⟨i0, hi, hz0, hz1, hz2⟩ : ∃ i, Tryz.prog.info? 3 = some i ∧ i.zero = some (.int .i64 0) ∧ i.size = 1 ∧ i.bytes = 8 := by
    have h := infoJ
    cases hi : Tryz.prog.info? 3 with
    | none => rw [hi] at h; cases h
    | some i => rw [hi] at h; simp at h; exact ⟨i, rfl, h.1, h.2.1, h.2.2⟩
  have hN := hz.few
  have hM := hz.short
  have HFI : Hid (Fine n zs) := hz
  have HL : Hid (HasArcs w (.slice lo zs.length lc) zs) := hl
  have HS : Hid (RB w (.int .i64 n) (.slice lo zs.length lc) [0] [] [] (.slice (some ⟨w.heap.size + 1 + 1, 0, none⟩) 1 1) (.slice none 0 0) (.slice none 0 0) ((((w.alloc (.cells #[.int .i64 n, .slice lo zs.length lc] 24)).alloc (.cells #[.slice none 0 0, .slice none 0 0, .slice none 0 0] 55)).alloc (.cells #[.int .i64 0] 3)).alloc (.cells #[.slice (some ⟨w.heap.size + 1 + 1, 0, none⟩) 1 1, .slice none 0 0, .slice none 0 0] 55))) := by
    have hh : ∀ k, ((((w.alloc (.cells #[.int .i64 n, .slice lo zs.length lc] 24)).alloc (.cells #[.slice none 0 0, .slice none 0 0, .slice none 0 0] 55)).alloc (.cells #[.int .i64 0] 3)).alloc (.cells #[.slice (some ⟨w.heap.size + 1 + 1, 0, none⟩) 1 1, .slice none 0 0, .slice none 0 0] 55)).heap[k]? = if k = w.heap.size + 1 + 1 + 1 then some (.cells #[.slice (some ⟨w.heap.size + 1 + 1, 0, none⟩) 1 1, .slice none 0 0, .slice none 0 0] 55) else if k = w.heap.size + 1 + 1 then some (.cells #[.int .i64 0] 3) else if k = w.heap.size + 1 then some (.cells #[.slice none 0 0, .slice none 0 0, .slice none 0 0] 55) else if k = w.heap.size then some (.cells #[.int .i64 n, .slice lo zs.length lc] 24) else w.heap[k]? := fun k => by
      show ((((w.heap.push _).push _).push _).push _)[k]? = _
      rw [Array.getElem?_push, Array.getElem?_push, Array.getElem?_push, Array.getElem?_push]
      simp
    refine ⟨⟨rfl, Or.inr ⟨w.heap.size + 1 + 1, 1, #[.int .i64 0], rfl, Nat.le_refl _, ?_, Nat.le_refl _, by unfold maxLen; decide, rfl, rfl⟩⟩, World.ownsRow_nil _ _ _ _, World.ownsRow_nil _ _ _ _, (fun k _ e => by cases e), (fun k _ e => by cases e), (fun k e => by cases e), ?_, ?_, ?_, ?_⟩
    · rw [hh, if_neg (by omega), if_pos rfl]
    · rw [hh, if_pos rfl]
    · rw [hh, if_neg (by omega), if_neg (by omega), if_neg (by omega), if_pos rfl]
    · rw [hh, if_neg (by omega), if_neg (by omega), if_pos rfl]
    · exact ((((Below.refl _ w).alloc (Nat.le_refl _) _).alloc (by simp) _).alloc (by simp <;> omega) _).alloc (by simp <;> omega) _
  clear hl hz
  go_enter Tryz.func36, Tryz.ntmps36
  go_wp2_with fail
  generalize ((((w.alloc (.cells #[.int .i64 n, .slice lo zs.length lc] 24)).alloc (.cells #[.slice none 0 0, .slice none 0 0, .slice none 0 0] 55)).alloc (.cells #[.int .i64 0] 3)).alloc (.cells #[.slice (some ⟨w.heap.size + 1 + 1, 0, none⟩) 1 1, .slice none 0 0, .slice none 0 0] 55)) = W0 at *
  go_loopw [4, 5] (fun iv4 iv5 wr => ∃ k : Nat, k ≤ n ∧ iv5 = .int .i64 k ∧ iv4 = .int .i64 (firstAt zs k : Nat) ∧ ∃ fv tv vv, RB w (.int .i64 n) (.slice lo zs.length lc) ((firsts n zs).take (k + 1)) ((tos zs).take (firstAt zs k)) ((weights zs).take (firstAt zs k)) fv tv vv wr) (fun _ iv5 _ => n - (intOf iv5).toNat)
  case atStart =>
    have h0 := HFI.out.zero
    refine ⟨0, Nat.zero_le _, rfl, by rw [h0]; rfl, .slice (some ⟨w.heap.size + 1 + 1, 0, none⟩) 1 1, .slice none 0 0, .slice none 0 0, ?_⟩
    have e1 : (firsts n zs).take (0 + 1) = [0] := by rw [take_more (firsts_at zs (Nat.zero_le _)), h0]; rfl
    rw [e1, h0]
    exact HS.out
  case round =>
    obtain ⟨k, hk, rfl, rfl, fv, tv, vv, hR⟩ := hrel
    have HR : Hid (type_of% hR) := hR
    obtain ⟨d0, d1⟩ : wr.cell? ⟨w.heap.size, 0, none⟩ = some (.int .i64 n) ∧ wr.cell? ⟨w.heap.size, 1, none⟩ = some (.slice lo zs.length lc) := by simp [World.cell?, hR.g]
    have ds := lt_of_get hR.g
    have hfl : firstAt zs k ≤ zs.length := firstAt_le _ _
    clear hR
    by_cases hlt : k < n
    · have hxy := firstAt_mono zs (show k ≤ k + 1 by omega)
      have hyl := firstAt_le zs (k + 1)
      have HBO : Hid (∀ (i : Nat) (a : Int × Int × Int), firstAt zs k ≤ i → zs[i]? = some a → (a.1 = (k : Int) ↔ i < firstAt zs (k + 1))) := fun i a h1 ha => by
        have g2 := firstAt_lt HFI.out.rise ha (k + 1)
        have g1 := firstAt_lt HFI.out.rise ha k
        rw [g2]
        have : ¬ a.1 < (k : Int) := fun e => by have := g1.2 e; omega
        omega
      obtain ⟨x, hx⟩ : ∃ x, firstAt zs k = x := ⟨_, rfl⟩
      obtain ⟨y, hy⟩ : ∃ y, firstAt zs (k + 1) = y := ⟨_, rfl⟩
      have HX : Hid (firstAt zs k = x ∧ firstAt zs (k + 1) = y) := ⟨hx, hy⟩
      rw [hx, hy] at hxy
      rw [hy] at hyl
      rw [hx] at HR hfl ⊢
      rw [hx, hy] at HBO
      clear hx hy
      generalize hwr : wr = w1 at *
      clear hwr
      go_wp2_with fail
      go_loopw [4] (fun iv4 wr => ∃ i : Nat, x ≤ i ∧ i ≤ y ∧ iv4 = .int .i64 i ∧ ∃ fv tv vv, RB w (.int .i64 n) (.slice lo zs.length lc) ((firsts n zs).take (k + 1)) ((tos zs).take i) ((weights zs).take i) fv tv vv wr) (fun iv4 _ => y - (intOf iv4).toNat)
      case atStart => exact ⟨x, Nat.le_refl _, hxy, rfl, fv, tv, vv, HR.out⟩
      case round =>
        obtain ⟨i, hi1, hi2, rfl, fv2, tv2, vv2, hR2⟩ := hrel
        have HR2 : Hid (type_of% hR2) := hR2
        clear d0 d1 ds
        obtain ⟨d0, d1⟩ : wr.cell? ⟨w.heap.size, 0, none⟩ = some (.int .i64 n) ∧ wr.cell? ⟨w.heap.size, 1, none⟩ = some (.slice lo zs.length lc) := by simp [World.cell?, hR2.g]
        have ds := lt_of_get hR2.g
        clear hR2
        by_cases hiy : i < y
        · obtain ⟨a, ha⟩ : ∃ a, zs[i]? = some a := ⟨zs[i], List.getElem?_eq_getElem (by omega)⟩
          have ha1 := (HBO.out i a hi1 ha).2 hiy
          obtain ⟨a0, q, r⟩ := a
          simp only at ha1
          subst ha1
          obtain ⟨b, off, hlo, hbl, q0, q1, q2⟩ := HL.out.at ha
          subst hlo
          have e0 := (HR2.out.below.cell (p := ⟨b, off + i * 3, none⟩) hbl).trans q0
          have e1 := (HR2.out.below.cell (p := ⟨b, off + i * 3 + 1, none⟩) hbl).trans q1
          simp only at e0 e1
          have eb : b < wr.heap.size := Nat.lt_of_lt_of_le hbl HR2.out.below.size
          obtain ⟨so, sc, htv⟩ := iown_slice HR2.out.t
          obtain ⟨po, pc, hvv⟩ := iown_slice HR2.out.v
          subst htv
          subst hvv
          have HT1 : Hid ((tos zs).take (i + 1) = (tos zs).take i ++ [q] ∧ (weights zs).take (i + 1) = (weights zs).take i ++ [r]) := ⟨take_more (tos_at ha), take_more (weights_at ha)⟩
          have HLL : Hid (((tos zs).take i).length ≤ 262144 ∧ ((weights zs).take i).length ≤ 262144) := ⟨by rw [List.length_take, tos_len]; omega, by rw [List.length_take, weights_len]; omega⟩
          have HE2 : Hid (∀ wx, Below w.heap.size w wx → wx.cell? ⟨b, off + i * 3 + 2, none⟩ = some (.int .i64 r) ∧ b < wx.heap.size) := fun wx h => ⟨(h.cell (p := ⟨b, off + i * 3 + 2, none⟩) hbl).trans q2, Nat.lt_of_lt_of_le hbl h.size⟩
          obtain ⟨c0, c1, c2⟩ := box3 HR2.out.c
          have cs := lt_of_get HR2.out.c
          have cf : wr.frozen? ⟨w.heap.size + 1 + 1 + 1, 1, none⟩ = false := by simp [World.frozen?, HR2.out.c]
          have i1 : (i : Int) < (zs.length : Int) := by omega
          have i2 : (0 : Int) ≤ (i : Int) := by omega
          generalize (tos zs).take i = T at *
          generalize (weights zs).take i = V at *
          have hal2 : Below wr.heap.size wr (wr.drew.alloc (.cells #[.int .i64 q] 3)) := (Below.refl _ wr).drew.alloc (Nat.le_refl _) _
          clear q0 q1 q2 ha
          go_upto_region 7 with fail
          go_cut [38] (fun c wx => ∃ g cap, c = .slice (some ⟨g, 0, none⟩) (T.length + 1) cap ∧ RB w (.int .i64 n) (.slice (some ⟨b, off, none⟩) zs.length lc) ((firsts n zs).take (k + 1)) (T ++ [q]) V fv2 (.slice (some ⟨g, 0, none⟩) (T.length + 1) cap) (.slice po V.length pc) wx)
          case first =>
            go_region_law (first
              | (refine step_append_lies _ rfl _ _ 27 rfl (w.heap.size + 1 + 1) 3 i0 (.int .i64 0) 1 8 Tryz.underlying27 hi hz0 hz1 hz2 rfl (by decide) (.slice so T.length sc) T.length (iv T) rfl (iown_keep HR2.out.t fun k hk => (hal2.block _ (HR2.out.t.lt k hk).2)) ⟨wr.heap.size, 0, none⟩ 1 1 [.int .i64 q] rfl rfl (cell_int1 wr.drew (.int .i64 q)) (fun u hu => by simp at hu; subst hu; rfl) (by decide) (by have := HLL.out; unfold maxLen; omega) (by have := HLL.out; omega) (by have := HR2.out.below.size; have := lt_of_get HR2.out.c; simp; omega) (wr.heap.size + 1) (by simp) ?_; intro g2 cap2 w2 hown2 hgr2 hat2 hlt2; have h2 := HR2.out.appT (x := q) hal2 hown2 hgr2 hat2 (by simp); have H2 : Hid (type_of% h2) := h2; have cc2 := (hgr2.block (w.heap.size + 1 + 1 + 1) (by have := lt_of_get HR2.out.c; simp; omega) (fun e => iown_not_box HR2.out.t HR2.out.c (by decide) e.symm)).trans ((hal2.block _ (lt_of_get HR2.out.c)).trans HR2.out.c); have cf2 : w2.frozen? ⟨w.heap.size + 1 + 1 + 1, 1, none⟩ = false := (by simp [World.frozen?, cc2]); obtain ⟨cc02, cc12, cc22⟩ := box3 cc2; have cl2 := lt_of_get cc2; clear h2 hown2 hgr2 hat2 hlt2 cc2))
            all_goals
              go_wp2_with fail
              go_meet
              exact ⟨_, _, rfl, H2.out⟩
          case rest =>
            obtain ⟨g3, cap3, hc3, hR3⟩ := hcut
            subst hc3
            have HR3 : Hid (type_of% hR3) := hR3
            clear hR3 c0 c1 c2 cs cf d0 d1 ds e0 e1 eb hal2
            generalize wc = w3 at *
            obtain ⟨c0, c1, c2⟩ := box3 HR3.out.c
            have cs := lt_of_get HR3.out.c
            have cf : w3.frozen? ⟨w.heap.size + 1 + 1 + 1, 2, none⟩ = false := by simp [World.frozen?, HR3.out.c]
            obtain ⟨d0, d1⟩ : w3.cell? ⟨w.heap.size, 0, none⟩ = some (.int .i64 n) ∧ w3.cell? ⟨w.heap.size, 1, none⟩ = some (.slice (some ⟨b, off, none⟩) zs.length lc) := by simp [World.cell?, HR3.out.g]
            have ds := lt_of_get HR3.out.g
            obtain ⟨e2, eb⟩ := HE2.out w3 HR3.out.below
            have hal3 : Below w3.heap.size w3 (w3.drew.alloc (.cells #[.int .i64 r] 3)) := (Below.refl _ w3).drew.alloc (Nat.le_refl _) _
            go_upto_region 8 with fail
            go_region_law (first
              | (refine step_append_lies _ rfl _ _ 27 rfl (w.heap.size + 1 + 1) 3 i0 (.int .i64 0) 1 8 Tryz.underlying27 hi hz0 hz1 hz2 rfl (by decide) (.slice po V.length pc) V.length (iv V) rfl (iown_keep HR3.out.v fun k hk => (hal3.block _ (HR3.out.v.lt k hk).2)) ⟨w3.heap.size, 0, none⟩ 1 1 [.int .i64 r] rfl rfl (cell_int1 w3.drew (.int .i64 r)) (fun u hu => by simp at hu; subst hu; rfl) (by decide) (by have := HLL.out; unfold maxLen; omega) (by have := HLL.out; omega) (by have := HR3.out.below.size; have := lt_of_get HR3.out.c; simp; omega) (w3.heap.size + 1) (by simp) ?_; intro g4 cap4 w4 hown4 hgr4 hat4 hlt4; have h4 := HR3.out.appV (x := r) hal3 hown4 hgr4 hat4 (by simp); have H4 : Hid (type_of% h4) := h4; have cc4 := (hgr4.block (w.heap.size + 1 + 1 + 1) (by have := lt_of_get HR3.out.c; simp; omega) (fun e => iown_not_box HR3.out.v HR3.out.c (by decide) e.symm)).trans ((hal3.block _ (lt_of_get HR3.out.c)).trans HR3.out.c); have cf4 : w4.frozen? ⟨w.heap.size + 1 + 1 + 1, 2, none⟩ = false := (by simp [World.frozen?, cc4]); obtain ⟨cc04, cc14, cc24⟩ := box3 cc4; have cl4 := lt_of_get cc4; clear h4 hown4 hgr4 hat4 hlt4 cc4))
            all_goals
              have HN : Hid (RB w (.int .i64 n) (.slice (some ⟨b, off, none⟩) zs.length lc) ((firsts n zs).take (k + 1)) ((tos zs).take (i + 1)) ((weights zs).take (i + 1)) fv2 (.slice (some ⟨g3, 0, none⟩) (T.length + 1) cap3) (.slice (some ⟨g4, 0, none⟩) (V.length + 1) cap4) (w4.setCell ⟨w.heap.size + 1 + 1 + 1, 2, none⟩ (.slice (some ⟨g4, 0, none⟩) (V.length + 1) cap4))) := by
                rw [HT1.out.1, HT1.out.2]
                exact H4.out
              go_wp2
              go_roundw
              case rel => exact ⟨i + 1, by omega, by omega, by go_num, _, _, _, HN.out⟩
              case measure => simp [intOf]; omega
        · obtain rfl : i = y := by omega
          obtain ⟨so, sc, hfv⟩ := iown_slice HR2.out.f
          subst hfv
          have HF1 : Hid ((firsts n zs).take (k + 1 + 1) = (firsts n zs).take (k + 1) ++ [(i : Int)]) := by
            have h := take_more (firsts_at zs (show k + 1 ≤ n by omega))
            rw [HX.out.2] at h
            exact h
          have HLL : Hid (((firsts n zs).take (k + 1)).length ≤ 262144) := by show _ ≤ _; rw [List.length_take, firsts_len]; omega
          obtain ⟨c0, c1, c2⟩ := box3 HR2.out.c
          have cs := lt_of_get HR2.out.c
          have cf : wr.frozen? ⟨w.heap.size + 1 + 1 + 1, 0, none⟩ = false := by simp [World.frozen?, HR2.out.c]
          have hal : Below wr.heap.size wr (wr.alloc (.cells #[.int .i64 i] 3)) := (Below.refl _ wr).alloc (Nat.le_refl _) _
          generalize (firsts n zs).take (k + 1) = F at *
          by_cases hil : i < zs.length
          · obtain ⟨a, ha⟩ : ∃ a, zs[i]? = some a := ⟨zs[i], List.getElem?_eq_getElem hil⟩
            have ha1 : ¬ a.1 = (k : Int) := fun e => by have := (HBO.out i a hi1 ha).1 e; omega
            obtain ⟨b, off, hlo, hbl, q0, q1, q2⟩ := HL.out.at ha
            subst hlo
            have e0 := (HR2.out.below.cell (p := ⟨b, off + i * 3, none⟩) hbl).trans q0
            have eb : b < wr.heap.size := Nat.lt_of_lt_of_le hbl HR2.out.below.size
            have i1 : (i : Int) < (zs.length : Int) := by omega
            have i2 : (0 : Int) ≤ (i : Int) := by omega
            obtain ⟨a0, hE⟩ : ∃ a0, a.1 = a0 := ⟨_, rfl⟩
            rw [hE] at ha1 e0
            have ha2 : (a0 == (k : Int)) = false := beq_eq_false_iff_ne.mpr ha1
            clear q0 q1 q2 ha hE
            go_wp2_with (at_builtin; refine wpList_append_lies _ rfl _ _ 27 rfl (w.heap.size + 1 + 1) 3 i0 (.int .i64 0) 1 8 Tryz.underlying27 hi hz0 hz1 hz2 rfl (by decide) (.slice so F.length sc) F.length (iv F) rfl (iown_keep HR2.out.f fun k hk => (hal.block _ (HR2.out.f.lt k hk).2)) ⟨wr.heap.size, 0, none⟩ 1 1 [.int .i64 i] rfl rfl (cell_int1 wr (.int .i64 i)) (fun u hu => by simp at hu; subst hu; rfl) (by decide) (by have := HLL.out; unfold maxLen; omega) (by have := HLL.out; omega) (by have := lt_of_get HR2.out.c; simp; omega) (wr.heap.size + 1) (by simp) ?_; intro g4 cap4 w4 hown4 hgr4 hat4 hlt4; have h4 := HR2.out.appF (x := i) hal hown4 hgr4 hat4 (by simp); have H4 : Hid (type_of% h4) := h4; have cc4 := (hgr4.block (w.heap.size + 1 + 1 + 1) (by have := lt_of_get HR2.out.c; simp; omega) (fun e => iown_not_box HR2.out.f HR2.out.c (by decide) e.symm)).trans ((hal.block _ (lt_of_get HR2.out.c)).trans HR2.out.c); have cf4 : w4.frozen? ⟨w.heap.size + 1 + 1 + 1, 0, none⟩ = false := (by simp [World.frozen?, cc4]); obtain ⟨cc04, cc14, cc24⟩ := box3 cc4; have cl4 := lt_of_get cc4; clear h4 hown4 hgr4 hat4 hlt4 cc4)
            have HN : Hid (RB w (.int .i64 n) (.slice (some ⟨b, off, none⟩) zs.length lc) ((firsts n zs).take (k + 1 + 1)) ((tos zs).take (firstAt zs (k + 1))) ((weights zs).take (firstAt zs (k + 1))) (.slice (some ⟨g4, 0, none⟩) (F.length + 1) cap4) tv2 vv2 (w4.setCell ⟨w.heap.size + 1 + 1 + 1, 0, none⟩ (.slice (some ⟨g4, 0, none⟩) (F.length + 1) cap4))) := by
              rw [HF1.out, HX.out.2]
              exact H4.out
            go_roundw
            case rel => exact ⟨k + 1, by omega, by go_num, by rw [HX.out.2], _, _, _, HN.out⟩
            case measure => simp [intOf]; omega
          · have i1 : ¬ (i : Int) < (zs.length : Int) := by omega
            go_wp2_with (at_builtin; refine wpList_append_lies _ rfl _ _ 27 rfl (w.heap.size + 1 + 1) 3 i0 (.int .i64 0) 1 8 Tryz.underlying27 hi hz0 hz1 hz2 rfl (by decide) (.slice so F.length sc) F.length (iv F) rfl (iown_keep HR2.out.f fun k hk => (hal.block _ (HR2.out.f.lt k hk).2)) ⟨wr.heap.size, 0, none⟩ 1 1 [.int .i64 i] rfl rfl (cell_int1 wr (.int .i64 i)) (fun u hu => by simp at hu; subst hu; rfl) (by decide) (by have := HLL.out; unfold maxLen; omega) (by have := HLL.out; omega) (by have := lt_of_get HR2.out.c; simp; omega) (wr.heap.size + 1) (by simp) ?_; intro g4 cap4 w4 hown4 hgr4 hat4 hlt4; have h4 := HR2.out.appF (x := i) hal hown4 hgr4 hat4 (by simp); have H4 : Hid (type_of% h4) := h4; have cc4 := (hgr4.block (w.heap.size + 1 + 1 + 1) (by have := lt_of_get HR2.out.c; simp; omega) (fun e => iown_not_box HR2.out.f HR2.out.c (by decide) e.symm)).trans ((hal.block _ (lt_of_get HR2.out.c)).trans HR2.out.c); have cf4 : w4.frozen? ⟨w.heap.size + 1 + 1 + 1, 0, none⟩ = false := (by simp [World.frozen?, cc4]); obtain ⟨cc04, cc14, cc24⟩ := box3 cc4; have cl4 := lt_of_get cc4; clear h4 hown4 hgr4 hat4 hlt4 cc4)
            have HN : Hid (RB w (.int .i64 n) (.slice lo zs.length lc) ((firsts n zs).take (k + 1 + 1)) ((tos zs).take (firstAt zs (k + 1))) ((weights zs).take (firstAt zs (k + 1))) (.slice (some ⟨g4, 0, none⟩) (F.length + 1) cap4) tv2 vv2 (w4.setCell ⟨w.heap.size + 1 + 1 + 1, 0, none⟩ (.slice (some ⟨g4, 0, none⟩) (F.length + 1) cap4))) := by
              rw [HF1.out, HX.out.2]
              exact H4.out
            go_roundw
            case rel => exact ⟨k + 1, by omega, by go_num, by rw [HX.out.2], _, _, _, HN.out⟩
            case measure => simp [intOf]; omega
    · obtain rfl : k = n := by omega
      obtain ⟨fo, fc, hfv⟩ := iown_slice HR.out.f
      obtain ⟨uo, tc, htv⟩ := iown_slice HR.out.t
      obtain ⟨wo, wc, hvv⟩ := iown_slice HR.out.v
      subst hfv
      subst htv
      subst hvv
      have hF : (firsts k zs).take (k + 1) = firsts k zs := List.take_of_length_le (by rw [firsts_len]; omega)
      have hT : (tos zs).take (firstAt zs k) = tos zs := List.take_of_length_le (by rw [tos_len, HFI.out.top]; omega)
      have hV : (weights zs).take (firstAt zs k) = weights zs := List.take_of_length_le (by rw [weights_len, HFI.out.top]; omega)
      rw [hF, hT, hV] at HR
      rw [firsts_len, tos_len, weights_len] at HR
      obtain ⟨c0, c1, c2⟩ := box3 HR.out.c
      have cs := lt_of_get HR.out.c
      obtain ⟨r0, r1, r2, z0, z1, z2⟩ : wr.cell? ⟨w.heap.size + 1, 0, none⟩ = some (.slice none 0 0) ∧ wr.cell? ⟨w.heap.size + 1, 1, none⟩ = some (.slice none 0 0) ∧ wr.cell? ⟨w.heap.size + 1, 2, none⟩ = some (.slice none 0 0) ∧ wr.frozen? ⟨w.heap.size + 1, 0, none⟩ = false ∧ wr.frozen? ⟨w.heap.size + 1, 1, none⟩ = false ∧ wr.frozen? ⟨w.heap.size + 1, 2, none⟩ = false := by simp [World.cell?, World.frozen?, HR.out.r]
      have rs := lt_of_get HR.out.r
      clear hF hT hV
      go_wp2
      have hk : ∀ (u : Value) (m : Nat) (ys : List Value), wr.ownsRow (w.heap.size + 1 + 1) 3 1 u m ys → (((wr.setCell ⟨w.heap.size + 1, 0, none⟩ (.slice fo (k + 1) fc)).setCell ⟨w.heap.size + 1, 1, none⟩ (.slice uo zs.length tc)).setCell ⟨w.heap.size + 1, 2, none⟩ (.slice wo zs.length wc)).ownsRow (w.heap.size + 1 + 1) 3 1 u m ys := fun u m ys hu => iown_keep hu fun j hj => by
        have hne : j ≠ w.heap.size + 1 := by have := (hu.lt j hj).1; omega
        exact (heap_setCell_other _ _ _ _ hne).trans ((heap_setCell_other _ _ _ _ hne).trans (heap_setCell_other _ _ _ _ hne))
      have h1 := hk _ _ _ HR.out.f
      have h2 := hk _ _ _ HR.out.t
      have h3 := hk _ _ _ HR.out.v
      refine bodyPost_ret (v := .agg #[.slice fo (k + 1) fc, .slice uo zs.length tc, .slice wo zs.length wc]) (by simp [results, Tryz.results36, go_sem, r0, r1, r2]) rfl ⟨fo, fc, uo, tc, wo, wc, rfl, iown_base h1 (by omega), iown_base h2 (by omega), iown_base h3 (by omega), ?_⟩
      exact ((HR.out.below.setCell (p := ⟨w.heap.size + 1, 0, none⟩) (by simp) _).setCell (p := ⟨w.heap.size + 1, 1, none⟩) (by simp) _).setCell (p := ⟨w.heap.size + 1, 2, none⟩) (by simp) _
end Go.Proofs.YtbaahjppofbdlaaGreatDoor
