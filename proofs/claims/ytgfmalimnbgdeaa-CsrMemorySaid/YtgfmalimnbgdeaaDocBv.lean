/- viaductref05.Build of a normal graph: its arrays. viaductref05.DocBuild and DocBack: the arrays, or the error. -/
import Derived.Test.YtgfmalimnbgdeaaCsrDv
import Derived.Test.YtgfmalimnbgdeaaCsrM
import Derived.Deep.DeepCutAuto
import Derived.Test.YtgfmalimnbgdeaaDocOf
import Derived.Deep.RegionWith
namespace Go.Proofs.Ytgfmalimnbgdeaa
open Go.RowKit Go.Extern

attribute [local go_sem] Oper.semAt_some

theorem take_more {l : List Int} {i : Nat} {x : Int} (h : l[i]? = some x) : l.take (i + 1) = l.take i ++ [x] := by
  rw [List.take_add_one, h]; rfl

theorem iown_base {w : World} {B B' n : Nat} {v : Value} {xs : List Value} (h : w.ownsRow B' 3 1 v n xs) (hb : B ≤ B') : w.ownsRow B 3 1 v n xs := by
  obtain ⟨h1, h2⟩ := h
  refine ⟨h1, ?_⟩
  rcases h2 with h2 | ⟨g, cap, cur, e, hg, r⟩
  · exact Or.inl h2
  · exact Or.inr ⟨g, cap, cur, e, by omega, r⟩
theorem cell_int1 (w : World) (v : Value) : ∀ j u, [v][j]? = some u → (w.alloc (.cells #[v] 3)).cell? ((⟨w.heap.size, 0, none⟩ : Addr).add j) = some u := by
  intro j u hj
  have h := heap_new w (.cells #[v] 3)
  generalize w.alloc (.cells #[v] 3) = W at h
  rcases j with _ | j
  · cases hj
    simp [Addr.add, World.cell?, h]
  · simp at hj

set_option maxRecDepth 100000 in
set_option maxHeartbeats 4000000 in
theorem rBuild_calls (n : Nat) (zs : List (Int × Int × Int)) (lo : Option Addr) (lc : Nat) (w : World) (hl : HasArcs w (.slice lo zs.length lc) zs) (hz : Fine n zs) :
    Calls Try.prog 41 #[.agg #[.int .i64 n, .slice lo zs.length lc]] w fun e w' => ∃ fo fc uo tc wo wc, e = .returned (.agg #[.slice fo (n + 1) fc, .slice uo zs.length tc, .slice wo zs.length wc]) ∧ w'.ownsRow w.heap.size 3 1 (.slice fo (n + 1) fc) (firsts n zs).length (iv (firsts n zs)) ∧ w'.ownsRow w.heap.size 3 1 (.slice uo zs.length tc) (tos zs).length (iv (tos zs)) ∧ w'.ownsRow w.heap.size 3 1 (.slice wo zs.length wc) (weights zs).length (iv (weights zs)) ∧ Below w.heap.size w w' := by
  obtain ⟨i0, hi, hz0, hz1, hz2⟩ : ∃ i, Try.prog.info? 3 = some i ∧ i.zero = some (.int .i64 0) ∧ i.size = 1 ∧ i.bytes = 8 := by
    have h := infoJ
    cases hi : Try.prog.info? 3 with
    | none => rw [hi] at h; cases h
    | some i => rw [hi] at h; simp at h; exact ⟨i, rfl, h.1, h.2.1, h.2.2⟩
  have hN := hz.few
  have hM := hz.short
  have HFI : Hid (Fine n zs) := hz
  have HL : Hid (HasArcs w (.slice lo zs.length lc) zs) := hl
  have HS : Hid (RB w (.int .i64 n) (.slice lo zs.length lc) [0] [] [] (.slice (some ⟨w.heap.size + 1 + 1, 0, none⟩) 1 1) (.slice none 0 0) (.slice none 0 0) ((((w.alloc (.cells #[.int .i64 n, .slice lo zs.length lc] 24)).alloc (.cells #[.slice none 0 0, .slice none 0 0, .slice none 0 0] 47)).alloc (.cells #[.int .i64 0] 3)).alloc (.cells #[.slice (some ⟨w.heap.size + 1 + 1, 0, none⟩) 1 1, .slice none 0 0, .slice none 0 0] 47))) := by
    have hh : ∀ k, ((((w.alloc (.cells #[.int .i64 n, .slice lo zs.length lc] 24)).alloc (.cells #[.slice none 0 0, .slice none 0 0, .slice none 0 0] 47)).alloc (.cells #[.int .i64 0] 3)).alloc (.cells #[.slice (some ⟨w.heap.size + 1 + 1, 0, none⟩) 1 1, .slice none 0 0, .slice none 0 0] 47)).heap[k]? = if k = w.heap.size + 1 + 1 + 1 then some (.cells #[.slice (some ⟨w.heap.size + 1 + 1, 0, none⟩) 1 1, .slice none 0 0, .slice none 0 0] 47) else if k = w.heap.size + 1 + 1 then some (.cells #[.int .i64 0] 3) else if k = w.heap.size + 1 then some (.cells #[.slice none 0 0, .slice none 0 0, .slice none 0 0] 47) else if k = w.heap.size then some (.cells #[.int .i64 n, .slice lo zs.length lc] 24) else w.heap[k]? := fun k => by
      show ((((w.heap.push _).push _).push _).push _)[k]? = _
      rw [Array.getElem?_push, Array.getElem?_push, Array.getElem?_push, Array.getElem?_push]
      simp
    refine ⟨⟨rfl, Or.inr ⟨w.heap.size + 1 + 1, 1, #[.int .i64 0], rfl, Nat.le_refl _, ?_, Nat.le_refl _, by unfold maxLen; decide, rfl, rfl⟩⟩, World.ownsRow_nil _ _ _ _, World.ownsRow_nil _ _ _ _, (fun k _ e => by cases e), (fun k _ e => by cases e), (fun k e => by cases e), ?_, ?_, ?_, ?_⟩
    · rw [hh, if_neg (by omega), if_pos rfl]
    · rw [hh, if_pos rfl]
    · rw [hh, if_neg (by omega), if_neg (by omega), if_neg (by omega), if_pos rfl]
    · rw [hh, if_neg (by omega), if_neg (by omega), if_pos rfl]
    · exact ((((Below.refl _ w).alloc (Nat.le_refl _) _).alloc (by simp) _).alloc (by simp <;> omega) _).alloc (by simp <;> omega) _
  clear hl hz
  go_enter Try.func41, Try.ntmps41
  go_wp2_with fail
  generalize ((((w.alloc (.cells #[.int .i64 n, .slice lo zs.length lc] 24)).alloc (.cells #[.slice none 0 0, .slice none 0 0, .slice none 0 0] 47)).alloc (.cells #[.int .i64 0] 3)).alloc (.cells #[.slice (some ⟨w.heap.size + 1 + 1, 0, none⟩) 1 1, .slice none 0 0, .slice none 0 0] 47)) = W0 at *
  go_loopw [4, 5] (fun iv4 iv5 wr => ∃ k : Nat, k ≤ n ∧ iv5 = .int .i64 k ∧ iv4 = .int .i64 (firstAt zs k : Nat) ∧ ∃ fv tv vv, RB w (.int .i64 n) (.slice lo zs.length lc) ((firsts n zs).take (k + 1)) ((tos zs).take (firstAt zs k)) ((weights zs).take (firstAt zs k)) fv tv vv wr) (fun _ iv5 _ => n - (intOf iv5).toNat)
  case atStart =>
    have h0 := HFI.out.zero
    refine ⟨0, Nat.zero_le _, rfl, by rw [h0]; rfl, .slice (some ⟨w.heap.size + 1 + 1, 0, none⟩) 1 1, .slice none 0 0, .slice none 0 0, ?_⟩
    have e1 : (firsts n zs).take (0 + 1) = [0] := by rw [take_more (firsts_at zs (Nat.zero_le _)), h0]; rfl
    rw [e1, h0]
    exact HS.out
  case round =>
    obtain ⟨k, hk, rfl, rfl, fv, tv, vv, hR⟩ := hrel
    have HR : Hid (type_of% hR) := hR
    obtain ⟨d0, d1⟩ : wr.cell? ⟨w.heap.size, 0, none⟩ = some (.int .i64 n) ∧ wr.cell? ⟨w.heap.size, 1, none⟩ = some (.slice lo zs.length lc) := by simp [World.cell?, hR.g]
    have ds := lt_of_get hR.g
    have hfl : firstAt zs k ≤ zs.length := firstAt_le _ _
    clear hR
    by_cases hlt : k < n
    · have hxy := firstAt_mono zs (show k ≤ k + 1 by omega)
      have hyl := firstAt_le zs (k + 1)
      have HBO : Hid (∀ (i : Nat) (a : Int × Int × Int), firstAt zs k ≤ i → zs[i]? = some a → (a.1 = (k : Int) ↔ i < firstAt zs (k + 1))) := fun i a h1 ha => by
        have g2 := firstAt_lt HFI.out.rise ha (k + 1)
        have g1 := firstAt_lt HFI.out.rise ha k
        rw [g2]
        have : ¬ a.1 < (k : Int) := fun e => by have := g1.2 e; omega
        omega
      obtain ⟨x, hx⟩ : ∃ x, firstAt zs k = x := ⟨_, rfl⟩
      obtain ⟨y, hy⟩ : ∃ y, firstAt zs (k + 1) = y := ⟨_, rfl⟩
      have HX : Hid (firstAt zs k = x ∧ firstAt zs (k + 1) = y) := ⟨hx, hy⟩
      rw [hx, hy] at hxy
      rw [hy] at hyl
      rw [hx] at HR hfl ⊢
      rw [hx, hy] at HBO
      clear hx hy
      generalize hwr : wr = w1 at *
      clear hwr
      go_wp2_with fail
      go_loopw [4] (fun iv4 wr => ∃ i : Nat, x ≤ i ∧ i ≤ y ∧ iv4 = .int .i64 i ∧ ∃ fv tv vv, RB w (.int .i64 n) (.slice lo zs.length lc) ((firsts n zs).take (k + 1)) ((tos zs).take i) ((weights zs).take i) fv tv vv wr) (fun iv4 _ => y - (intOf iv4).toNat)
      case atStart => exact ⟨x, Nat.le_refl _, hxy, rfl, fv, tv, vv, HR.out⟩
      case round =>
        obtain ⟨i, hi1, hi2, rfl, fv2, tv2, vv2, hR2⟩ := hrel
        have HR2 : Hid (type_of% hR2) := hR2
        clear d0 d1 ds
        obtain ⟨d0, d1⟩ : wr.cell? ⟨w.heap.size, 0, none⟩ = some (.int .i64 n) ∧ wr.cell? ⟨w.heap.size, 1, none⟩ = some (.slice lo zs.length lc) := by simp [World.cell?, hR2.g]
        have ds := lt_of_get hR2.g
        clear hR2
        by_cases hiy : i < y
        · obtain ⟨a, ha⟩ : ∃ a, zs[i]? = some a := ⟨zs[i], List.getElem?_eq_getElem (by omega)⟩
          have ha1 := (HBO.out i a hi1 ha).2 hiy
          obtain ⟨a0, q, r⟩ := a
          simp only at ha1
          subst ha1
          obtain ⟨b, off, hlo, hbl, q0, q1, q2⟩ := HL.out.at ha
          subst hlo
          have e0 := (HR2.out.below.cell (p := ⟨b, off + i * 3, none⟩) hbl).trans q0
          have e1 := (HR2.out.below.cell (p := ⟨b, off + i * 3 + 1, none⟩) hbl).trans q1
          simp only at e0 e1
          have eb : b < wr.heap.size := Nat.lt_of_lt_of_le hbl HR2.out.below.size
          obtain ⟨so, sc, htv⟩ := iown_slice HR2.out.t
          obtain ⟨po, pc, hvv⟩ := iown_slice HR2.out.v
          subst htv
          subst hvv
          have HT1 : Hid ((tos zs).take (i + 1) = (tos zs).take i ++ [q] ∧ (weights zs).take (i + 1) = (weights zs).take i ++ [r]) := ⟨take_more (tos_at ha), take_more (weights_at ha)⟩
          have HLL : Hid (((tos zs).take i).length ≤ 262144 ∧ ((weights zs).take i).length ≤ 262144) := ⟨by rw [List.length_take, tos_len]; omega, by rw [List.length_take, weights_len]; omega⟩
          have HE2 : Hid (∀ wx, Below w.heap.size w wx → wx.cell? ⟨b, off + i * 3 + 2, none⟩ = some (.int .i64 r) ∧ b < wx.heap.size) := fun wx h => ⟨(h.cell (p := ⟨b, off + i * 3 + 2, none⟩) hbl).trans q2, Nat.lt_of_lt_of_le hbl h.size⟩
          obtain ⟨c0, c1, c2⟩ := box3 HR2.out.c
          have cs := lt_of_get HR2.out.c
          have cf : wr.frozen? ⟨w.heap.size + 1 + 1 + 1, 1, none⟩ = false := by simp [World.frozen?, HR2.out.c]
          have i1 : (i : Int) < (zs.length : Int) := by omega
          have i2 : (0 : Int) ≤ (i : Int) := by omega
          generalize (tos zs).take i = T at *
          generalize (weights zs).take i = V at *
          have hal2 : Below wr.heap.size wr (wr.drew.alloc (.cells #[.int .i64 q] 3)) := (Below.refl _ wr).drew.alloc (Nat.le_refl _) _
          clear q0 q1 q2 ha
          go_upto_region 7 with fail
          go_cut [38] (fun c wx => ∃ g cap, c = .slice (some ⟨g, 0, none⟩) (T.length + 1) cap ∧ RB w (.int .i64 n) (.slice (some ⟨b, off, none⟩) zs.length lc) ((firsts n zs).take (k + 1)) (T ++ [q]) V fv2 (.slice (some ⟨g, 0, none⟩) (T.length + 1) cap) (.slice po V.length pc) wx)
          case first =>
            go_region_law (first
              | (refine step_append_lies _ rfl _ _ 26 rfl (w.heap.size + 1 + 1) 3 i0 (.int .i64 0) 1 8 Try.underlying26 hi hz0 hz1 hz2 rfl (by decide) (.slice so T.length sc) T.length (iv T) rfl (iown_keep HR2.out.t fun k hk => (hal2.block _ (HR2.out.t.lt k hk).2)) ⟨wr.heap.size, 0, none⟩ 1 1 [.int .i64 q] rfl rfl (cell_int1 wr.drew (.int .i64 q)) (fun u hu => by simp at hu; subst hu; rfl) (by decide) (by have := HLL.out; unfold maxLen; omega) (by have := HLL.out; omega) (by have := HR2.out.below.size; have := lt_of_get HR2.out.c; simp; omega) (wr.heap.size + 1) (by simp) ?_; intro g2 cap2 w2 hown2 hgr2 hat2 hlt2; have h2 := HR2.out.appT (x := q) hal2 hown2 hgr2 hat2 (by simp); have H2 : Hid (type_of% h2) := h2; have cc2 := (hgr2.block (w.heap.size + 1 + 1 + 1) (by have := lt_of_get HR2.out.c; simp; omega) (fun e => iown_not_box HR2.out.t HR2.out.c (by decide) e.symm)).trans ((hal2.block _ (lt_of_get HR2.out.c)).trans HR2.out.c); have cf2 : w2.frozen? ⟨w.heap.size + 1 + 1 + 1, 1, none⟩ = false := (by simp [World.frozen?, cc2]); obtain ⟨cc02, cc12, cc22⟩ := box3 cc2; have cl2 := lt_of_get cc2; clear h2 hown2 hgr2 hat2 hlt2 cc2))
            all_goals
              go_wp2_with fail
              go_meet
              exact ⟨_, _, rfl, H2.out⟩
          case rest =>
            obtain ⟨g3, cap3, hc3, hR3⟩ := hcut
            subst hc3
            have HR3 : Hid (type_of% hR3) := hR3
            clear hR3 c0 c1 c2 cs cf d0 d1 ds e0 e1 eb hal2
            generalize wc = w3 at *
            obtain ⟨c0, c1, c2⟩ := box3 HR3.out.c
            have cs := lt_of_get HR3.out.c
            have cf : w3.frozen? ⟨w.heap.size + 1 + 1 + 1, 2, none⟩ = false := by simp [World.frozen?, HR3.out.c]
            obtain ⟨d0, d1⟩ : w3.cell? ⟨w.heap.size, 0, none⟩ = some (.int .i64 n) ∧ w3.cell? ⟨w.heap.size, 1, none⟩ = some (.slice (some ⟨b, off, none⟩) zs.length lc) := by simp [World.cell?, HR3.out.g]
            have ds := lt_of_get HR3.out.g
            obtain ⟨e2, eb⟩ := HE2.out w3 HR3.out.below
            have hal3 : Below w3.heap.size w3 (w3.drew.alloc (.cells #[.int .i64 r] 3)) := (Below.refl _ w3).drew.alloc (Nat.le_refl _) _
            go_upto_region 8 with fail
            go_region_law (first
              | (refine step_append_lies _ rfl _ _ 26 rfl (w.heap.size + 1 + 1) 3 i0 (.int .i64 0) 1 8 Try.underlying26 hi hz0 hz1 hz2 rfl (by decide) (.slice po V.length pc) V.length (iv V) rfl (iown_keep HR3.out.v fun k hk => (hal3.block _ (HR3.out.v.lt k hk).2)) ⟨w3.heap.size, 0, none⟩ 1 1 [.int .i64 r] rfl rfl (cell_int1 w3.drew (.int .i64 r)) (fun u hu => by simp at hu; subst hu; rfl) (by decide) (by have := HLL.out; unfold maxLen; omega) (by have := HLL.out; omega) (by have := HR3.out.below.size; have := lt_of_get HR3.out.c; simp; omega) (w3.heap.size + 1) (by simp) ?_; intro g4 cap4 w4 hown4 hgr4 hat4 hlt4; have h4 := HR3.out.appV (x := r) hal3 hown4 hgr4 hat4 (by simp); have H4 : Hid (type_of% h4) := h4; have cc4 := (hgr4.block (w.heap.size + 1 + 1 + 1) (by have := lt_of_get HR3.out.c; simp; omega) (fun e => iown_not_box HR3.out.v HR3.out.c (by decide) e.symm)).trans ((hal3.block _ (lt_of_get HR3.out.c)).trans HR3.out.c); have cf4 : w4.frozen? ⟨w.heap.size + 1 + 1 + 1, 2, none⟩ = false := (by simp [World.frozen?, cc4]); obtain ⟨cc04, cc14, cc24⟩ := box3 cc4; have cl4 := lt_of_get cc4; clear h4 hown4 hgr4 hat4 hlt4 cc4))
            all_goals
              have HN : Hid (RB w (.int .i64 n) (.slice (some ⟨b, off, none⟩) zs.length lc) ((firsts n zs).take (k + 1)) ((tos zs).take (i + 1)) ((weights zs).take (i + 1)) fv2 (.slice (some ⟨g3, 0, none⟩) (T.length + 1) cap3) (.slice (some ⟨g4, 0, none⟩) (V.length + 1) cap4) (w4.setCell ⟨w.heap.size + 1 + 1 + 1, 2, none⟩ (.slice (some ⟨g4, 0, none⟩) (V.length + 1) cap4))) := by
                rw [HT1.out.1, HT1.out.2]
                exact H4.out
              go_wp2
              go_roundw
              case rel => exact ⟨i + 1, by omega, by omega, by go_num, _, _, _, HN.out⟩
              case measure => simp [intOf]; omega
        · obtain rfl : i = y := by omega
          obtain ⟨so, sc, hfv⟩ := iown_slice HR2.out.f
          subst hfv
          have HF1 : Hid ((firsts n zs).take (k + 1 + 1) = (firsts n zs).take (k + 1) ++ [(i : Int)]) := by
            have h := take_more (firsts_at zs (show k + 1 ≤ n by omega))
            rw [HX.out.2] at h
            exact h
          have HLL : Hid (((firsts n zs).take (k + 1)).length ≤ 262144) := by show _ ≤ _; rw [List.length_take, firsts_len]; omega
          obtain ⟨c0, c1, c2⟩ := box3 HR2.out.c
          have cs := lt_of_get HR2.out.c
          have cf : wr.frozen? ⟨w.heap.size + 1 + 1 + 1, 0, none⟩ = false := by simp [World.frozen?, HR2.out.c]
          have hal : Below wr.heap.size wr (wr.alloc (.cells #[.int .i64 i] 3)) := (Below.refl _ wr).alloc (Nat.le_refl _) _
          generalize (firsts n zs).take (k + 1) = F at *
          by_cases hil : i < zs.length
          · obtain ⟨a, ha⟩ : ∃ a, zs[i]? = some a := ⟨zs[i], List.getElem?_eq_getElem hil⟩
            have ha1 : ¬ a.1 = (k : Int) := fun e => by have := (HBO.out i a hi1 ha).1 e; omega
            obtain ⟨b, off, hlo, hbl, q0, q1, q2⟩ := HL.out.at ha
            subst hlo
            have e0 := (HR2.out.below.cell (p := ⟨b, off + i * 3, none⟩) hbl).trans q0
            have eb : b < wr.heap.size := Nat.lt_of_lt_of_le hbl HR2.out.below.size
            have i1 : (i : Int) < (zs.length : Int) := by omega
            have i2 : (0 : Int) ≤ (i : Int) := by omega
            obtain ⟨a0, hE⟩ : ∃ a0, a.1 = a0 := ⟨_, rfl⟩
            rw [hE] at ha1 e0
            have ha2 : (a0 == (k : Int)) = false := beq_eq_false_iff_ne.mpr ha1
            clear q0 q1 q2 ha hE
            go_wp2_with (at_builtin; refine wpList_append_lies _ rfl _ _ 26 rfl (w.heap.size + 1 + 1) 3 i0 (.int .i64 0) 1 8 Try.underlying26 hi hz0 hz1 hz2 rfl (by decide) (.slice so F.length sc) F.length (iv F) rfl (iown_keep HR2.out.f fun k hk => (hal.block _ (HR2.out.f.lt k hk).2)) ⟨wr.heap.size, 0, none⟩ 1 1 [.int .i64 i] rfl rfl (cell_int1 wr (.int .i64 i)) (fun u hu => by simp at hu; subst hu; rfl) (by decide) (by have := HLL.out; unfold maxLen; omega) (by have := HLL.out; omega) (by have := lt_of_get HR2.out.c; simp; omega) (wr.heap.size + 1) (by simp) ?_; intro g4 cap4 w4 hown4 hgr4 hat4 hlt4; have h4 := HR2.out.appF (x := i) hal hown4 hgr4 hat4 (by simp); have H4 : Hid (type_of% h4) := h4; have cc4 := (hgr4.block (w.heap.size + 1 + 1 + 1) (by have := lt_of_get HR2.out.c; simp; omega) (fun e => iown_not_box HR2.out.f HR2.out.c (by decide) e.symm)).trans ((hal.block _ (lt_of_get HR2.out.c)).trans HR2.out.c); have cf4 : w4.frozen? ⟨w.heap.size + 1 + 1 + 1, 0, none⟩ = false := (by simp [World.frozen?, cc4]); obtain ⟨cc04, cc14, cc24⟩ := box3 cc4; have cl4 := lt_of_get cc4; clear h4 hown4 hgr4 hat4 hlt4 cc4)
            have HN : Hid (RB w (.int .i64 n) (.slice (some ⟨b, off, none⟩) zs.length lc) ((firsts n zs).take (k + 1 + 1)) ((tos zs).take (firstAt zs (k + 1))) ((weights zs).take (firstAt zs (k + 1))) (.slice (some ⟨g4, 0, none⟩) (F.length + 1) cap4) tv2 vv2 (w4.setCell ⟨w.heap.size + 1 + 1 + 1, 0, none⟩ (.slice (some ⟨g4, 0, none⟩) (F.length + 1) cap4))) := by
              rw [HF1.out, HX.out.2]
              exact H4.out
            go_roundw
            case rel => exact ⟨k + 1, by omega, by go_num, by rw [HX.out.2], _, _, _, HN.out⟩
            case measure => simp [intOf]; omega
          · have i1 : ¬ (i : Int) < (zs.length : Int) := by omega
            go_wp2_with (at_builtin; refine wpList_append_lies _ rfl _ _ 26 rfl (w.heap.size + 1 + 1) 3 i0 (.int .i64 0) 1 8 Try.underlying26 hi hz0 hz1 hz2 rfl (by decide) (.slice so F.length sc) F.length (iv F) rfl (iown_keep HR2.out.f fun k hk => (hal.block _ (HR2.out.f.lt k hk).2)) ⟨wr.heap.size, 0, none⟩ 1 1 [.int .i64 i] rfl rfl (cell_int1 wr (.int .i64 i)) (fun u hu => by simp at hu; subst hu; rfl) (by decide) (by have := HLL.out; unfold maxLen; omega) (by have := HLL.out; omega) (by have := lt_of_get HR2.out.c; simp; omega) (wr.heap.size + 1) (by simp) ?_; intro g4 cap4 w4 hown4 hgr4 hat4 hlt4; have h4 := HR2.out.appF (x := i) hal hown4 hgr4 hat4 (by simp); have H4 : Hid (type_of% h4) := h4; have cc4 := (hgr4.block (w.heap.size + 1 + 1 + 1) (by have := lt_of_get HR2.out.c; simp; omega) (fun e => iown_not_box HR2.out.f HR2.out.c (by decide) e.symm)).trans ((hal.block _ (lt_of_get HR2.out.c)).trans HR2.out.c); have cf4 : w4.frozen? ⟨w.heap.size + 1 + 1 + 1, 0, none⟩ = false := (by simp [World.frozen?, cc4]); obtain ⟨cc04, cc14, cc24⟩ := box3 cc4; have cl4 := lt_of_get cc4; clear h4 hown4 hgr4 hat4 hlt4 cc4)
            have HN : Hid (RB w (.int .i64 n) (.slice lo zs.length lc) ((firsts n zs).take (k + 1 + 1)) ((tos zs).take (firstAt zs (k + 1))) ((weights zs).take (firstAt zs (k + 1))) (.slice (some ⟨g4, 0, none⟩) (F.length + 1) cap4) tv2 vv2 (w4.setCell ⟨w.heap.size + 1 + 1 + 1, 0, none⟩ (.slice (some ⟨g4, 0, none⟩) (F.length + 1) cap4))) := by
              rw [HF1.out, HX.out.2]
              exact H4.out
            go_roundw
            case rel => exact ⟨k + 1, by omega, by go_num, by rw [HX.out.2], _, _, _, HN.out⟩
            case measure => simp [intOf]; omega
    · obtain rfl : k = n := by omega
      obtain ⟨fo, fc, hfv⟩ := iown_slice HR.out.f
      obtain ⟨uo, tc, htv⟩ := iown_slice HR.out.t
      obtain ⟨wo, wc, hvv⟩ := iown_slice HR.out.v
      subst hfv
      subst htv
      subst hvv
      have hF : (firsts k zs).take (k + 1) = firsts k zs := List.take_of_length_le (by rw [firsts_len]; omega)
      have hT : (tos zs).take (firstAt zs k) = tos zs := List.take_of_length_le (by rw [tos_len, HFI.out.top]; omega)
      have hV : (weights zs).take (firstAt zs k) = weights zs := List.take_of_length_le (by rw [weights_len, HFI.out.top]; omega)
      rw [hF, hT, hV] at HR
      rw [firsts_len, tos_len, weights_len] at HR
      obtain ⟨c0, c1, c2⟩ := box3 HR.out.c
      have cs := lt_of_get HR.out.c
      obtain ⟨r0, r1, r2, z0, z1, z2⟩ : wr.cell? ⟨w.heap.size + 1, 0, none⟩ = some (.slice none 0 0) ∧ wr.cell? ⟨w.heap.size + 1, 1, none⟩ = some (.slice none 0 0) ∧ wr.cell? ⟨w.heap.size + 1, 2, none⟩ = some (.slice none 0 0) ∧ wr.frozen? ⟨w.heap.size + 1, 0, none⟩ = false ∧ wr.frozen? ⟨w.heap.size + 1, 1, none⟩ = false ∧ wr.frozen? ⟨w.heap.size + 1, 2, none⟩ = false := by simp [World.cell?, World.frozen?, HR.out.r]
      have rs := lt_of_get HR.out.r
      clear hF hT hV
      go_wp2
      have hk : ∀ (u : Value) (m : Nat) (ys : List Value), wr.ownsRow (w.heap.size + 1 + 1) 3 1 u m ys → (((wr.setCell ⟨w.heap.size + 1, 0, none⟩ (.slice fo (k + 1) fc)).setCell ⟨w.heap.size + 1, 1, none⟩ (.slice uo zs.length tc)).setCell ⟨w.heap.size + 1, 2, none⟩ (.slice wo zs.length wc)).ownsRow (w.heap.size + 1 + 1) 3 1 u m ys := fun u m ys hu => iown_keep hu fun j hj => by
        have hne : j ≠ w.heap.size + 1 := by have := (hu.lt j hj).1; omega
        exact (heap_setCell_other _ _ _ _ hne).trans ((heap_setCell_other _ _ _ _ hne).trans (heap_setCell_other _ _ _ _ hne))
      have h1 := hk _ _ _ HR.out.f
      have h2 := hk _ _ _ HR.out.t
      have h3 := hk _ _ _ HR.out.v
      refine bodyPost_ret (v := .agg #[.slice fo (k + 1) fc, .slice uo zs.length tc, .slice wo zs.length wc]) (by simp [results, Try.results41, go_sem, r0, r1, r2]) rfl ⟨fo, fc, uo, tc, wo, wc, rfl, iown_base h1 (by omega), iown_base h2 (by omega), iown_base h3 (by omega), ?_⟩
      exact ((HR.out.below.setCell (p := ⟨w.heap.size + 1, 0, none⟩) (by simp) _).setCell (p := ⟨w.heap.size + 1, 1, none⟩) (by simp) _).setCell (p := ⟨w.heap.size + 1, 2, none⟩) (by simp) _
end Go.Proofs.Ytgfmalimnbgdeaa

namespace Go.Proofs.Ytgfmalimnbgdeaa
open Go.RowKit Go.Extern

attribute [local go_sem] Oper.semAt_some

/-- a list in new memory. -/
def NewI (w : World) (v : Value) : Prop := ∀ b off n c, v = .slice (some ⟨b, off, none⟩) n c → w.heap.size ≤ b
theorem newI_nil (w : World) (n c : Nat) : NewI w (.slice none n c) := fun b off m d e => by cases e
theorem newI_at {w : World} {F n c : Nat} (h : w.heap.size ≤ F) : NewI w (.slice (some ⟨F, 0, none⟩) n c) := fun b off m d e => by cases e; exact h
theorem newI_own {w wx : World} {B n : Nat} {v : Value} {xs : List Value} (h : wx.ownsRow B 3 1 v n xs) (hb : w.heap.size ≤ B) : NewI w v := fun b off m c e => by
  subst e
  have := (h.lt b rfl).1
  omega
theorem HasInts.far {w W W' : World} {v : Value} {l : List Int} (h : HasInts W v l) (hn : NewI w v) (hk : ∀ b, w.heap.size ≤ b → W'.heap[b]? = W.heap[b]?) (hs : W.heap.size ≤ W'.heap.size) : HasInts W' v l := by
  obtain ⟨ao, cap, e, hc⟩ := h
  refine ⟨ao, cap, e, fun j a hj => ?_⟩
  obtain ⟨b, off, ea, hl, h0⟩ := hc j a hj
  subst e
  have hb := hk b (hn b off _ _ (by rw [ea]))
  exact ⟨b, off, ea, Nat.lt_of_lt_of_le hl hs, (World.cell?_of_block (a := ⟨b, _, none⟩) hb).trans h0⟩
/-- places don't lie in boxes that hold no two numbers side by side. -/
theorem HasPlaces.far {W W' : World} {v : Value} {l : List (Int × Int)} {r1 r2 : Nat} {T1 T2 : TypeId} {x : Value} (h : HasPlaces W v l) {a1 a2 a3 a4 : Option Addr} {l1 l2 l3 l4 m1 m2 m3 m4 : Nat} (h1 : W.heap[r1]? = some (.cells #[.slice a1 l1 m1, .slice a2 l2 m2, .slice a3 l3 m3] T1)) (h2 : W.heap[r2]? = some (.cells #[x, .slice a4 l4 m4] T2)) (hk : ∀ b, b ≠ r1 → b ≠ r2 → W'.heap[b]? = W.heap[b]?) (hs : W.heap.size ≤ W'.heap.size) : HasPlaces W' v l := by
  obtain ⟨ao, cap, e, hc⟩ := h
  refine ⟨ao, cap, e, fun j p hj => ?_⟩
  obtain ⟨b, off, ea, hl, q0, q1⟩ := hc j p hj
  have n1 : b ≠ r1 := fun e => by
    subst e
    simp only [World.cell?, h1] at q0
    generalize off + j * 2 = k at q0
    rcases k with _ | _ | _ | k <;> simp at q0
  have n2 : b ≠ r2 := fun e => by
    subst e
    simp only [World.cell?, h2] at q1
    generalize off + j * 2 = k at q1
    rcases k with _ | k <;> simp at q1
  have hb := hk b n1 n2
  exact ⟨b, off, ea, Nat.lt_of_lt_of_le hl hs, (World.cell?_of_block (a := ⟨b, _, none⟩) hb).trans q0, (World.cell?_of_block (a := ⟨b, _, none⟩) hb).trans q1⟩
/-- the boxes of the two results. -/
structure DR (w wx : World) : Prop where
  r1 : wx.heap[w.heap.size + 1]? = some (.cells #[.slice none 0 0, .slice none 0 0, .slice none 0 0] 47)
  r2 : wx.heap[w.heap.size + 1 + 1]? = some (.cells #[.int .i64 0, .slice none 0 0] 50)
  below : Below w.heap.size w wx
theorem DR.keep {w wx wy : World} (h : DR w wx) (hb : Below wx.heap.size wx wy) : DR w wy := ⟨(hb.block _ (lt_of_get h.r1)).trans h.r1, (hb.block _ (lt_of_get h.r2)).trans h.r2, h.below.trans (hb.mono h.below.size)⟩
/-- a world in which the two results were written, in either order. -/
def DEnd (w wx wy : World) : Prop := (∀ b, b ≠ w.heap.size + 1 → b ≠ w.heap.size + 1 + 1 → wy.heap[b]? = wx.heap[b]?) ∧ wx.heap.size ≤ wy.heap.size ∧ Below w.heap.size w wy
theorem DEnd.drew {w wx wy : World} (h : DEnd w wx wy) : DEnd w wx wy.drew := ⟨fun b h1 h2 => h.1 b h1 h2, h.2.1, h.2.2.drew⟩
theorem DEnd.r1 {w wx wy : World} (h : DEnd w wx wy) (o : Nat) (v : Value) : DEnd w wx (wy.setCell ⟨w.heap.size + 1, o, none⟩ v) := ⟨fun b h1 h2 => (heap_setCell_other _ _ _ _ h1).trans (h.1 b h1 h2), by have := h.2.1; simpa using this, h.2.2.setCell (p := ⟨w.heap.size + 1, o, none⟩) (by simp) _⟩
theorem DEnd.r2 {w wx wy : World} (h : DEnd w wx wy) (o : Nat) (v : Value) : DEnd w wx (wy.setCell ⟨w.heap.size + 1 + 1, o, none⟩ v) := ⟨fun b h1 h2 => (heap_setCell_other _ _ _ _ h2).trans (h.1 b h1 h2), by have := h.2.1; simpa using this, h.2.2.setCell (p := ⟨w.heap.size + 1 + 1, o, none⟩) (by show w.heap.size ≤ w.heap.size + 1 + 1; omega) _⟩
theorem dend_a {w wx : World} (h : Below w.heap.size w wx) (a b c d e : Value) : DEnd w wx (((((wx.setCell ⟨w.heap.size + 1, 0, none⟩ a).setCell ⟨w.heap.size + 1, 1, none⟩ b).setCell ⟨w.heap.size + 1, 2, none⟩ c).setCell ⟨w.heap.size + 1 + 1, 0, none⟩ d).setCell ⟨w.heap.size + 1 + 1, 1, none⟩ e).drew :=
  ((((((show DEnd w wx wx from ⟨fun _ _ _ => rfl, Nat.le_refl _, h⟩).r1 0 a).r1 1 b).r1 2 c).r2 0 d).r2 1 e).drew
theorem dend_b {w wx : World} (h : Below w.heap.size w wx) (a b c d e : Value) : DEnd w wx (((((wx.setCell ⟨w.heap.size + 1, 0, none⟩ a).setCell ⟨w.heap.size + 1, 1, none⟩ b).setCell ⟨w.heap.size + 1, 2, none⟩ c).setCell ⟨w.heap.size + 1 + 1, 0, none⟩ d).setCell ⟨w.heap.size + 1 + 1, 1, none⟩ e) :=
  (((((show DEnd w wx wx from ⟨fun _ _ _ => rfl, Nat.le_refl _, h⟩).r1 0 a).r1 1 b).r1 2 c).r2 0 d).r2 1 e
theorem told_cases (N : Int) (xs : List (Int × Int × Int)) : graphErr N xs = (0, []) ∨ (graphErr N xs ≠ (0, []) ∧ ((graphErr N xs).1 != 0 || decide (0 < (graphErr N xs).2.length)) = true) := by
  by_cases h : graphErr N xs = (0, [])
  · exact Or.inl h
  · refine Or.inr ⟨h, ?_⟩
    by_cases h1 : (graphErr N xs).1 = 0
    · have h2 : (graphErr N xs).2 ≠ [] := fun e => h (by rw [← h1, ← e])
      have := List.length_pos_iff.2 h2
      simp [this]
    · simp [h1]

set_option maxRecDepth 100000 in
set_option maxHeartbeats 4000000 in
theorem docBuild_calls (N : Int) (ao : Option Addr) (cap : Nat) (xs : List (Int × Int × Int)) (w : World) (hl : HasArcs w (.slice ao xs.length cap) xs) (hm : xs.length ≤ maxLen) :
    Calls Try.prog 17 #[.agg #[.int .i64 N, .slice ao xs.length cap]] w fun e w' => ∃ fo fl fc uo ul uc wo wl wc po pc, e = .returned (.tuple #[.agg #[.slice fo fl fc, .slice uo ul uc, .slice wo wl wc], .agg #[.int .i64 (graphErr N xs).1, .slice po (graphErr N xs).2.length pc]]) ∧ HasPlaces w' (.slice po (graphErr N xs).2.length pc) (graphErr N xs).2 ∧ ((graphErr N xs = (0, []) ∧ HasInts w' (.slice fo fl fc) (firsts N.toNat (normA xs)) ∧ HasInts w' (.slice uo ul uc) (tos (normA xs)) ∧ HasInts w' (.slice wo wl wc) (weights (normA xs))) ∨ (graphErr N xs ≠ (0, []) ∧ fl = 0 ∧ ul = 0 ∧ wl = 0)) ∧ (NewI w (.slice fo fl fc) ∧ NewI w (.slice uo ul uc) ∧ NewI w (.slice wo wl wc)) ∧ Below w.heap.size w w' := by
  obtain ⟨W0, hW0⟩ : ∃ W0, ((w.alloc (.cells #[.int .i64 N, .slice ao xs.length cap] 24)).alloc (.cells #[.slice none 0 0, .slice none 0 0, .slice none 0 0] 47)).alloc (.cells #[.int .i64 0, .slice none 0 0] 50) = W0 := ⟨_, rfl⟩
  have HW0 : Hid (((w.alloc (.cells #[.int .i64 N, .slice ao xs.length cap] 24)).alloc (.cells #[.slice none 0 0, .slice none 0 0, .slice none 0 0] 47)).alloc (.cells #[.int .i64 0, .slice none 0 0] 50) = W0) := hW0
  have hB0 : Below w.heap.size w W0 := by rw [← hW0]; exact (((Below.refl _ w).alloc (Nat.le_refl _) _).alloc (by simp) _).alloc (by simp <;> omega) _
  have k1 : W0.heap[w.heap.size + 1]? = some (.cells #[.slice none 0 0, .slice none 0 0, .slice none 0 0] 47) := by
    rw [← hW0, Below.heap_alloc _ _ _ (by simp)]
    have h := heap_new (w.alloc (.cells #[.int .i64 N, .slice ao xs.length cap] 24)) (.cells #[.slice none 0 0, .slice none 0 0, .slice none 0 0] 47)
    simpa using h
  have k2 : W0.heap[w.heap.size + 1 + 1]? = some (.cells #[.int .i64 0, .slice none 0 0] 50) := by
    have h := heap_new ((w.alloc (.cells #[.int .i64 N, .slice ao xs.length cap] 24)).alloc (.cells #[.slice none 0 0, .slice none 0 0, .slice none 0 0] 47)) (.cells #[.int .i64 0, .slice none 0 0] 50)
    rw [hW0] at h
    simpa using h
  have HD0 : Hid (DR w W0) := ⟨k1, k2, hB0⟩
  have HOF : Hid (type_of% (docOf_calls N ao cap xs W0 (hl.keep hB0) hm)) := docOf_calls N ao cap xs W0 (hl.keep hB0) hm
  have HTC : Hid (type_of% (told_cases N xs)) := told_cases N xs
  have HRB : Hid (∀ (n : Nat) (lo : Option Addr) (lc : Nat) (wx : World), type_of% (rBuild_calls n (normA xs) lo lc wx)) := fun n lo lc wx => rBuild_calls n (normA xs) lo lc wx
  have HFN : Hid (∀ n : Nat, graphErr (n : Int) xs = (0, []) → Fine n (normA xs)) := fun n h => fine_norm h
  clear hl hW0 hB0 k1 k2
  go_enter Try.func17, Try.ntmps17
  go_wp2_with fail
  rw [HW0.out]
  refine HOF.out.mono ?_
  rintro e w1 ⟨M, lo, m, lc, ys, po, pc, rfl, hA1, hP1, hY, hb1⟩
  have HD1 : Hid (DR w w1) := HD0.out.keep hb1
  have HP1 : Hid (type_of% hP1) := hP1
  have HA1 : Hid (HasArcs w1 (.slice lo m lc) ys) := hA1
  have HY : Hid (type_of% hY) := hY
  clear hA1 hP1 hY hb1
  obtain ⟨C, hC⟩ : ∃ C, (graphErr N xs).1 = C := ⟨_, rfl⟩
  obtain ⟨ps, hps⟩ : ∃ ps, (graphErr N xs).2 = ps := ⟨_, rfl⟩
  have hE : graphErr N xs = (C, ps) := by rw [← hC, ← hps]
  have HE : Hid (graphErr N xs = (C, ps)) := hE
  rw [hE] at HTC HY HP1 ⊢
  simp only at HTC HP1 ⊢
  clear hC hps hE
  have HAL : Hid (Below w1.heap.size w1 ((w1.alloc (.cells #[.int .i64 M, .slice lo m lc] 24)).alloc (.cells #[.int .i64 C, .slice po ps.length pc] 50))) := ((Below.refl _ w1).alloc (Nat.le_refl _) _).alloc (by simp) _
  have HN1 : Hid (((w1.alloc (.cells #[.int .i64 M, .slice lo m lc] 24)).alloc (.cells #[.int .i64 C, .slice po ps.length pc] 50)).heap[w1.heap.size]? = some (.cells #[.int .i64 M, .slice lo m lc] 24)) := by
    show _ = _
    rw [Below.heap_alloc _ _ _ (by simp)]
    exact heap_new _ _
  have HN2 : Hid (((w1.alloc (.cells #[.int .i64 M, .slice lo m lc] 24)).alloc (.cells #[.int .i64 C, .slice po ps.length pc] 50)).heap[w1.heap.size + 1]? = some (.cells #[.int .i64 C, .slice po ps.length pc] 50)) := by
    have h := heap_new (w1.alloc (.cells #[.int .i64 M, .slice lo m lc] 24)) (.cells #[.int .i64 C, .slice po ps.length pc] 50)
    show _ = _
    simpa using h
  go_wp2_with fail
  generalize ((w1.alloc (.cells #[.int .i64 M, .slice lo m lc] 24)).alloc (.cells #[.int .i64 C, .slice po ps.length pc] 50)) = W1 at *
  refine (bad_calls C po ps.length pc W1).mono ?_
  rintro e w2 ⟨rfl, hb2⟩
  have HD2 : Hid (DR w w2) := (HD1.out.keep HAL.out).keep hb2
  have HB2 : Hid (Below w1.heap.size w1 w2) := HAL.out.trans (hb2.mono HAL.out.size)
  have HN3 : Hid (w2.heap[w1.heap.size]? = some (.cells #[.int .i64 M, .slice lo m lc] 24) ∧ w2.heap[w1.heap.size + 1]? = some (.cells #[.int .i64 C, .slice po ps.length pc] 50)) := ⟨(hb2.block _ (lt_of_get HN1.out)).trans HN1.out, (hb2.block _ (lt_of_get HN2.out)).trans HN2.out⟩
  have HW1 : Hid (w.heap.size + 1 + 1 < w1.heap.size) := lt_of_get HD1.out.r2
  clear hb2 HN1 HN2 HAL
  have hlow := HW1.out
  have HBX : Hid (Below w1.heap.size w1 w2) := HB2.out
  obtain ⟨B, hB⟩ : ∃ B, w1.heap.size = B := ⟨_, rfl⟩
  rw [hB] at hlow HN3 ⊢
  clear hB HB2 HW1
  obtain ⟨n0, n1, _, _⟩ := cell_two HN3.out.1
  obtain ⟨e0, e1, _, _⟩ := cell_two HN3.out.2
  have bs := lt_of_get HN3.out.1
  have bs1 := lt_of_get HN3.out.2
  obtain ⟨r0, r1, r2, z0, z1, z2⟩ : w2.cell? ⟨w.heap.size + 1, 0, none⟩ = some (.slice none 0 0) ∧ w2.cell? ⟨w.heap.size + 1, 1, none⟩ = some (.slice none 0 0) ∧ w2.cell? ⟨w.heap.size + 1, 2, none⟩ = some (.slice none 0 0) ∧ w2.frozen? ⟨w.heap.size + 1, 0, none⟩ = false ∧ w2.frozen? ⟨w.heap.size + 1, 1, none⟩ = false ∧ w2.frozen? ⟨w.heap.size + 1, 2, none⟩ = false := by simp [World.cell?, World.frozen?, HD2.out.r1]
  obtain ⟨d0, d1, x0, x1⟩ := cell_two HD2.out.r2
  have rs := lt_of_get HD2.out.r1
  have rs2 := lt_of_get HD2.out.r2
  have q1 : ¬ w.heap.size + 1 = B := by omega
  have q2 : ¬ B = w.heap.size + 1 := by omega
  have q3 : ¬ w.heap.size + 1 + 1 = B := by omega
  have q4 : ¬ B = w.heap.size + 1 + 1 := by omega
  have q5 : ¬ w.heap.size + 1 = B + 1 := by omega
  have q6 : ¬ B + 1 = w.heap.size + 1 := by omega
  have q7 : ¬ w.heap.size + 1 + 1 = B + 1 := by omega
  have q8 : ¬ B + 1 = w.heap.size + 1 + 1 := by omega
  have q9 : ¬ w.heap.size = B := by omega
  have q10 : ¬ B = w.heap.size := by omega
  rcases HTC.out with hgood | ⟨hbad, hbt⟩
  · injection hgood with hC hp
    subst hC
    subst hp
    have hY : M = N ∧ ys = normA xs := by
      rcases HY.out with ⟨_, h1, h2⟩ | ⟨h, _⟩
      · exact ⟨h1, h2⟩
      · exact absurd rfl h
    obtain ⟨hNM, hys⟩ := hY
    subst hNM
    subst hys
    obtain ⟨n, rfl⟩ := good_nat HE.out
    obtain rfl : m = (normA xs).length := arcs_len HA1.out
    have HFI : Hid (Fine n (normA xs)) := HFN.out n HE.out
    have HA2 : Hid (∀ wx, Below w2.heap.size w2 wx → HasArcs wx (.slice lo (normA xs).length lc) (normA xs)) := fun wx h => HA1.out.keep ((HBX.out).trans (h.mono HBX.out.size))
    have HP2 : Hid (HasPlaces w2 (.slice po ([] : List (Int × Int)).length pc) []) := HP1.out.keep HBX.out
    have HCL : Hid (∀ wx, Below w2.heap.size w2 wx → Calls Try.prog 41 #[.agg #[.int .i64 n, .slice lo (normA xs).length lc]] wx fun e w' => ∃ fo fc uo tc wo wc, e = .returned (.agg #[.slice fo (n + 1) fc, .slice uo (normA xs).length tc, .slice wo (normA xs).length wc]) ∧ w'.ownsRow w2.heap.size 3 1 (.slice fo (n + 1) fc) (firsts n (normA xs)).length (iv (firsts n (normA xs))) ∧ w'.ownsRow w2.heap.size 3 1 (.slice uo (normA xs).length tc) (tos (normA xs)).length (iv (tos (normA xs))) ∧ w'.ownsRow w2.heap.size 3 1 (.slice wo (normA xs).length wc) (weights (normA xs)).length (iv (weights (normA xs))) ∧ Below w2.heap.size w2 w') := fun wx h =>
      (HRB.out n lo lc wx (HA2.out wx h) HFI.out).mono fun e w' ⟨fo, fc, uo, tc, wo, wc, he, h1, h2, h3, hb⟩ => ⟨fo, fc, uo, tc, wo, wc, he, iown_base h1 h.size, iown_base h2 h.size, iown_base h3 h.size, h.trans (hb.mono h.size)⟩
    have HKC : Hid (∀ wx, Below w2.heap.size w2 wx → (wx.cell? ⟨B, 0, none⟩ = some (.int .i64 n) ∧ wx.cell? ⟨B, 1, none⟩ = some (.slice lo (normA xs).length lc)) ∧ (wx.cell? ⟨B + 1, 0, none⟩ = some (.int .i64 0) ∧ wx.cell? ⟨B + 1, 1, none⟩ = some (.slice po 0 pc)) ∧ (wx.cell? ⟨w.heap.size + 1, 0, none⟩ = some (.slice none 0 0) ∧ wx.cell? ⟨w.heap.size + 1, 1, none⟩ = some (.slice none 0 0) ∧ wx.cell? ⟨w.heap.size + 1, 2, none⟩ = some (.slice none 0 0) ∧ wx.frozen? ⟨w.heap.size + 1, 0, none⟩ = false ∧ wx.frozen? ⟨w.heap.size + 1, 1, none⟩ = false ∧ wx.frozen? ⟨w.heap.size + 1, 2, none⟩ = false) ∧ (wx.cell? ⟨w.heap.size + 1 + 1, 0, none⟩ = some (.int .i64 0) ∧ wx.cell? ⟨w.heap.size + 1 + 1, 1, none⟩ = some (.slice none 0 0) ∧ wx.frozen? ⟨w.heap.size + 1 + 1, 0, none⟩ = false ∧ wx.frozen? ⟨w.heap.size + 1 + 1, 1, none⟩ = false) ∧ w.heap.size + 1 < wx.heap.size ∧ w.heap.size + 1 + 1 < wx.heap.size ∧ B < wx.heap.size ∧ B + 1 < wx.heap.size) := fun wx h => by
      have g1 := (h.block _ (lt_of_get HN3.out.1)).trans HN3.out.1
      have g2 := (h.block _ (lt_of_get HN3.out.2)).trans HN3.out.2
      have g3 := HD2.out.keep h
      exact ⟨⟨(cell_two g1).1, (cell_two g1).2.1⟩, ⟨(cell_two g2).1, (cell_two g2).2.1⟩, by simp [World.cell?, World.frozen?, g3.r1], cell_two g3.r2, lt_of_get g3.r1, lt_of_get g3.r2, lt_of_get g1, lt_of_get g2⟩
    rw [show ((0 : Int) != 0 || decide (0 < ([] : List (Int × Int)).length)) = false from rfl]
    generalize hzs : normA xs = zs at *
    have HZS : Hid (normA xs = zs) := hzs
    clear hzs
    go_wp2_with fail
    go_region_held3 (fun w' => w'.cell? ⟨B, 0, none⟩ = some (.int .i64 n) ∧ w'.cell? ⟨B, 1, none⟩ = some (.slice lo zs.length lc) ∧ w'.cell? ⟨B + 1, 0, none⟩ = some (.int .i64 0) ∧ w'.cell? ⟨B + 1, 1, none⟩ = some (.slice po 0 pc)) (go_keep) (first
      | (go_at_call 41; refine (HCL.out _ (Below.refl _ w2).drew).mono ?_; rintro e w3 ⟨fo, fc, uo, tc, wo, wc, rfl, ho1, ho2, ho3, hb3⟩; have H3 : Hid (w3.ownsRow w2.heap.size 3 1 (.slice fo (n + 1) fc) (firsts n zs).length (iv (firsts n zs)) ∧ w3.ownsRow w2.heap.size 3 1 (.slice uo zs.length tc) (tos zs).length (iv (tos zs)) ∧ w3.ownsRow w2.heap.size 3 1 (.slice wo zs.length wc) (weights zs).length (iv (weights zs)) ∧ Below w2.heap.size w2 w3) := ⟨ho1, ho2, ho3, hb3⟩; clear ho1 ho2 ho3; clear n0 n1 e0 e1 r0 r1 r2 z0 z1 z2 d0 d1 x0 x1 rs rs2 bs bs1; obtain ⟨⟨n0, n1⟩, ⟨e0, e1⟩, ⟨r0, r1, r2, z0, z1, z2⟩, ⟨d0, d1, x0, x1⟩, rs, rs2, bs, bs1⟩ := HKC.out w3 hb3; clear hb3))
    all_goals
      go_wp2
      have hD3 := HD2.out.keep H3.out.2.2.2
      have hDE := dend_b hD3.below (.slice fo (n + 1) fc) (.slice uo zs.length tc) (.slice wo zs.length wc) (.int .i64 0) (.slice po 0 pc)
      have hk : ∀ (u : Value) (m : Nat) (vs : List Value), w3.ownsRow w2.heap.size 3 1 u m vs → (((((w3.setCell ⟨w.heap.size + 1, 0, none⟩ (.slice fo (n + 1) fc)).setCell ⟨w.heap.size + 1, 1, none⟩ (.slice uo zs.length tc)).setCell ⟨w.heap.size + 1, 2, none⟩ (.slice wo zs.length wc)).setCell ⟨w.heap.size + 1 + 1, 0, none⟩ (.int .i64 0)).setCell ⟨w.heap.size + 1 + 1, 1, none⟩ (.slice po 0 pc)).ownsRow w2.heap.size 3 1 u m vs := fun u m vs hu => iown_keep hu fun k hk => hDE.1 k (by have := (hu.lt k hk).1; have := lt_of_get HD2.out.r1; omega) (by have := (hu.lt k hk).1; have := lt_of_get HD2.out.r2; omega)
      refine bodyPost_ret (v := .tuple #[.agg #[.slice fo (n + 1) fc, .slice uo zs.length tc, .slice wo zs.length wc], .agg #[.int .i64 0, .slice po 0 pc]]) (by simp [results, Try.results17, go_sem, r0, r1, r2, d0, d1]) rfl ?_
      rw [HE.out, HZS.out, Int.toNat_natCast]
      exact ⟨fo, _, fc, uo, _, tc, wo, _, wc, po, pc, rfl, ⟨po, pc, rfl, fun j p hj => by simp at hj⟩, Or.inl ⟨rfl, ints_of_iown (hk _ _ _ H3.out.1), ints_of_iown (hk _ _ _ H3.out.2.1), ints_of_iown (hk _ _ _ H3.out.2.2.1)⟩, ⟨newI_own H3.out.1 HD2.out.below.size, newI_own H3.out.2.1 HD2.out.below.size, newI_own H3.out.2.2.1 HD2.out.below.size⟩, hDE.2.2⟩
  · rw [hbt]
    have HBD : Hid ((C, ps) ≠ ((0 : Int), ([] : List (Int × Int)))) := hbad
    clear hbad hbt
    go_wp2_with fail
    go_region_held (fun w' => w'.cell? ⟨B + 1, 0, none⟩ = some (.int .i64 C) ∧ w'.cell? ⟨B + 1, 1, none⟩ = some (.slice po ps.length pc)) (go_keep) (first | fail)
    all_goals
      go_wp2
      have hDE := dend_a HD2.out.below (.slice none 0 0) (.slice none 0 0) (.slice none 0 0) (.int .i64 C) (.slice po ps.length pc)
      refine bodyPost_ret (v := .tuple #[.agg #[.slice none 0 0, .slice none 0 0, .slice none 0 0], .agg #[.int .i64 C, .slice po ps.length pc]]) (by simp [results, Try.results17, go_sem, r0, r1, r2, d0, d1]) rfl ?_
      rw [HE.out]
      exact ⟨none, 0, 0, none, 0, 0, none, 0, 0, po, pc, rfl, (HP1.out.keep HBX.out).far HD2.out.r1 HD2.out.r2 hDE.1 hDE.2.1, Or.inr ⟨HBD.out, rfl, rfl, rfl⟩, ⟨newI_nil _ _ _, newI_nil _ _ _, newI_nil _ _ _⟩, hDE.2.2⟩
end Go.Proofs.Ytgfmalimnbgdeaa
