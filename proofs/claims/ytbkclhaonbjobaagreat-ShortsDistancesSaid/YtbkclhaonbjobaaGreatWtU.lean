/- container/heap's down, Push and Pop over the queue, walked. (genwtu.py) -/
import Derived.Test.YtbkclhaonbjobaaGreatQhX
namespace Go.Proofs.YtbkclhaonbjobaaGreat.Wt
open Go Go.RowKit Go.Extern

attribute [local go_sem] Oper.semAt_some

/-- places from N on are as they were. -/
def Far (N : Nat) (Q Q' : List Th) : Prop := ∀ x, N ≤ x → plc Q' x = plc Q x
theorem Far.swap {N : Nat} {Q Q' : List Th} (h : Far N Q Q') {i j : Nat} (hi : i < N) (hj : j < N) (hl : N ≤ Q'.length) : Far N Q (swL Q' i j) := fun x hx => by
  rw [swL_plc (by omega) (by omega), swp_o _ (by omega) (by omega)]
  exact h x hx
/-- some truth is answered. -/
def SomeBo (e : Ending) : Prop := ∃ b, e = .returned (.bool b)
section
variable {w : World} {sb : Nat} {c0 c1 c2 c3 c4 sv : Value} {Q : List Th}
set_option maxRecDepth 100000 in
set_option maxHeartbeats 4000000 in
theorem chdown_calls (h : QMem w sb c0 c1 c2 c3 c4 sv Q) {N : Nat} (hN : N ≤ Q.length) (hl : Q.length ≤ 1048577) (hh : HeapDn N (plc Q) 0) :
    Calls Tryz.prog 122 #[.iface 192 (.pointer (some ⟨sb, 5, none⟩)), .int .i64 0, .int .i64 N] w fun e w' => SomeBo e ∧ ∃ Q', Sifted w sb c0 c1 c2 c3 c4 sv Q w' Q' ∧ HeapF N (plc Q') ∧ Far N Q Q' := by
  obtain ⟨so, c, rfl, _, _⟩ := h.shape
  obtain ⟨n, hn⟩ : ∃ n, Q.length = n := ⟨_, rfl⟩
  rw [hn] at hN hl
  have H0 : Hid (Sifted w sb c0 c1 c2 c3 c4 (.slice so n c) Q w Q ∧ Q.length = n) := ⟨by have := Sifted.refl h; rw [hn] at this; exact this, hn⟩
  have HH : Hid (HeapDn N (plc Q) 0) := hh
  clear h hn hh
  go_enter Tryz.func122, Tryz.ntmps122
  go_wp2_with fail
  go_loopw [7] (fun jv wr => ∃ (k : Nat) (Q' : List Th), jv = .int .i64 k ∧ k < N + 1 ∧ Sifted w sb c0 c1 c2 c3 c4 (.slice so n c) Q wr Q' ∧ HeapDn N (plc Q') k ∧ Far N Q Q') (fun jv _ => N + 1 - (intOf jv).toNat)
  case atStart => exact ⟨0, Q, rfl, by omega, H0.out.1, HH.out, fun _ _ => rfl⟩
  case round =>
    obtain ⟨k, Q', rfl, hk, hS, hU, hR⟩ := hrel
    have HSwr : Hid (Sifted w sb c0 c1 c2 c3 c4 (.slice so n c) Q wr Q') := hS
    have HU : Hid (HeapDn N (plc Q') k) := hU
    have HQL : Hid (Q'.length = n) := hS.len.trans H0.out.2
    have HRR : Hid (Far N Q Q') := hR
    clear hS hU hR
    obtain ⟨a, ha⟩ : ∃ a, 2 * k + 1 = a := ⟨_, rfl⟩
    obtain ⟨b, hb⟩ : ∃ b, 2 * k + 2 = b := ⟨_, rfl⟩
    have e1 : 2 * (k : Int) + 1 = (a : Int) := by omega
    have e2 : (a : Int) + 1 = (b : Int) := by omega
    have e3 : ¬ (a : Int) < 0 := by omega
    have ek : k < 1048578 := by omega
    have ea : a < 2097159 := by omega
    have HAB : Hid (2 * k + 1 = a ∧ 2 * k + 2 = b) := ⟨ha, hb⟩
    by_cases h1 : a < N
    · have j1 : decide ((N : Int) ≤ (a : Int)) = false := by simp; omega
      have j1' : ¬ (N : Int) ≤ (a : Int) := by omega
      have j1'' : ¬ N ≤ a := by omega
      by_cases h2 : b < N
      · have j2 : decide ((b : Int) < (N : Int)) = true := by simp; omega
        have hcwr := HSwr.out.mem.cells.2.2.2.2.2.1
        have hI : ∀ F, 0 < F → (method F 192 (.pointer (some ⟨sb, 5, none⟩)) "Less").run Tryz.prog wr = .ok (148, .slice so n c) wr := fun F hF => inv_less F hF wr sb so n c hcwr
        have HLwr : Hid (Calls Tryz.prog 148 #[.slice so n c, .int .i64 (b : Nat), .int .i64 (a : Nat)] wr fun e w' => e = .returned (.bool (decide (ltT (plc Q' b) (plc Q' a)))) ∧ Below wr.heap.size wr w') := by
          have h := HSwr.out.mem
          rw [← HQL.out] at h
          have h2 := wless_calls (i := b) (j := a) h (by rw [HQL.out]; omega) (by rw [HQL.out]; omega)
          rw [HQL.out] at h2
          exact h2
        clear ha hb
        go_wp2_with fail
        refine HLwr.out.mono ?_
        rintro e y5 ⟨rfl, hy5⟩
        have HSy5 : Hid (Sifted w sb c0 c1 c2 c3 c4 (.slice so n c) Q y5 Q') := HSwr.out.up hy5
        clear hcwr hI hy5 HLwr
        cases hq : decide (ltT (plc Q' b) (plc Q' a)) with
        | true =>
          have hq2 := HAB.out
          have HQQ : Hid (ltT (plc Q' b) (plc Q' a)) := show ltT (plc Q' b) (plc Q' a) from of_decide_eq_true hq
          clear hq
          have hcy5 := HSy5.out.mem.cells.2.2.2.2.2.1
          have hI : ∀ F, 0 < F → (method F 192 (.pointer (some ⟨sb, 5, none⟩)) "Less").run Tryz.prog y5 = .ok (148, .slice so n c) y5 := fun F hF => inv_less F hF y5 sb so n c hcy5
          have HLy5 : Hid (Calls Tryz.prog 148 #[.slice so n c, .int .i64 (b : Nat), .int .i64 (k : Nat)] y5 fun e w' => e = .returned (.bool (decide (ltT (plc Q' b) (plc Q' k)))) ∧ Below y5.heap.size y5 w') := by
            have h := HSy5.out.mem
            rw [← HQL.out] at h
            have h2 := wless_calls (i := b) (j := k) h (by rw [HQL.out]; omega) (by rw [HQL.out]; omega)
            rw [HQL.out] at h2
            exact h2
          have HO : Hid (∀ x, 0 < x → x < N → par x = k → ¬ ltT (plc Q' x) (plc Q' b)) := fun x x0 _ xp => by
            rcases (par_iff x0).1 xp with e | e
            · rw [show x = a by have := HAB.out; omega]; exact ltT_as HQQ.out
            · rw [show x = b by have := HAB.out; omega]; exact ltT_self _
          go_wp2_with fail
          refine HLy5.out.mono ?_
          rintro e y8 ⟨rfl, hy8⟩
          have HS8 : Hid (Sifted w sb c0 c1 c2 c3 c4 (.slice so n c) Q y8 Q') := HSy5.out.up hy8
          clear hcy5 hI hy8 HLy5
          cases hr : decide (ltT (plc Q' b) (plc Q' k)) with
          | false =>
            have HF : Hid (HeapF N (plc Q')) := HU.out.fin (fun x x0 xn xp hl => of_decide_eq_false hr (by
              by_cases e : ltT (plc Q' x) (plc Q' b)
              · exact absurd e (HO.out x x0 xn xp)
              · exact absurd hl (ltT_no e (of_decide_eq_false hr))))
            clear hr
            go_wp2
            go_ret
            rw [H0.out.2]
            exact ⟨⟨_, rfl⟩, Q', HS8.out, HF.out, HRR.out⟩
          | true =>
            have HU2 : Hid (HeapDn N (plc (swL Q' k b)) b) := by
              have := HU.out.step (j := b) (by omega) (by omega) (by unfold par; omega) (of_decide_eq_true hr) HO.out
              rw [← swL_plc (by rw [HQL.out]; omega) (by rw [HQL.out]; omega)] at this
              exact this
            have hm := HS8.out.mem
            have hc8 := hm.cells.2.2.2.2.2.1
            have hI : ∀ F, 0 < F → (method F 192 (.pointer (some ⟨sb, 5, none⟩)) "Swap").run Tryz.prog y8 = .ok (149, .slice so n c) y8 := fun F hF => inv_swap F hF y8 sb so n c hc8
            have HSW : Hid (Calls Tryz.prog 149 #[.slice so n c, .int .i64 (k : Nat), .int .i64 (b : Nat)] y8 fun e w' => e = .returned (.tuple #[]) ∧ Sifted w sb c0 c1 c2 c3 c4 (.slice so n c) Q w' (swL Q' k b)) := by
              rw [← HQL.out] at hm
              have h2 := wswap_calls (i := k) (j := b) hm (by rw [HQL.out]; omega) (by rw [HQL.out]; omega)
              rw [HQL.out] at h2
              refine h2.mono ?_
              rintro e w2 ⟨rfl, g1, g2⟩
              exact ⟨rfl, g1, HS8.out.fr.trans g2, by rw [swL_len]; exact HS8.out.len, (swL_perm (by rw [HQL.out]; omega) (by rw [HQL.out]; omega)).trans HS8.out.perm⟩
            clear hr hm
            go_wp2_with fail
            refine HSW.out.mono ?_
            rintro e y9 ⟨rfl, hy9⟩
            have HY9 : Hid (Sifted w sb c0 c1 c2 c3 c4 (.slice so n c) Q y9 (swL Q' k b)) := hy9
            clear hy9 hc8 hI HSW
            go_wp2
            go_roundw
            case rel => exact ⟨b, swL Q' k b, rfl, by omega, HY9.out, HU2.out, HRR.out.swap (by omega) (by omega) (by rw [HQL.out]; omega)⟩
            case measure => simp only [intOf]; omega
        | false =>
          have hq2 := HAB.out
          have HQQ : Hid (¬ ltT (plc Q' b) (plc Q' a)) := show ¬ ltT (plc Q' b) (plc Q' a) from of_decide_eq_false hq
          clear hq
          have hcy5 := HSy5.out.mem.cells.2.2.2.2.2.1
          have hI : ∀ F, 0 < F → (method F 192 (.pointer (some ⟨sb, 5, none⟩)) "Less").run Tryz.prog y5 = .ok (148, .slice so n c) y5 := fun F hF => inv_less F hF y5 sb so n c hcy5
          have HLy5 : Hid (Calls Tryz.prog 148 #[.slice so n c, .int .i64 (a : Nat), .int .i64 (k : Nat)] y5 fun e w' => e = .returned (.bool (decide (ltT (plc Q' a) (plc Q' k)))) ∧ Below y5.heap.size y5 w') := by
            have h := HSy5.out.mem
            rw [← HQL.out] at h
            have h2 := wless_calls (i := a) (j := k) h (by rw [HQL.out]; omega) (by rw [HQL.out]; omega)
            rw [HQL.out] at h2
            exact h2
          have HO : Hid (∀ x, 0 < x → x < N → par x = k → ¬ ltT (plc Q' x) (plc Q' a)) := fun x x0 _ xp => by
            rcases (par_iff x0).1 xp with e | e
            · rw [show x = a by have := HAB.out; omega]; exact ltT_self _
            · rw [show x = b by have := HAB.out; omega]; exact HQQ.out
          go_wp2_with fail
          refine HLy5.out.mono ?_
          rintro e y8 ⟨rfl, hy8⟩
          have HS8 : Hid (Sifted w sb c0 c1 c2 c3 c4 (.slice so n c) Q y8 Q') := HSy5.out.up hy8
          clear hcy5 hI hy8 HLy5
          cases hr : decide (ltT (plc Q' a) (plc Q' k)) with
          | false =>
            have HF : Hid (HeapF N (plc Q')) := HU.out.fin (fun x x0 xn xp hl => of_decide_eq_false hr (by
              by_cases e : ltT (plc Q' x) (plc Q' a)
              · exact absurd e (HO.out x x0 xn xp)
              · exact absurd hl (ltT_no e (of_decide_eq_false hr))))
            clear hr
            go_wp2
            go_ret
            rw [H0.out.2]
            exact ⟨⟨_, rfl⟩, Q', HS8.out, HF.out, HRR.out⟩
          | true =>
            have HU2 : Hid (HeapDn N (plc (swL Q' k a)) a) := by
              have := HU.out.step (j := a) (by omega) (by omega) (by unfold par; omega) (of_decide_eq_true hr) HO.out
              rw [← swL_plc (by rw [HQL.out]; omega) (by rw [HQL.out]; omega)] at this
              exact this
            have hm := HS8.out.mem
            have hc8 := hm.cells.2.2.2.2.2.1
            have hI : ∀ F, 0 < F → (method F 192 (.pointer (some ⟨sb, 5, none⟩)) "Swap").run Tryz.prog y8 = .ok (149, .slice so n c) y8 := fun F hF => inv_swap F hF y8 sb so n c hc8
            have HSW : Hid (Calls Tryz.prog 149 #[.slice so n c, .int .i64 (k : Nat), .int .i64 (a : Nat)] y8 fun e w' => e = .returned (.tuple #[]) ∧ Sifted w sb c0 c1 c2 c3 c4 (.slice so n c) Q w' (swL Q' k a)) := by
              rw [← HQL.out] at hm
              have h2 := wswap_calls (i := k) (j := a) hm (by rw [HQL.out]; omega) (by rw [HQL.out]; omega)
              rw [HQL.out] at h2
              refine h2.mono ?_
              rintro e w2 ⟨rfl, g1, g2⟩
              exact ⟨rfl, g1, HS8.out.fr.trans g2, by rw [swL_len]; exact HS8.out.len, (swL_perm (by rw [HQL.out]; omega) (by rw [HQL.out]; omega)).trans HS8.out.perm⟩
            clear hr hm
            go_wp2_with fail
            refine HSW.out.mono ?_
            rintro e y9 ⟨rfl, hy9⟩
            have HY9 : Hid (Sifted w sb c0 c1 c2 c3 c4 (.slice so n c) Q y9 (swL Q' k a)) := hy9
            clear hy9 hc8 hI HSW
            go_wp2
            go_roundw
            case rel => exact ⟨a, swL Q' k a, rfl, by omega, HY9.out, HU2.out, HRR.out.swap (by omega) (by omega) (by rw [HQL.out]; omega)⟩
            case measure => simp only [intOf]; omega
      · have j2 : decide ((b : Int) < (N : Int)) = false := by simp; omega
        have hq2 := HAB.out
        clear ha hb
        have hcwr := HSwr.out.mem.cells.2.2.2.2.2.1
        have hI : ∀ F, 0 < F → (method F 192 (.pointer (some ⟨sb, 5, none⟩)) "Less").run Tryz.prog wr = .ok (148, .slice so n c) wr := fun F hF => inv_less F hF wr sb so n c hcwr
        have HLwr : Hid (Calls Tryz.prog 148 #[.slice so n c, .int .i64 (a : Nat), .int .i64 (k : Nat)] wr fun e w' => e = .returned (.bool (decide (ltT (plc Q' a) (plc Q' k)))) ∧ Below wr.heap.size wr w') := by
          have h := HSwr.out.mem
          rw [← HQL.out] at h
          have h2 := wless_calls (i := a) (j := k) h (by rw [HQL.out]; omega) (by rw [HQL.out]; omega)
          rw [HQL.out] at h2
          exact h2
        have HO : Hid (∀ x, 0 < x → x < N → par x = k → ¬ ltT (plc Q' x) (plc Q' a)) := fun x x0 xn xp => by
          rcases (par_iff x0).1 xp with e | e
          · rw [show x = a by have := HAB.out; omega]; exact ltT_self _
          · exact absurd xn (by have := HAB.out; omega)
        go_wp2_with fail
        refine HLwr.out.mono ?_
        rintro e y8 ⟨rfl, hy8⟩
        have HS8 : Hid (Sifted w sb c0 c1 c2 c3 c4 (.slice so n c) Q y8 Q') := HSwr.out.up hy8
        clear hcwr hI hy8 HLwr
        cases hr : decide (ltT (plc Q' a) (plc Q' k)) with
        | false =>
          have HF : Hid (HeapF N (plc Q')) := HU.out.fin (fun x x0 xn xp hl => of_decide_eq_false hr (by
            by_cases e : ltT (plc Q' x) (plc Q' a)
            · exact absurd e (HO.out x x0 xn xp)
            · exact absurd hl (ltT_no e (of_decide_eq_false hr))))
          clear hr
          go_wp2
          go_ret
          rw [H0.out.2]
          exact ⟨⟨_, rfl⟩, Q', HS8.out, HF.out, HRR.out⟩
        | true =>
          have HU2 : Hid (HeapDn N (plc (swL Q' k a)) a) := by
            have := HU.out.step (j := a) (by omega) (by omega) (by unfold par; omega) (of_decide_eq_true hr) HO.out
            rw [← swL_plc (by rw [HQL.out]; omega) (by rw [HQL.out]; omega)] at this
            exact this
          have hm := HS8.out.mem
          have hc8 := hm.cells.2.2.2.2.2.1
          have hI : ∀ F, 0 < F → (method F 192 (.pointer (some ⟨sb, 5, none⟩)) "Swap").run Tryz.prog y8 = .ok (149, .slice so n c) y8 := fun F hF => inv_swap F hF y8 sb so n c hc8
          have HSW : Hid (Calls Tryz.prog 149 #[.slice so n c, .int .i64 (k : Nat), .int .i64 (a : Nat)] y8 fun e w' => e = .returned (.tuple #[]) ∧ Sifted w sb c0 c1 c2 c3 c4 (.slice so n c) Q w' (swL Q' k a)) := by
            rw [← HQL.out] at hm
            have h2 := wswap_calls (i := k) (j := a) hm (by rw [HQL.out]; omega) (by rw [HQL.out]; omega)
            rw [HQL.out] at h2
            refine h2.mono ?_
            rintro e w2 ⟨rfl, g1, g2⟩
            exact ⟨rfl, g1, HS8.out.fr.trans g2, by rw [swL_len]; exact HS8.out.len, (swL_perm (by rw [HQL.out]; omega) (by rw [HQL.out]; omega)).trans HS8.out.perm⟩
          clear hr hm
          go_wp2_with fail
          refine HSW.out.mono ?_
          rintro e y9 ⟨rfl, hy9⟩
          have HY9 : Hid (Sifted w sb c0 c1 c2 c3 c4 (.slice so n c) Q y9 (swL Q' k a)) := hy9
          clear hy9 hc8 hI HSW
          go_wp2
          go_roundw
          case rel => exact ⟨a, swL Q' k a, rfl, by omega, HY9.out, HU2.out, HRR.out.swap (by omega) (by omega) (by rw [HQL.out]; omega)⟩
          case measure => simp only [intOf]; omega
    · have j1 : decide ((N : Int) ≤ (a : Int)) = true := by simp; omega
      have j1' : (N : Int) ≤ (a : Int) := by omega
      have HF : Hid (HeapF N (plc Q')) := HU.out.fin (fun x x0 xn xp => by have := (par_iff x0).1 xp; omega)
      clear ha hb
      go_wp2
      go_ret
      rw [H0.out.2]
      exact ⟨⟨_, rfl⟩, Q', HSwr.out, HF.out, HRR.out⟩
/-- a queue: its row is a heap. -/
structure IsQ (w : World) (sb : Nat) (c0 c1 c2 c3 c4 sv : Value) (Q : List Th) : Prop where
  mem : QMem w sb c0 c1 c2 c3 c4 sv Q
  heap : HeapF Q.length (plc Q)
set_option maxRecDepth 100000 in
set_option maxHeartbeats 4000000 in
theorem chpush_calls (h : IsQ w sb c0 c1 c2 c3 c4 sv Q) (d y : Int) (hl : Q.length ≤ 1048576) :
    Calls Tryz.prog 108 #[.iface 192 (.pointer (some ⟨sb, 5, none⟩)), .iface 182 (.agg #[.int .u64 d, .int .i64 y])] w fun e w' => e = .returned (.tuple #[]) ∧ ∃ sv' Q', IsQ w' sb c0 c1 c2 c3 c4 sv' Q' ∧ QFr sb sv sv' w w' ∧ Q'.Perm ((d, y) :: Q) := by
  have HP : Hid (type_of% (wpush_calls h.mem d y hl)) := wpush_calls h.mem d y hl
  have HH : Hid (HeapF Q.length (plc Q)) := h.heap
  have hI : ∀ F, 0 < F → (method F 192 (.pointer (some ⟨sb, 5, none⟩)) "Push").run Tryz.prog w = .ok (151, .pointer (some ⟨sb, 5, none⟩)) w := fun F hF => inv_push F hF w sb
  clear h
  go_enter Tryz.func108, Tryz.ntmps108
  go_wp2_with fail
  refine HP.out.mono ?_
  rintro e y1 ⟨rfl, sv', hm, hf⟩
  obtain ⟨so, c, rfl, _, _⟩ := hm.shape
  have HM : Hid (QMem y1 sb c0 c1 c2 c3 c4 (.slice so (Q ++ [(d, y)]).length c) (Q ++ [(d, y)]) ∧ QFr sb sv (.slice so (Q ++ [(d, y)]).length c) w y1) := ⟨hm, hf⟩
  have hc := hm.cells.2.2.2.2.2.1
  have hJ : ∀ F, 0 < F → (method F 192 (.pointer (some ⟨sb, 5, none⟩)) "Len").run Tryz.prog y1 = .ok (109, .slice so (Q ++ [(d, y)]).length c) y1 := fun F hF => inv_len F hF y1 sb so _ c hc
  obtain ⟨q, hq⟩ : ∃ q, Q.length = q := ⟨_, rfl⟩
  have hql : (Q ++ [(d, y)]).length = q + 1 := by simp [hq]
  obtain ⟨L, hL⟩ : ∃ L, Q ++ [(d, y)] = L := ⟨_, rfl⟩
  rw [hL] at HM hc hJ hql
  have HUP : Hid (Calls Tryz.prog 121 #[.iface 192 (.pointer (some ⟨sb, 5, none⟩)), .int .i64 q] y1 fun e w' => e = .returned (.tuple #[]) ∧ ∃ Q', Sifted y1 sb c0 c1 c2 c3 c4 (.slice so L.length c) L w' Q' ∧ HeapF Q'.length (plc Q')) :=
    chup_calls HM.out.1 (by omega) (by omega) (by have := HeapUp.push HH.out (d, y); rw [hL, hq] at this; exact this)
  have HLE : Hid (Calls Tryz.prog 109 #[.slice so L.length c] y1 fun e w' => e = .returned (.int .i64 (L.length : Int)) ∧ w' = y1) := wlen_calls so L.length c y1
  have i1 : IntKind.i64.wrap ((L.length : Int) - 1) = (q : Int) := by rw [IntKind.wrap_i64] <;> omega
  have i2 : (L.length : Int) - 1 = (q : Int) := by omega
  have iq : q < 1048577 := by omega
  have HPE : Hid (L.Perm ((d, y) :: Q)) := by rw [← hL]; exact List.perm_append_comm
  clear hm hf hq hql hI HP hL
  go_wp2_with fail
  refine HLE.out.mono ?_
  rintro e y2 ⟨rfl, rfl⟩
  clear HLE hJ
  go_wp2_with fail
  refine HUP.out.mono ?_
  rintro e y3 ⟨rfl, Q', hs, hh⟩
  have HZ : Hid (∃ sv' Q', IsQ y3 sb c0 c1 c2 c3 c4 sv' Q' ∧ QFr sb sv sv' w y3 ∧ Q'.Perm ((d, y) :: Q)) := ⟨_, Q', ⟨hs.mem, hh⟩, HM.out.2.trans hs.fr, hs.perm.trans HPE.out⟩
  clear hs hh HUP
  go_wp2
  go_end0
  exact ⟨rfl, HZ.out⟩
set_option maxRecDepth 100000 in
set_option maxHeartbeats 4000000 in
theorem chpop_calls (h : IsQ w sb c0 c1 c2 c3 c4 sv Q) {m : Nat} (hm : Q.length = m + 1) (hl : Q.length ≤ 1048577) :
    Calls Tryz.prog 110 #[.iface 192 (.pointer (some ⟨sb, 5, none⟩))] w fun e w' => ∃ t : Th, e = .returned (.iface 182 (.agg #[.int .u64 t.1, .int .i64 t.2])) ∧ ∃ sv' Q', IsQ w' sb c0 c1 c2 c3 c4 sv' Q' ∧ QFr sb sv sv' w w' ∧ Q.Perm (t :: Q') ∧ ∀ x ∈ Q, ¬ ltT x t := by
  obtain ⟨so, c, rfl, _, _⟩ := h.mem.shape
  have HH : Hid (IsQ w sb c0 c1 c2 c3 c4 (.slice so Q.length c) Q) := h
  have hc := h.mem.cells.2.2.2.2.2.1
  have hJ : ∀ F, 0 < F → (method F 192 (.pointer (some ⟨sb, 5, none⟩)) "Len").run Tryz.prog w = .ok (109, .slice so Q.length c) w := fun F hF => inv_len F hF w sb so _ c hc
  have hK : ∀ F, 0 < F → (method F 192 (.pointer (some ⟨sb, 5, none⟩)) "Swap").run Tryz.prog w = .ok (149, .slice so Q.length c) w := fun F hF => inv_swap F hF w sb so _ c hc
  have HLE : Hid (Calls Tryz.prog 109 #[.slice so Q.length c] w fun e w' => e = .returned (.int .i64 (Q.length : Int)) ∧ w' = w) := wlen_calls so Q.length c w
  have HSW : Hid (Calls Tryz.prog 149 #[.slice so Q.length c, .int .i64 0, .int .i64 m] w fun e w' => e = .returned (.tuple #[]) ∧ Sifted w sb c0 c1 c2 c3 c4 (.slice so Q.length c) Q w' (swL Q 0 m)) := by
    refine (wswap_calls (i := 0) (j := m) h.mem (by omega) (by omega)).mono ?_
    rintro e w2 ⟨rfl, g1, g2⟩
    exact ⟨rfl, g1, g2, swL_len _ _ _, swL_perm (by omega) (by omega)⟩
  have HDN : Hid (HeapDn m (plc (swL Q 0 m)) 0) := HeapDn.pop hm h.heap
  have HMI : Hid (∀ k, k < Q.length → ¬ ltT (plc Q k) (plc Q 0)) := h.heap.min
  have HLM : Hid (plc (swL Q 0 m) m = plc Q 0) := by show _ = _; rw [swL_plc (by omega) (by omega), swp_j]
  have HML : Hid (Q.length = m + 1 ∧ Q.length ≤ 1048577) := ⟨hm, hl⟩
  obtain ⟨n, hn⟩ : ∃ n, Q.length = n := ⟨_, rfl⟩
  have i1 : IntKind.i64.wrap ((n : Int) - 1) = (m : Int) := by rw [IntKind.wrap_i64] <;> omega
  have i2 : (n : Int) - 1 = (m : Int) := by omega
  have im : m < 1048577 := by omega
  have HN : Hid (Q.length = n) := hn
  rw [hn] at hc hJ hK HLE HSW
  clear h hm hl hn
  go_enter Tryz.func110, Tryz.ntmps110
  go_wp2_with fail
  refine HLE.out.mono ?_
  rintro e y1 ⟨rfl, rfl⟩
  clear HLE hJ
  go_wp2_with fail
  refine HSW.out.mono ?_
  rintro e y2 ⟨rfl, hs⟩
  have HS2 : Hid (Sifted y1 sb c0 c1 c2 c3 c4 (.slice so n c) Q y2 (swL Q 0 m)) := hs
  have HDC : Hid (Calls Tryz.prog 122 #[.iface 192 (.pointer (some ⟨sb, 5, none⟩)), .int .i64 0, .int .i64 m] y2 fun e w' => SomeBo e ∧ ∃ Q', Sifted y2 sb c0 c1 c2 c3 c4 (.slice so n c) (swL Q 0 m) w' Q' ∧ HeapF m (plc Q') ∧ Far m (swL Q 0 m) Q') := chdown_calls hs.mem (by rw [swL_len]; have := HML.out; omega) (by rw [swL_len]; have := HML.out; omega) HDN.out
  clear hs hK hc HSW
  go_wp2_with fail
  refine HDC.out.mono ?_
  rintro e y3 ⟨⟨bb, rfl⟩, Q2, hs, hh, hf⟩
  have hl2 : Q2.length = m + 1 := by rw [hs.len, swL_len]; exact HML.out.1
  have hm2 : Q2[m]? = some (plc Q 0) := by
    have e1 : plc Q2 m = plc Q 0 := (hf m (Nat.le_refl _)).trans HLM.out
    obtain ⟨a, ha⟩ : ∃ a, Q2[m]? = some a := ⟨_, List.getElem?_eq_getElem (by omega)⟩
    rw [ha, ← e1, plc_at ha]
  have HPP : Hid (Calls Tryz.prog 150 #[.pointer (some ⟨sb, 5, none⟩)] y3 fun e w' => e = .returned (.iface 182 (.agg #[.int .u64 (plc Q 0).1, .int .i64 (plc Q 0).2])) ∧ ∃ sv', QMem w' sb c0 c1 c2 c3 c4 sv' (Q2.take m) ∧ QFr sb (.slice so n c) sv' y3 w') := wpop_calls hs.mem hl2 hm2
  have HZ : Hid (∀ (w' : World) (sv' : Value), QMem w' sb c0 c1 c2 c3 c4 sv' (Q2.take m) → QFr sb (.slice so n c) sv' y3 w' → ∃ sv' Q', IsQ w' sb c0 c1 c2 c3 c4 sv' Q' ∧ QFr sb (.slice so Q.length c) sv' y1 w' ∧ Q.Perm (plc Q 0 :: Q') ∧ ∀ x ∈ Q, ¬ ltT x (plc Q 0)) := fun w' sv' g1 g2 => by
    have ht : (Q2.take m).length = m := by rw [List.length_take]; omega
    refine ⟨sv', Q2.take m, ⟨g1, ?_⟩, ?_, ?_, fun x hx => ?_⟩
    · rw [ht]
      exact hh.congr fun k hk => (take_plc hk).symm
    · rw [HN.out]
      exact (HS2.out.fr.trans hs.fr).trans g2
    · have e1 : Q2 = Q2.take m ++ [plc Q 0] := by
        have h1 := List.take_append_drop m Q2
        have h2 : Q2.drop m = [plc Q 0] := by
          obtain ⟨hlt, hv⟩ := List.getElem?_eq_some_iff.1 hm2
          rw [List.drop_eq_getElem_cons hlt, hv, List.drop_of_length_le (by omega)]
        rw [h2] at h1
        exact h1.symm
      have h3 := (HS2.out.perm.symm.trans hs.perm.symm)
      rw [e1] at h3
      exact h3.trans List.perm_append_comm
    · obtain ⟨k, hk, rfl⟩ := List.getElem_of_mem hx
      have := HMI.out k hk
      rw [plc_at (List.getElem?_eq_getElem hk)] at this
      exact this
  have hI : ∀ F, 0 < F → (method F 192 (.pointer (some ⟨sb, 5, none⟩)) "Pop").run Tryz.prog y3 = .ok (150, .pointer (some ⟨sb, 5, none⟩)) y3 := fun F hF => inv_pop F hF y3 sb
  clear hs hh hf hl2 hm2 HDC
  go_wp2_with fail
  refine HPP.out.mono ?_
  rintro e y4 ⟨rfl, sv', g1, g2⟩
  have HY : Hid (type_of% (HZ.out y4 sv' g1 g2)) := HZ.out y4 sv' g1 g2
  clear g1 g2 hI
  go_wp2
  go_ret
  exact ⟨_, rfl, HN.out ▸ HY.out⟩
end
end Go.Proofs.YtbkclhaonbjobaaGreat.Wt
