/- The queue's Pop, walked. -/
import Derived.Test.YtcfpkbmeblfhoaaWtS
namespace Go.Proofs.Ytcfpkbmeblfhoaa.Wt
open Go Go.RowKit Go.Extern

attribute [local go_sem] Oper.semAt_some

set_option maxRecDepth 100000 in
set_option maxHeartbeats 4000000 in
theorem wpop_calls {w : World} {sb : Nat} {c0 c1 c2 c3 c4 sv : Value} {Q : List Th} {m : Nat} {t : Th} (h : QMem w sb c0 c1 c2 c3 c4 sv Q) (hm : Q.length = m + 1) (ht : Q[m]? = some t) :
    Calls Try.prog 103 #[.pointer (some ⟨sb, 5, none⟩)] w fun e w' => e = .returned (.iface 87 (.agg #[.int .u64 t.1, .int .i64 t.2])) ∧ ∃ sv', QMem w' sb c0 c1 c2 c3 c4 sv' (Q.take m) ∧ QFr sb sv sv' w w' := by
  obtain ⟨g, cap, rfl, hc, hcm, gl, gs, a0, a1, _, _⟩ := h.entry ht
  obtain ⟨_, _, _, _, _, a5, _, b5⟩ := h.cells
  have hsl := lt_of_get h.box
  have hsh := h.short (m := m) (by omega)
  rw [show (Q.take m).length = m by rw [List.length_take]; omega] at hsh
  obtain ⟨n, hn⟩ : ∃ n, Q.length = n := ⟨_, rfl⟩
  rw [hn] at a5 hm hc
  have HN : Hid (n = m + 1 ∧ n ≤ cap) := ⟨hm, hc⟩
  have i1 : IntKind.i64.wrap ((n : Int) - 1) = (m : Int) := by unfold maxLen at hcm; rw [IntKind.wrap_i64] <;> omega
  have i2 : (m : Int) < (n : Int) := by omega
  have i3 : (0 : Int) ≤ (m : Int) := by omega
  have i4 : (m : Int) ≤ (cap : Int) := by omega
  have i5 : m ≤ cap := by omega
  clear hm hc ht
  go_enter Try.func103, Try.ntmps103
  go_wp2
  go_ret
  have hne : (Value.slice (some ⟨g, 0, none⟩) m cap).ownBlock ≠ some sb := by simpa [Value.ownBlock] using gs
  have hl : (Q.take m).length = m := by rw [List.length_take]; have := HN.out.1; omega
  have hf := h.field (Q' := Q.take m) (by rw [hl]; exact hsh) hne
  refine ⟨rfl, .slice (some ⟨g, 0, none⟩) m cap, hf.up ((Below.refl _ _).alloc (Nat.le_refl _) _), ⟨rfl, rfl, rfl, by simp, fun k hk h1 h2 => ?_, fun k _ e => e⟩⟩
  have h3 : ((w.setCell ⟨sb, 5, none⟩ (.slice (some ⟨g, 0, none⟩) m cap)).alloc (.cells #[.int .u64 t.1, .int .i64 t.2] 87)).heap[k]? = (w.setCell ⟨sb, 5, none⟩ (.slice (some ⟨g, 0, none⟩) m cap)).heap[k]? := ((Below.refl _ _).alloc (Nat.le_refl _) _).block k (by simpa using hk)
  rw [h3]
  exact heap_setCell_other _ _ _ _ h1

section
variable {w : World} {sb : Nat} {c0 c1 c2 c3 c4 sv : Value} {Q : List Th}
/-- what up and down leave. -/
structure Sifted (w : World) (sb : Nat) (c0 c1 c2 c3 c4 sv : Value) (Q : List Th) (w' : World) (Q' : List Th) : Prop where
  mem : QMem w' sb c0 c1 c2 c3 c4 sv Q'
  fr : QFr sb sv sv w w'
  len : Q'.length = Q.length
  perm : Q'.Perm Q
theorem Sifted.refl (h : QMem w sb c0 c1 c2 c3 c4 sv Q) : Sifted w sb c0 c1 c2 c3 c4 sv Q w Q := ⟨h, QFr.refl _ _ _, rfl, List.Perm.refl _⟩
theorem Sifted.up {w1 w2 : World} {Q1 : List Th} (h : Sifted w sb c0 c1 c2 c3 c4 sv Q w1 Q1) (hb : Below w1.heap.size w1 w2) : Sifted w sb c0 c1 c2 c3 c4 sv Q w2 Q1 := ⟨h.mem.up hb, h.fr.trans (QFr.of_below hb), h.len, h.perm⟩
set_option maxRecDepth 100000 in
set_option maxHeartbeats 4000000 in
theorem chup_calls (h : QMem w sb c0 c1 c2 c3 c4 sv Q) {j : Nat} (hj : j < Q.length) (hl : Q.length ≤ 1048577) (hh : HeapUp Q.length (plc Q) j) :
    Calls Try.prog 66 #[.iface 103 (.pointer (some ⟨sb, 5, none⟩)), .int .i64 j] w fun e w' => e = .returned (.tuple #[]) ∧ ∃ Q', Sifted w sb c0 c1 c2 c3 c4 sv Q w' Q' ∧ HeapF Q'.length (plc Q') := by
  obtain ⟨so, c, rfl, _, _⟩ := h.shape
  obtain ⟨n, hn⟩ : ∃ n, Q.length = n := ⟨_, rfl⟩
  rw [hn] at hj hl hh
  have H0 : Hid (Sifted w sb c0 c1 c2 c3 c4 (.slice so n c) Q w Q ∧ Q.length = n) := ⟨by have := Sifted.refl h; rw [hn] at this; exact this, hn⟩
  have HH : Hid (HeapUp n (plc Q) j) := hh
  clear h hn hh
  go_enter Try.func66, Try.ntmps66
  go_wp2_with fail
  go_loopw [1] (fun jv wr => ∃ (k : Nat) (Q' : List Th), jv = .int .i64 k ∧ k < n ∧ Sifted w sb c0 c1 c2 c3 c4 (.slice so n c) Q wr Q' ∧ HeapUp n (plc Q') k) (fun jv _ => (intOf jv).toNat)
  case atStart => exact ⟨j, Q, rfl, hj, H0.out.1, HH.out⟩
  case round =>
    obtain ⟨k, Q', rfl, hk, hS, hU⟩ := hrel
    have HS : Hid (Sifted w sb c0 c1 c2 c3 c4 (.slice so n c) Q wr Q' ∧ HeapUp n (plc Q') k) := ⟨hS, hU⟩
    clear hS hU
    obtain ⟨p, hp⟩ : ∃ p, par k = p := ⟨_, rfl⟩
    have HP : Hid (par k = p) := hp
    have jd : ((k : Int) - 1).tdiv 2 = (p : Int) := by rw [← hp]; unfold par; rcases Nat.eq_zero_or_pos k with h | h; subst h; rfl; rw [show (k : Int) - 1 = ((k - 1 : Nat) : Int) by omega]; rfl
    have hql : Q'.length = n := HS.out.1.len.trans H0.out.2
    have hc5 := HS.out.1.mem.cells.2.2.2.2.2.1
    have hI : ∀ F, 0 < F → (method F 103 (.pointer (some ⟨sb, 5, none⟩)) "Less").run Try.prog wr = .ok (100, .slice so n c) wr := fun F hF => inv_less F hF wr sb so n c hc5
    have HQL : Hid (Q'.length = n) := hql
    rcases Nat.eq_zero_or_pos k with h0 | h0
    · subst h0
      obtain rfl : p = 0 := by rw [← hp]; rfl
      have HF : Hid (∃ Q', Sifted w sb c0 c1 c2 c3 c4 (.slice so n c) Q wr Q' ∧ HeapF Q'.length (plc Q')) := ⟨Q', HS.out.1, by rw [HQL.out]; exact HS.out.2.fin (Or.inl rfl)⟩
      clear hp hql
      go_wp2
      go_end0
      rw [H0.out.2]
      exact ⟨rfl, HF.out⟩
    · have hpk : p < k := by rw [← hp]; exact par_lt h0
      have j1 : ((p : Int) == (k : Int)) = false := by simp; omega
      have HLS : Hid (Calls Try.prog 100 #[.slice so n c, .int .i64 k, .int .i64 p] wr fun e w' => e = .returned (.bool (decide (ltT (plc Q' k) (plc Q' p)))) ∧ Below wr.heap.size wr w') := by
        have h := HS.out.1.mem
        rw [← hql] at h
        have h2 := wless_calls (i := k) (j := p) h (by omega) (by omega)
        rw [hql] at h2
        exact h2
      clear hp hql
      go_wp2_with fail
      refine HLS.out.mono ?_
      rintro e y1 ⟨rfl, hy1⟩
      have hS1 := HS.out.1.up hy1
      have HS1 : Hid (Sifted w sb c0 c1 c2 c3 c4 (.slice so n c) Q y1 Q') := hS1
      clear hc5 hI hy1
      cases hr : decide (ltT (plc Q' k) (plc Q' p)) with
      | false =>
        have HF : Hid (∃ Q', Sifted w sb c0 c1 c2 c3 c4 (.slice so n c) Q y1 Q' ∧ HeapF Q'.length (plc Q')) := ⟨Q', hS1, by rw [HQL.out]; exact HS.out.2.fin (Or.inr (by rw [HP.out]; exact of_decide_eq_false hr))⟩
        clear hS1 hr HLS
        go_wp2
        go_end0
        rw [H0.out.2]
        exact ⟨rfl, HF.out⟩
      | true =>
        have hm := hS1.mem
        have hc6 := hm.cells.2.2.2.2.2.1
        have hI : ∀ F, 0 < F → (method F 103 (.pointer (some ⟨sb, 5, none⟩)) "Swap").run Try.prog y1 = .ok (101, .slice so n c) y1 := fun F hF => inv_swap F hF y1 sb so n c hc6
        have HU2 : Hid (HeapUp n (plc (swL Q' p k)) p) := by
          have := HS.out.2.step h0 (by rw [HP.out]; exact of_decide_eq_true hr)
          rw [HP.out, ← swL_plc (by rw [HQL.out]; omega) (by rw [HQL.out]; omega)] at this
          exact this
        have HSW : Hid (Calls Try.prog 101 #[.slice so n c, .int .i64 p, .int .i64 k] y1 fun e w' => e = .returned (.tuple #[]) ∧ Sifted w sb c0 c1 c2 c3 c4 (.slice so n c) Q w' (swL Q' p k)) := by
          rw [← HQL.out] at hm
          have h2 := wswap_calls (i := p) (j := k) hm (by rw [HQL.out]; omega) (by rw [HQL.out]; omega)
          rw [HQL.out] at h2
          refine h2.mono ?_
          rintro e w2 ⟨rfl, g1, g2⟩
          exact ⟨rfl, g1, HS1.out.fr.trans g2, by rw [swL_len]; exact HS1.out.len, (swL_perm (by rw [HQL.out]; omega) (by rw [HQL.out]; omega)).trans HS1.out.perm⟩
        clear hS1 hr HLS hm
        go_wp2_with fail
        refine HSW.out.mono ?_
        rintro e y2 ⟨rfl, hy2⟩
        have HY2 : Hid (Sifted w sb c0 c1 c2 c3 c4 (.slice so n c) Q y2 (swL Q' p k)) := hy2
        clear hy2 hc6 hI HSW
        go_wp2
        go_roundw
        case rel => exact ⟨p, swL Q' p k, rfl, by omega, HY2.out, HU2.out⟩
        case measure => simp only [intOf]; omega
end
end Go.Proofs.Ytcfpkbmeblfhoaa.Wt
