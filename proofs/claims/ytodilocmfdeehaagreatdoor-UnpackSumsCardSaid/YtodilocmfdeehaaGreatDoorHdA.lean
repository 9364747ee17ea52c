/- the reference's errors as plain values; viaductref10.firsts. -/
import Derived.Test.YtodilocmfdeehaaGreatDoorDocCheck
import Derived.Test.YtodilocmfdeehaaGreatDoorHrU
import Derived.Test.YtodilocmfdeehaaGreatDoorHrY
namespace Go.Proofs.YtodilocmfdeehaaGreatDoor.Hi
open Go.RowKit Go.Extern Go.Shelf

attribute [local go_sem] Oper.semAt_some

/-- an error told plainly. -/
def RA (w : World) (E : Int × List (Int × Int)) (e : Ending) (w' : World) : Prop := ∃ lo lc, e = .returned (.agg #[.int .i64 E.1, .slice lo E.2.length lc]) ∧ HasPlaces w' (.slice lo E.2.length lc) E.2 ∧ Below w.heap.size w w'
theorem pl_nil (w : World) : HasPlaces w (.slice none 0 0) [] := ⟨none, 0, rfl, fun j p hj => by simp at hj⟩
theorem pl_one {w : World} {g : Nat} {k a : Int} (h : w.heap[g]? = some (.cells #[.int .i64 k, .int .i64 a] 78)) : HasPlaces w (.slice (some ⟨g, 0, none⟩) 1 1) [(k, a)] := by
  refine ⟨some ⟨g, 0, none⟩, 1, rfl, fun j p hj => ?_⟩
  rcases j with _ | j
  · obtain rfl : (k, a) = p := by simpa using hj
    exact ⟨g, 0, rfl, some_lt h, by simp [World.cell?, h], by simp [World.cell?, h]⟩
  · simp at hj
theorem set_err {W : World} {b : Nat} {p q : Value} {T : TypeId} (h : W.heap[b]? = some (.cells #[p, q] T)) (x y : Value) : ((W.setCell ⟨b, 0, none⟩ x).setCell ⟨b, 1, none⟩ y).heap[b]? = some (.cells #[x, y] T) := by
  have hlt := some_lt h
  simp only [World.setCell, Array.getElem?_modify]
  simp [h]
theorem pl_far {w w' : World} {lo : Option Addr} {k c : Nat} {ps : List (Int × Int)} (h : HasPlaces w (.slice lo k c) ps) (hs : w.heap.size ≤ w'.heap.size) (hb : ∀ j, j < w.heap.size → (∃ a, lo = some a ∧ a.block = j) → w'.heap[j]? = w.heap[j]?) : HasPlaces w' (.slice lo k c) ps := by
  obtain ⟨ao, cap, e, hc⟩ := h
  injection e with e1 e2 e3
  subst e1
  refine ⟨lo, cap, by rw [e2, e3], fun j p hj => ?_⟩
  obtain ⟨b, off, ea, hl, h0, h1⟩ := hc j p hj
  have hk := hb b hl ⟨_, ea, rfl⟩
  exact ⟨b, off, ea, Nat.lt_of_lt_of_le hl hs, by rw [← h0]; simp [World.cell?, hk], by rw [← h1]; simp [World.cell?, hk]⟩

set_option maxRecDepth 100000 in
set_option maxHeartbeats 2000000 in
theorem bad_calls (c : Int) (lo : Option Addr) (k lc : Nat) (w : World) : Calls Tryz.prog 19 #[.agg #[.int .i64 c, .slice lo k lc]] w fun e w' => e = .returned (.bool (decide (c ≠ 0) || decide (0 < k))) ∧ Below w.heap.size w w' := by
  by_cases hc : c = 0
  · subst hc
    by_cases hk : 0 < k
    · have i1 : decide ((k : Int) > 0) = true := by simp; omega
      have i2 : decide (0 < k) = true := by simpa using hk
      go_enter Tryz.func19, Tryz.ntmps19
      go_wp2
      go_ret
      exact ⟨by simp [hk], (Below.refl _ _).alloc (Nat.le_refl _) _⟩
    · have i1 : decide ((k : Int) > 0) = false := by simp; omega
      have i2 : decide (0 < k) = false := by simpa using hk
      go_enter Tryz.func19, Tryz.ntmps19
      go_wp2
      go_ret
      exact ⟨by simp [hk], (Below.refl _ _).alloc (Nat.le_refl _) _⟩
  · have i1 : (c == 0) = false := by simpa using hc
    go_enter Tryz.func19, Tryz.ntmps19
    go_wp2
    go_ret
    exact ⟨by simp [hc], (Below.refl _ _).alloc (Nat.le_refl _) _⟩
theorem firsts_res {W : World} {z : Nat} {x0 x1 : Value} {tmps : Array Value} (h1 : W.heap[z]? = some (.cells #[x0, x1] 36)) (t6 : tmps[6]?.getD undef = .pointer (some ⟨z, 0, none⟩)) :
    (results Tryz.f48 tmps).run Tryz.prog W = .ok (.agg #[x0, x1]) W := by
  have c0 : W.cell? ⟨z, 0, none⟩ = some x0 := by simp [World.cell?, h1]
  have c1 : W.cell? ⟨z, 1, none⟩ = some x1 := by simp [World.cell?, h1]
  simp [results, Tryz.results48, go_sem, t6, c0, c1]

set_option maxRecDepth 100000 in
set_option maxHeartbeats 4000000 in
theorem firsts_calls (fo : Option Addr) (fc n m : Nat) (F : List Nat) (w : World) (hF : HasWs w (.slice fo F.length fc) F) (hl : F.length = n + 1) (hn : n ≤ 65536) (hm : m ≤ 1152921504606846976) :
    Calls Tryz.prog 48 #[.slice fo F.length fc, .int .i64 (n : Int), .int .i64 (m : Int)] w fun e w' => RA w (cf F m) e w' := by
  obtain ⟨z, hz⟩ : ∃ z, w.heap.size = z := ⟨_, rfl⟩
  obtain ⟨W0, hW0⟩ : ∃ W0, w.alloc (.cells #[.int .i64 0, .slice none 0 0] 36) = W0 := ⟨_, rfl⟩
  have hB0 : Below w.heap.size w W0 := by rw [← hW0]; exact (Below.refl _ w).alloc (Nat.le_refl _) _
  have h0 : W0.heap[z]? = some (.cells #[.int .i64 0, .slice none 0 0] 36) := by rw [← hW0, ← hz]; exact heap_newW _ _
  have HQ : Hid (∀ wx, Below W0.heap.size W0 wx → wx.heap[z]? = some (.cells #[.int .i64 0, .slice none 0 0] 36) ∧ Below w.heap.size w wx ∧ HasWs wx (.slice fo F.length fc) F) := fun wx hx => by
    have g := hB0.trans (hx.mono hB0.size)
    exact ⟨(hx.block _ (some_lt h0)).trans h0, g, hF.keep g⟩
  have HEND : Hid (∀ wx, Below W0.heap.size W0 wx → ∀ (E : Int × List (Int × Int)) (lo : Option Addr) (lc : Nat), HasPlaces wx (.slice lo E.2.length lc) E.2 → (∀ a, lo = some a → a.block ≠ z) → RA w E (.returned (.agg #[.int .i64 E.1, .slice lo E.2.length lc])) ((wx.setCell ⟨z, 0, none⟩ (.int .i64 E.1)).setCell ⟨z, 1, none⟩ (.slice lo E.2.length lc)) ∧ ((wx.setCell ⟨z, 0, none⟩ (.int .i64 E.1)).setCell ⟨z, 1, none⟩ (.slice lo E.2.length lc)).heap[z]? = some (.cells #[.int .i64 E.1, .slice lo E.2.length lc] 36)) := fun wx hx E lo lc hp hne => by
    refine ⟨⟨lo, lc, rfl, pl_far hp (by simp [World.setCell]) (fun j hj ⟨a, ea, eb⟩ => (Below.heap_setCell _ _ _ _ (by rw [← eb]; exact hne a ea)).trans (Below.heap_setCell _ _ _ _ (by rw [← eb]; exact hne a ea))), ((HQ.out wx hx).2.1.setCell (p := ⟨z, 0, none⟩) (by show w.heap.size ≤ z; omega) _).setCell (p := ⟨z, 1, none⟩) (by show w.heap.size ≤ z; omega) _⟩, set_err (HQ.out wx hx).1 _ _⟩
  have HW0 : Hid (w.alloc (.cells #[.int .i64 0, .slice none 0 0] 36) = W0) := hW0
  have HB0 : Hid (Below W0.heap.size W0 W0) := Below.refl _ _
  have HLEN : Hid (F.length = n + 1) := hl
  obtain ⟨b, off, e1, hbl, hc⟩ := (HQ.out W0 HB0.out).2.2.cells (by omega)
  have s0 := (HQ.out W0 HB0.out).2.2.small 0
  have c0 := hc 0 (by omega)
  rw [Nat.add_zero] at c0
  have HS : Hid (∀ k, nth F k < 4294967296) := fun k => (HQ.out W0 HB0.out).2.2.small k
  subst e1
  clear hW0 hB0 h0 hF hc
  by_cases hf0 : nth F 0 ≠ 0
  · have HE : Hid (cf F m = (14, [])) := by show _ = _; unfold cf; rw [if_pos hf0]
    have i1 : ((nth F 0 : Int) == 0) = false := by simp; omega
    have i0 : (0 : Int) < (F.length : Int) := by omega
    go_enter Tryz.func48, Tryz.ntmps48
    go_upto_region 1 with fail
    rw [HW0.out]
    go_wp2_with fail
    refine (E_calls 14 W0).mono ?_
    rintro e w1 ⟨rfl, hb1⟩
    have HB1 : Hid (Below W0.heap.size W0 w1) := hb1
    obtain ⟨d0, d1, f0, f1⟩ := cell_two (HQ.out w1 hb1).1
    clear hb1
    go_wp2
    obtain ⟨r1, r2⟩ := HEND.out w1 HB1.out (14, []) none 0 (pl_nil _) (fun a e => by cases e)
    exact bodyPost_ret (firsts_res r2 rfl) rfl (by rw [HE.out]; exact r1)
  · have hf0' : nth F 0 = 0 := by simpa using hf0
    have i1 : ((nth F 0 : Int) == 0) = true := by rw [hf0']; rfl
    rw [hf0'] at c0
    have i0 : (0 : Int) < (F.length : Int) := by omega
    have HC0 : Hid (cf F m = orE (ferr 3 (cfF F) 0 (n - 0)) (if nth F n ≠ m then (14, []) else (0, []))) := by
      show _ = _
      unfold cf
      rw [if_neg hf0, HLEN.out, Nat.add_sub_cancel, Nat.sub_zero]
    go_enter Tryz.func48, Tryz.ntmps48
    go_upto_region 1 with fail
    rw [HW0.out]
    go_wp2_with fail
    go_loopw [7] (fun iv wr => ∃ k : Nat, k ≤ n ∧ iv = .int .i64 k ∧ Hid (Below W0.heap.size W0 wr) ∧ Hid (cf F m = orE (ferr 3 (cfF F) k (n - k)) (if nth F n ≠ m then (14, []) else (0, [])))) (fun iv _ => n - (intOf iv).toNat)
    case atStart => exact ⟨0, Nat.zero_le _, rfl, HB0.out, HC0.out⟩
    case round =>
      obtain ⟨k, hk, rfl, HB, HCK⟩ := hrel
      obtain ⟨b', off', e1, _, hc⟩ := (HQ.out wr HB.out).2.2.cells (by omega)
      cases e1
      rcases Nat.lt_or_eq_of_le hk with h1 | h1
      · have ca := hc k (by omega)
        have cb := hc (k + 1) (by omega)
        have q6 : decide ((k : Int) < (n : Int)) = true := by simp; omega
        have i2 : (0 : Int) ≤ (k : Int) := by omega
        have i3 : (k : Int) < (F.length : Int) := by omega
        have i4 : (k : Int) + 1 < (F.length : Int) := by omega
        have i5 : IntKind.i64.wrap ((k : Int) + 1) = (k : Int) + 1 := by rw [IntKind.wrap_i64]; omega
        clear hc
        by_cases hlt : nth F (k + 1) < nth F k
        · have j1 : decide ((nth F (k + 1) : Int) < (nth F k : Int)) = true := by simp; omega
          have j2 : decide (nth F (k + 1) < nth F k) = true := by simpa using hlt
          have HE : Hid (cf F m = (14, [(3, (k : Int))])) := by
            show _ = _
            have e : cfF F k = 14 := by unfold cfF; rw [if_pos hlt]
            rw [HCK.out, ferr_hit h1 (by rw [e]; decide), e]
            unfold orE
            rw [if_neg (by simp)]
          go_wp2_with fail
          go_quiet (fail)
          have HBq : Hid (Below W0.heap.size W0 (wr.drewN nq)) := ⟨HB.out.os, HB.out.tape, HB.out.output, HB.out.size, HB.out.block⟩
          generalize wr.drewN nq = wq at *
          go_wp2_with fail
          refine (E_calls 14 wq).mono ?_
          rintro e w1 ⟨rfl, hb1⟩
          have HB1 : Hid (Below W0.heap.size W0 w1) := HBq.out.trans (hb1.mono HBq.out.size)
          clear hb1
          go_wp2_with fail
          refine (refAt_calls 3 (k : Int) 14 w1).mono ?_
          rintro e w2 ⟨g, rfl, hg, hb2⟩
          have HB2 : Hid (Below W0.heap.size W0 w2) := HB1.out.trans (hb2.mono HB1.out.size)
          have HG : Hid (HasPlaces w2 (.slice (some ⟨g, 0, none⟩) 1 1) [(3, (k : Int))] ∧ g ≠ z) := ⟨pl_one hg, fun e => by
            have := (HQ.out w2 HB2.out).1
            rw [← e, hg] at this
            simp at this⟩
          obtain ⟨d0, d1, f0, f1⟩ := cell_two (HQ.out w2 HB2.out).1
          clear hb2 hg
          go_wp2
          obtain ⟨r1, r2⟩ := HEND.out w2 HB2.out (14, [(3, (k : Int))]) (some ⟨g, 0, none⟩) 1 HG.out.1 (fun a e => by cases e; exact HG.out.2)
          exact bodyPost_ret (firsts_res r2 rfl) rfl (by rw [HE.out]; exact r1)
        · have j1 : decide ((nth F (k + 1) : Int) < (nth F k : Int)) = false := by simp; omega
          have j2 : decide (nth F (k + 1) < nth F k) = false := by simpa using hlt
          have HE : Hid (cf F m = orE (ferr 3 (cfF F) (k + 1) (n - (k + 1))) (if nth F n ≠ m then (14, []) else (0, []))) := by
            show _ = _
            have e : cfF F k = 0 := by unfold cfF; rw [if_neg hlt]
            rw [HCK.out, ferr_step h1 e]
          go_wp2_with fail
          go_quiet (fail)
          go_wp2
          go_roundw
          case rel => exact ⟨k + 1, by omega, by go_num, ⟨HB.out.os, HB.out.tape, HB.out.output, HB.out.size, HB.out.block⟩, HE.out⟩
          case measure => simp [intOf]; omega
      · subst h1
        have ca := hc k (by omega)
        have hs := HS.out k
        have i2 : (0 : Int) ≤ (k : Int) := by omega
        have i3 : (k : Int) < (F.length : Int) := by omega
        have i4 : IntKind.u64.wrap (nth F k : Int) = (nth F k : Int) := by rw [IntKind.wrap_u64]; omega
        have i5 : IntKind.u64.wrap (m : Int) = (m : Int) := by rw [IntKind.wrap_u64]; omega
        have HE0 : Hid (cf F m = if nth F k ≠ m then (14, []) else (0, [])) := by
          show _ = _
          rw [HCK.out, ferr_end]
          unfold orE
          rw [if_pos rfl]
        clear hc
        obtain ⟨d0, d1, f0, f1⟩ := cell_two (HQ.out wr HB.out).1
        by_cases he : nth F k = m
        · have j1 : ((nth F k : Int) == (m : Int)) = true := by simp; omega
          have j2 : (nth F k == m) = true := by simpa using he
          have HE : Hid (cf F m = (0, [])) := by show _ = _; rw [HE0.out, if_neg (by simp [he])]
          go_wp2
          obtain ⟨r1, r2⟩ := HEND.out wr HB.out (0, []) none 0 (pl_nil _) (fun a e => by cases e)
          exact bodyPost_ret (firsts_res r2 rfl) rfl (by rw [HE.out]; exact r1)
        · have j1 : ((nth F k : Int) == (m : Int)) = false := by simp; omega
          have j2 : (nth F k == m) = false := by simpa using he
          have HE : Hid (cf F m = (14, [])) := by show _ = _; rw [HE0.out, if_pos he]
          go_wp2_with fail
          refine (E_calls 14 wr).mono ?_
          rintro e w1 ⟨rfl, hb1⟩
          have HB1 : Hid (Below W0.heap.size W0 w1) := HB.out.trans (hb1.mono HB.out.size)
          clear d0 d1 f0 f1
          obtain ⟨d0, d1, f0, f1⟩ := cell_two (HQ.out w1 HB1.out).1
          clear hb1
          go_wp2
          obtain ⟨r1, r2⟩ := HEND.out w1 HB1.out (14, []) none 0 (pl_nil _) (fun a e => by cases e)
          exact bodyPost_ret (firsts_res r2 rfl) rfl (by rw [HE.out]; exact r1)
end Go.Proofs.YtodilocmfdeehaaGreatDoor.Hi
