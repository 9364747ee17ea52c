/- csr's checkArc: the number of an arc's error. -/
import Derived.Test.YtefcmpdnlbpjpaaCsrOps
namespace Go.Proofs.Ytefcmpdnlbpjpaa
open Go.RowKit Go.Extern

attribute [local go_sem] Oper.semAt_some

/-- the number of an arc's error: the arc number i, of node v's row, that begins at fv; tp: where the arc ahead of it leads. -/
def arcNo (n v i : Nat) (fv to tp wt : Int) : Int :=
  if ¬ (0 ≤ to ∧ to < (n : Int)) then 7 else if to = (v : Int) ∨ (¬ (i : Int) = fv ∧ to ≤ tp) then 14 else if wt < 0 ∨ 2147483647 < wt then 8 else 0

theorem arcNo_cases (n v i : Nat) (fv to tp wt : Int) :
    (¬ (0 ≤ to ∧ to < (n : Int)) ∧ arcNo n v i fv to tp wt = 7) ∨ ((0 ≤ to ∧ to < (n : Int)) ∧ to = (v : Int) ∧ arcNo n v i fv to tp wt = 14)
    ∨ ((0 ≤ to ∧ to < (n : Int)) ∧ ¬ to = (v : Int) ∧ ¬ (i : Int) = fv ∧ to ≤ tp ∧ arcNo n v i fv to tp wt = 14)
    ∨ ((0 ≤ to ∧ to < (n : Int)) ∧ ¬ to = (v : Int) ∧ ((i : Int) = fv ∨ (¬ (i : Int) = fv ∧ ¬ to ≤ tp)) ∧ ((wt < 0 ∧ arcNo n v i fv to tp wt = 8) ∨ (¬ wt < 0 ∧ 2147483647 < wt ∧ arcNo n v i fv to tp wt = 8) ∨ (¬ wt < 0 ∧ ¬ 2147483647 < wt ∧ arcNo n v i fv to tp wt = 0))) := by
  unfold arcNo
  by_cases h1 : 0 ≤ to ∧ to < (n : Int)
  · rw [if_neg (fun h => h h1)]
    by_cases h2 : to = (v : Int)
    · rw [if_pos (Or.inl h2)]; exact Or.inr (Or.inl ⟨h1, h2, rfl⟩)
    · by_cases h3 : (i : Int) = fv
      · rw [if_neg (fun h => h.elim h2 (fun g => g.1 h3))]
        by_cases h5 : wt < 0 <;> by_cases h6 : 2147483647 < wt <;> simp [h1, h2, h3, h5, h6]
      · by_cases h4 : to ≤ tp
        · rw [if_pos (Or.inr ⟨h3, h4⟩)]; exact Or.inr (Or.inr (Or.inl ⟨h1, h2, h3, h4, rfl⟩))
        · rw [if_neg (fun h => h.elim h2 (fun g => h4 g.2))]
          by_cases h5 : wt < 0 <;> by_cases h6 : 2147483647 < wt <;> simp [h1, h2, h3, h4, h5, h6]
  · rw [if_pos h1]; exact Or.inl ⟨h1, rfl⟩

set_option maxRecDepth 100000 in
set_option maxHeartbeats 2000000 in
theorem arc_a (fb fof tb tof wb wof n fc tl tc wl wc v i j : Nat) (fv to tp wt : Int) (w : World) (hn : n ≤ 262144) (hl : tl ≤ 262144) (hv : v < n) (hi : i < tl) (hw : i < wl) (hj : (i : Int) ≠ fv → i = j + 1 ∧ w.cell? ⟨tb, tof + j, none⟩ = some (.int .i64 tp))
    (hF : w.cell? ⟨fb, fof + v, none⟩ = some (.int .i64 fv)) (hT : w.cell? ⟨tb, tof + i, none⟩ = some (.int .i64 to)) (hW : w.cell? ⟨wb, wof + i, none⟩ = some (.int .i64 wt)) (lf : fb < w.heap.size) (lt : tb < w.heap.size) (lw : wb < w.heap.size)
    (h1 : ¬ (0 ≤ to ∧ to < (n : Int))) :
    Calls Try.prog 63 #[.agg #[.slice (some ⟨fb, fof, none⟩) (n + 1) fc, .slice (some ⟨tb, tof, none⟩) tl tc, .slice (some ⟨wb, wof, none⟩) wl wc], .int .i64 v, .int .i64 i] w fun e w' => e = .returned (numV (7)) ∧ Below w.heap.size w w' := by
  have HB : Hid (Below w.heap.size w (w.alloc (.cells #[.slice (some ⟨fb, fof, none⟩) (n + 1) fc, .slice (some ⟨tb, tof, none⟩) tl tc, .slice (some ⟨wb, wof, none⟩) wl wc] 27))) := (Below.refl _ w).alloc (Nat.le_refl _) _
  have HBX : Hid ((w.alloc (.cells #[.slice (some ⟨fb, fof, none⟩) (n + 1) fc, .slice (some ⟨tb, tof, none⟩) tl tc, .slice (some ⟨wb, wof, none⟩) wl wc] 27)).heap[w.heap.size]? = some (.cells #[.slice (some ⟨fb, fof, none⟩) (n + 1) fc, .slice (some ⟨tb, tof, none⟩) tl tc, .slice (some ⟨wb, wof, none⟩) wl wc] 27)) := heap_new _ _
  have HK : Hid (∀ wx, Below (w.heap.size + 1) (w.alloc (.cells #[.slice (some ⟨fb, fof, none⟩) (n + 1) fc, .slice (some ⟨tb, tof, none⟩) tl tc, .slice (some ⟨wb, wof, none⟩) wl wc] 27)) wx → (wx.cell? ⟨fb, fof + v, none⟩ = some (.int .i64 fv) ∧ wx.cell? ⟨tb, tof + i, none⟩ = some (.int .i64 to) ∧ wx.cell? ⟨wb, wof + i, none⟩ = some (.int .i64 wt) ∧ ((i : Int) ≠ fv → wx.cell? ⟨tb, tof + j, none⟩ = some (.int .i64 tp))) ∧ (wx.cell? ⟨w.heap.size, 0, none⟩ = some (.slice (some ⟨fb, fof, none⟩) (n + 1) fc) ∧ wx.cell? ⟨w.heap.size, 1, none⟩ = some (.slice (some ⟨tb, tof, none⟩) tl tc) ∧ wx.cell? ⟨w.heap.size, 2, none⟩ = some (.slice (some ⟨wb, wof, none⟩) wl wc)) ∧ (fb < wx.heap.size ∧ tb < wx.heap.size ∧ wb < wx.heap.size ∧ w.heap.size < wx.heap.size) ∧ Below w.heap.size w wx) := fun wx h => by
    have hb : Below w.heap.size w wx := HB.out.trans (h.mono (by omega))
    have hbx : wx.heap[w.heap.size]? = some _ := (h.block _ (by omega)).trans HBX.out
    exact ⟨⟨(hb.cell (p := ⟨fb, _, none⟩) lf).trans hF, (hb.cell (p := ⟨tb, _, none⟩) lt).trans hT, (hb.cell (p := ⟨wb, _, none⟩) lw).trans hW, fun e => (hb.cell (p := ⟨tb, _, none⟩) lt).trans (hj e).2⟩, box3 hbx, ⟨Nat.lt_of_lt_of_le lf hb.size, Nat.lt_of_lt_of_le lt hb.size, Nat.lt_of_lt_of_le lw hb.size, lt_of_get hbx⟩, hb⟩
  have HIN : Hid (∀ wx, Calls Try.prog 82 #[.agg #[.slice (some ⟨fb, fof, none⟩) (n + 1) fc, .slice (some ⟨tb, tof, none⟩) tl tc, .slice (some ⟨wb, wof, none⟩) wl wc], .int .i64 to] wx fun e w' => e = .returned (.bool false) ∧ Below wx.heap.size wx w') := fun wx => by
    have h := isNode_calls (some ⟨fb, fof, none⟩) (some ⟨tb, tof, none⟩) (some ⟨wb, wof, none⟩) n fc tl tc wl wc (by omega) to wx
    rw [decide_eq_false h1] at h
    exact h
  have v1 : (v : Int) < ((n + 1 : Nat) : Int) := by omega
  have v2 : (v : Int) < (n : Int) + 1 := by omega
  have v3 : (0 : Int) ≤ (v : Int) := by omega
  have i1 : (i : Int) < (tl : Int) := by omega
  have i2 : (0 : Int) ≤ (i : Int) := by omega
  have i3 : (i : Int) < (wl : Int) := by omega
  have hl2 : tl ≤ 262144 := hl
  clear hj h1 hl hl2
  go_enter Try.func63, Try.ntmps63
  go_wp2_with (go_at_call 82; refine (HIN.out _).mono ?_; rintro e w1 ⟨rfl, hL1⟩; have HL1 : Hid (Below (w.heap.size + 1) (w.alloc (.cells #[.slice (some ⟨fb, fof, none⟩) (n + 1) fc, .slice (some ⟨tb, tof, none⟩) tl tc, .slice (some ⟨wb, wof, none⟩) wl wc] 27)) w1) := (hL1.mono (by simp)); obtain ⟨⟨g0, g1, g2, g9⟩, ⟨g3, g4, g5⟩, ⟨g6, g7, g8, g10⟩, hb⟩ := HK.out w1 HL1.out; have HBZ : Hid (Below w.heap.size w w1) := hb; clear hL1 hb g9)
  go_ret
  exact ⟨rfl, HBZ.out⟩

set_option maxRecDepth 100000 in
set_option maxHeartbeats 2000000 in
theorem arc_b (fb fof tb tof wb wof n fc tl tc wl wc v i j : Nat) (fv to tp wt : Int) (w : World) (hn : n ≤ 262144) (hl : tl ≤ 262144) (hv : v < n) (hi : i < tl) (hw : i < wl) (hj : (i : Int) ≠ fv → i = j + 1 ∧ w.cell? ⟨tb, tof + j, none⟩ = some (.int .i64 tp))
    (hF : w.cell? ⟨fb, fof + v, none⟩ = some (.int .i64 fv)) (hT : w.cell? ⟨tb, tof + i, none⟩ = some (.int .i64 to)) (hW : w.cell? ⟨wb, wof + i, none⟩ = some (.int .i64 wt)) (lf : fb < w.heap.size) (lt : tb < w.heap.size) (lw : wb < w.heap.size)
    (h1 : 0 ≤ to ∧ to < (n : Int)) (h2 : to = (v : Int)) :
    Calls Try.prog 63 #[.agg #[.slice (some ⟨fb, fof, none⟩) (n + 1) fc, .slice (some ⟨tb, tof, none⟩) tl tc, .slice (some ⟨wb, wof, none⟩) wl wc], .int .i64 v, .int .i64 i] w fun e w' => e = .returned (numV (14)) ∧ Below w.heap.size w w' := by
  have HB : Hid (Below w.heap.size w (w.alloc (.cells #[.slice (some ⟨fb, fof, none⟩) (n + 1) fc, .slice (some ⟨tb, tof, none⟩) tl tc, .slice (some ⟨wb, wof, none⟩) wl wc] 27))) := (Below.refl _ w).alloc (Nat.le_refl _) _
  have HBX : Hid ((w.alloc (.cells #[.slice (some ⟨fb, fof, none⟩) (n + 1) fc, .slice (some ⟨tb, tof, none⟩) tl tc, .slice (some ⟨wb, wof, none⟩) wl wc] 27)).heap[w.heap.size]? = some (.cells #[.slice (some ⟨fb, fof, none⟩) (n + 1) fc, .slice (some ⟨tb, tof, none⟩) tl tc, .slice (some ⟨wb, wof, none⟩) wl wc] 27)) := heap_new _ _
  have HK : Hid (∀ wx, Below (w.heap.size + 1) (w.alloc (.cells #[.slice (some ⟨fb, fof, none⟩) (n + 1) fc, .slice (some ⟨tb, tof, none⟩) tl tc, .slice (some ⟨wb, wof, none⟩) wl wc] 27)) wx → (wx.cell? ⟨fb, fof + v, none⟩ = some (.int .i64 fv) ∧ wx.cell? ⟨tb, tof + i, none⟩ = some (.int .i64 to) ∧ wx.cell? ⟨wb, wof + i, none⟩ = some (.int .i64 wt) ∧ ((i : Int) ≠ fv → wx.cell? ⟨tb, tof + j, none⟩ = some (.int .i64 tp))) ∧ (wx.cell? ⟨w.heap.size, 0, none⟩ = some (.slice (some ⟨fb, fof, none⟩) (n + 1) fc) ∧ wx.cell? ⟨w.heap.size, 1, none⟩ = some (.slice (some ⟨tb, tof, none⟩) tl tc) ∧ wx.cell? ⟨w.heap.size, 2, none⟩ = some (.slice (some ⟨wb, wof, none⟩) wl wc)) ∧ (fb < wx.heap.size ∧ tb < wx.heap.size ∧ wb < wx.heap.size ∧ w.heap.size < wx.heap.size) ∧ Below w.heap.size w wx) := fun wx h => by
    have hb : Below w.heap.size w wx := HB.out.trans (h.mono (by omega))
    have hbx : wx.heap[w.heap.size]? = some _ := (h.block _ (by omega)).trans HBX.out
    exact ⟨⟨(hb.cell (p := ⟨fb, _, none⟩) lf).trans hF, (hb.cell (p := ⟨tb, _, none⟩) lt).trans hT, (hb.cell (p := ⟨wb, _, none⟩) lw).trans hW, fun e => (hb.cell (p := ⟨tb, _, none⟩) lt).trans (hj e).2⟩, box3 hbx, ⟨Nat.lt_of_lt_of_le lf hb.size, Nat.lt_of_lt_of_le lt hb.size, Nat.lt_of_lt_of_le lw hb.size, lt_of_get hbx⟩, hb⟩
  have HIN : Hid (∀ wx, Calls Try.prog 82 #[.agg #[.slice (some ⟨fb, fof, none⟩) (n + 1) fc, .slice (some ⟨tb, tof, none⟩) tl tc, .slice (some ⟨wb, wof, none⟩) wl wc], .int .i64 to] wx fun e w' => e = .returned (.bool true) ∧ Below wx.heap.size wx w') := fun wx => by
    have h := isNode_calls (some ⟨fb, fof, none⟩) (some ⟨tb, tof, none⟩) (some ⟨wb, wof, none⟩) n fc tl tc wl wc (by omega) to wx
    rw [decide_eq_true h1] at h
    exact h
  have v1 : (v : Int) < ((n + 1 : Nat) : Int) := by omega
  have v2 : (v : Int) < (n : Int) + 1 := by omega
  have v3 : (0 : Int) ≤ (v : Int) := by omega
  have i1 : (i : Int) < (tl : Int) := by omega
  have i2 : (0 : Int) ≤ (i : Int) := by omega
  have i3 : (i : Int) < (wl : Int) := by omega
  subst h2
  have hl2 : tl ≤ 262144 := hl
  clear hj h1 hl hl2
  go_enter Try.func63, Try.ntmps63
  go_wp2_with (go_at_call 82; refine (HIN.out _).mono ?_; rintro e w1 ⟨rfl, hL1⟩; have HL1 : Hid (Below (w.heap.size + 1) (w.alloc (.cells #[.slice (some ⟨fb, fof, none⟩) (n + 1) fc, .slice (some ⟨tb, tof, none⟩) tl tc, .slice (some ⟨wb, wof, none⟩) wl wc] 27)) w1) := (hL1.mono (by simp)); obtain ⟨⟨g0, g1, g2, g9⟩, ⟨g3, g4, g5⟩, ⟨g6, g7, g8, g10⟩, hb⟩ := HK.out w1 HL1.out; have HBZ : Hid (Below w.heap.size w w1) := hb; clear hL1 hb g9)
  go_ret
  exact ⟨rfl, HBZ.out⟩

set_option maxRecDepth 100000 in
set_option maxHeartbeats 2000000 in
theorem arc_c (fb fof tb tof wb wof n fc tl tc wl wc v i j : Nat) (fv to tp wt : Int) (w : World) (hn : n ≤ 262144) (hl : tl ≤ 262144) (hv : v < n) (hi : i < tl) (hw : i < wl) (hj : (i : Int) ≠ fv → i = j + 1 ∧ w.cell? ⟨tb, tof + j, none⟩ = some (.int .i64 tp))
    (hF : w.cell? ⟨fb, fof + v, none⟩ = some (.int .i64 fv)) (hT : w.cell? ⟨tb, tof + i, none⟩ = some (.int .i64 to)) (hW : w.cell? ⟨wb, wof + i, none⟩ = some (.int .i64 wt)) (lf : fb < w.heap.size) (lt : tb < w.heap.size) (lw : wb < w.heap.size)
    (h1 : 0 ≤ to ∧ to < (n : Int)) (h2 : ¬ to = (v : Int)) (h3 : ¬ (i : Int) = fv) (h4 : to ≤ tp) :
    Calls Try.prog 63 #[.agg #[.slice (some ⟨fb, fof, none⟩) (n + 1) fc, .slice (some ⟨tb, tof, none⟩) tl tc, .slice (some ⟨wb, wof, none⟩) wl wc], .int .i64 v, .int .i64 i] w fun e w' => e = .returned (numV (14)) ∧ Below w.heap.size w w' := by
  have HB : Hid (Below w.heap.size w (w.alloc (.cells #[.slice (some ⟨fb, fof, none⟩) (n + 1) fc, .slice (some ⟨tb, tof, none⟩) tl tc, .slice (some ⟨wb, wof, none⟩) wl wc] 27))) := (Below.refl _ w).alloc (Nat.le_refl _) _
  have HBX : Hid ((w.alloc (.cells #[.slice (some ⟨fb, fof, none⟩) (n + 1) fc, .slice (some ⟨tb, tof, none⟩) tl tc, .slice (some ⟨wb, wof, none⟩) wl wc] 27)).heap[w.heap.size]? = some (.cells #[.slice (some ⟨fb, fof, none⟩) (n + 1) fc, .slice (some ⟨tb, tof, none⟩) tl tc, .slice (some ⟨wb, wof, none⟩) wl wc] 27)) := heap_new _ _
  have HK : Hid (∀ wx, Below (w.heap.size + 1) (w.alloc (.cells #[.slice (some ⟨fb, fof, none⟩) (n + 1) fc, .slice (some ⟨tb, tof, none⟩) tl tc, .slice (some ⟨wb, wof, none⟩) wl wc] 27)) wx → (wx.cell? ⟨fb, fof + v, none⟩ = some (.int .i64 fv) ∧ wx.cell? ⟨tb, tof + i, none⟩ = some (.int .i64 to) ∧ wx.cell? ⟨wb, wof + i, none⟩ = some (.int .i64 wt) ∧ ((i : Int) ≠ fv → wx.cell? ⟨tb, tof + j, none⟩ = some (.int .i64 tp))) ∧ (wx.cell? ⟨w.heap.size, 0, none⟩ = some (.slice (some ⟨fb, fof, none⟩) (n + 1) fc) ∧ wx.cell? ⟨w.heap.size, 1, none⟩ = some (.slice (some ⟨tb, tof, none⟩) tl tc) ∧ wx.cell? ⟨w.heap.size, 2, none⟩ = some (.slice (some ⟨wb, wof, none⟩) wl wc)) ∧ (fb < wx.heap.size ∧ tb < wx.heap.size ∧ wb < wx.heap.size ∧ w.heap.size < wx.heap.size) ∧ Below w.heap.size w wx) := fun wx h => by
    have hb : Below w.heap.size w wx := HB.out.trans (h.mono (by omega))
    have hbx : wx.heap[w.heap.size]? = some _ := (h.block _ (by omega)).trans HBX.out
    exact ⟨⟨(hb.cell (p := ⟨fb, _, none⟩) lf).trans hF, (hb.cell (p := ⟨tb, _, none⟩) lt).trans hT, (hb.cell (p := ⟨wb, _, none⟩) lw).trans hW, fun e => (hb.cell (p := ⟨tb, _, none⟩) lt).trans (hj e).2⟩, box3 hbx, ⟨Nat.lt_of_lt_of_le lf hb.size, Nat.lt_of_lt_of_le lt hb.size, Nat.lt_of_lt_of_le lw hb.size, lt_of_get hbx⟩, hb⟩
  have HIN : Hid (∀ wx, Calls Try.prog 82 #[.agg #[.slice (some ⟨fb, fof, none⟩) (n + 1) fc, .slice (some ⟨tb, tof, none⟩) tl tc, .slice (some ⟨wb, wof, none⟩) wl wc], .int .i64 to] wx fun e w' => e = .returned (.bool true) ∧ Below wx.heap.size wx w') := fun wx => by
    have h := isNode_calls (some ⟨fb, fof, none⟩) (some ⟨tb, tof, none⟩) (some ⟨wb, wof, none⟩) n fc tl tc wl wc (by omega) to wx
    rw [decide_eq_true h1] at h
    exact h
  have v1 : (v : Int) < ((n + 1 : Nat) : Int) := by omega
  have v2 : (v : Int) < (n : Int) + 1 := by omega
  have v3 : (0 : Int) ≤ (v : Int) := by omega
  have i1 : (i : Int) < (tl : Int) := by omega
  have i2 : (0 : Int) ≤ (i : Int) := by omega
  have i3 : (i : Int) < (wl : Int) := by omega
  have hj0 : i = j + 1 := (hj h3).1
  have j1 : IntKind.i64.wrap ((i : Int) - 1) = (j : Int) := by rw [IntKind.wrap_i64] <;> omega
  have j2 : (j : Int) < (tl : Int) := by omega
  have j3 : (0 : Int) ≤ (j : Int) := by omega
  have j4 := (hj h3).2
  clear hj0
  have h3b : ((i : Int) == fv) = false := beq_eq_false_iff_ne.mpr h3
  have hl2 : tl ≤ 262144 := hl
  clear hj h1 hl hl2
  go_enter Try.func63, Try.ntmps63
  go_wp2_with (go_at_call 82; refine (HIN.out _).mono ?_; rintro e w1 ⟨rfl, hL1⟩; have HL1 : Hid (Below (w.heap.size + 1) (w.alloc (.cells #[.slice (some ⟨fb, fof, none⟩) (n + 1) fc, .slice (some ⟨tb, tof, none⟩) tl tc, .slice (some ⟨wb, wof, none⟩) wl wc] 27)) w1) := (hL1.mono (by simp)); obtain ⟨⟨g0, g1, g2, g9⟩, ⟨g3, g4, g5⟩, ⟨g6, g7, g8, g10⟩, hb⟩ := HK.out w1 HL1.out; have HBZ : Hid (Below w.heap.size w w1) := hb; clear hL1 hb; have g11 := g9 h3; clear g9)
  go_ret
  exact ⟨rfl, HBZ.out⟩

set_option maxRecDepth 100000 in
set_option maxHeartbeats 2000000 in
theorem arc_d1 (fb fof tb tof wb wof n fc tl tc wl wc v i j : Nat) (fv to tp wt : Int) (w : World) (hn : n ≤ 262144) (hl : tl ≤ 262144) (hv : v < n) (hi : i < tl) (hw : i < wl) (hj : (i : Int) ≠ fv → i = j + 1 ∧ w.cell? ⟨tb, tof + j, none⟩ = some (.int .i64 tp))
    (hF : w.cell? ⟨fb, fof + v, none⟩ = some (.int .i64 fv)) (hT : w.cell? ⟨tb, tof + i, none⟩ = some (.int .i64 to)) (hW : w.cell? ⟨wb, wof + i, none⟩ = some (.int .i64 wt)) (lf : fb < w.heap.size) (lt : tb < w.heap.size) (lw : wb < w.heap.size)
    (h1 : 0 ≤ to ∧ to < (n : Int)) (h2 : ¬ to = (v : Int)) (h3 : (i : Int) = fv) (h5 : wt < 0) :
    Calls Try.prog 63 #[.agg #[.slice (some ⟨fb, fof, none⟩) (n + 1) fc, .slice (some ⟨tb, tof, none⟩) tl tc, .slice (some ⟨wb, wof, none⟩) wl wc], .int .i64 v, .int .i64 i] w fun e w' => e = .returned (numV (8)) ∧ Below w.heap.size w w' := by
  have HB : Hid (Below w.heap.size w (w.alloc (.cells #[.slice (some ⟨fb, fof, none⟩) (n + 1) fc, .slice (some ⟨tb, tof, none⟩) tl tc, .slice (some ⟨wb, wof, none⟩) wl wc] 27))) := (Below.refl _ w).alloc (Nat.le_refl _) _
  have HBX : Hid ((w.alloc (.cells #[.slice (some ⟨fb, fof, none⟩) (n + 1) fc, .slice (some ⟨tb, tof, none⟩) tl tc, .slice (some ⟨wb, wof, none⟩) wl wc] 27)).heap[w.heap.size]? = some (.cells #[.slice (some ⟨fb, fof, none⟩) (n + 1) fc, .slice (some ⟨tb, tof, none⟩) tl tc, .slice (some ⟨wb, wof, none⟩) wl wc] 27)) := heap_new _ _
  have HK : Hid (∀ wx, Below (w.heap.size + 1) (w.alloc (.cells #[.slice (some ⟨fb, fof, none⟩) (n + 1) fc, .slice (some ⟨tb, tof, none⟩) tl tc, .slice (some ⟨wb, wof, none⟩) wl wc] 27)) wx → (wx.cell? ⟨fb, fof + v, none⟩ = some (.int .i64 fv) ∧ wx.cell? ⟨tb, tof + i, none⟩ = some (.int .i64 to) ∧ wx.cell? ⟨wb, wof + i, none⟩ = some (.int .i64 wt) ∧ ((i : Int) ≠ fv → wx.cell? ⟨tb, tof + j, none⟩ = some (.int .i64 tp))) ∧ (wx.cell? ⟨w.heap.size, 0, none⟩ = some (.slice (some ⟨fb, fof, none⟩) (n + 1) fc) ∧ wx.cell? ⟨w.heap.size, 1, none⟩ = some (.slice (some ⟨tb, tof, none⟩) tl tc) ∧ wx.cell? ⟨w.heap.size, 2, none⟩ = some (.slice (some ⟨wb, wof, none⟩) wl wc)) ∧ (fb < wx.heap.size ∧ tb < wx.heap.size ∧ wb < wx.heap.size ∧ w.heap.size < wx.heap.size) ∧ Below w.heap.size w wx) := fun wx h => by
    have hb : Below w.heap.size w wx := HB.out.trans (h.mono (by omega))
    have hbx : wx.heap[w.heap.size]? = some _ := (h.block _ (by omega)).trans HBX.out
    exact ⟨⟨(hb.cell (p := ⟨fb, _, none⟩) lf).trans hF, (hb.cell (p := ⟨tb, _, none⟩) lt).trans hT, (hb.cell (p := ⟨wb, _, none⟩) lw).trans hW, fun e => (hb.cell (p := ⟨tb, _, none⟩) lt).trans (hj e).2⟩, box3 hbx, ⟨Nat.lt_of_lt_of_le lf hb.size, Nat.lt_of_lt_of_le lt hb.size, Nat.lt_of_lt_of_le lw hb.size, lt_of_get hbx⟩, hb⟩
  have HIN : Hid (∀ wx, Calls Try.prog 82 #[.agg #[.slice (some ⟨fb, fof, none⟩) (n + 1) fc, .slice (some ⟨tb, tof, none⟩) tl tc, .slice (some ⟨wb, wof, none⟩) wl wc], .int .i64 to] wx fun e w' => e = .returned (.bool true) ∧ Below wx.heap.size wx w') := fun wx => by
    have h := isNode_calls (some ⟨fb, fof, none⟩) (some ⟨tb, tof, none⟩) (some ⟨wb, wof, none⟩) n fc tl tc wl wc (by omega) to wx
    rw [decide_eq_true h1] at h
    exact h
  have v1 : (v : Int) < ((n + 1 : Nat) : Int) := by omega
  have v2 : (v : Int) < (n : Int) + 1 := by omega
  have v3 : (0 : Int) ≤ (v : Int) := by omega
  have i1 : (i : Int) < (tl : Int) := by omega
  have i2 : (0 : Int) ≤ (i : Int) := by omega
  have i3 : (i : Int) < (wl : Int) := by omega
  subst h3
  have hl2 : tl ≤ 262144 := hl
  clear hj h1 hl hl2
  go_enter Try.func63, Try.ntmps63
  go_wp2_with (go_at_call 82; refine (HIN.out _).mono ?_; rintro e w1 ⟨rfl, hL1⟩; have HL1 : Hid (Below (w.heap.size + 1) (w.alloc (.cells #[.slice (some ⟨fb, fof, none⟩) (n + 1) fc, .slice (some ⟨tb, tof, none⟩) tl tc, .slice (some ⟨wb, wof, none⟩) wl wc] 27)) w1) := (hL1.mono (by simp)); obtain ⟨⟨g0, g1, g2, g9⟩, ⟨g3, g4, g5⟩, ⟨g6, g7, g8, g10⟩, hb⟩ := HK.out w1 HL1.out; have HBZ : Hid (Below w.heap.size w w1) := hb; clear hL1 hb g9)
  go_ret
  exact ⟨rfl, HBZ.out⟩

set_option maxRecDepth 100000 in
set_option maxHeartbeats 2000000 in
theorem arc_d2 (fb fof tb tof wb wof n fc tl tc wl wc v i j : Nat) (fv to tp wt : Int) (w : World) (hn : n ≤ 262144) (hl : tl ≤ 262144) (hv : v < n) (hi : i < tl) (hw : i < wl) (hj : (i : Int) ≠ fv → i = j + 1 ∧ w.cell? ⟨tb, tof + j, none⟩ = some (.int .i64 tp))
    (hF : w.cell? ⟨fb, fof + v, none⟩ = some (.int .i64 fv)) (hT : w.cell? ⟨tb, tof + i, none⟩ = some (.int .i64 to)) (hW : w.cell? ⟨wb, wof + i, none⟩ = some (.int .i64 wt)) (lf : fb < w.heap.size) (lt : tb < w.heap.size) (lw : wb < w.heap.size)
    (h1 : 0 ≤ to ∧ to < (n : Int)) (h2 : ¬ to = (v : Int)) (h3 : (i : Int) = fv) (h5 : ¬ wt < 0) (h6 : 2147483647 < wt) :
    Calls Try.prog 63 #[.agg #[.slice (some ⟨fb, fof, none⟩) (n + 1) fc, .slice (some ⟨tb, tof, none⟩) tl tc, .slice (some ⟨wb, wof, none⟩) wl wc], .int .i64 v, .int .i64 i] w fun e w' => e = .returned (numV (8)) ∧ Below w.heap.size w w' := by
  have HB : Hid (Below w.heap.size w (w.alloc (.cells #[.slice (some ⟨fb, fof, none⟩) (n + 1) fc, .slice (some ⟨tb, tof, none⟩) tl tc, .slice (some ⟨wb, wof, none⟩) wl wc] 27))) := (Below.refl _ w).alloc (Nat.le_refl _) _
  have HBX : Hid ((w.alloc (.cells #[.slice (some ⟨fb, fof, none⟩) (n + 1) fc, .slice (some ⟨tb, tof, none⟩) tl tc, .slice (some ⟨wb, wof, none⟩) wl wc] 27)).heap[w.heap.size]? = some (.cells #[.slice (some ⟨fb, fof, none⟩) (n + 1) fc, .slice (some ⟨tb, tof, none⟩) tl tc, .slice (some ⟨wb, wof, none⟩) wl wc] 27)) := heap_new _ _
  have HK : Hid (∀ wx, Below (w.heap.size + 1) (w.alloc (.cells #[.slice (some ⟨fb, fof, none⟩) (n + 1) fc, .slice (some ⟨tb, tof, none⟩) tl tc, .slice (some ⟨wb, wof, none⟩) wl wc] 27)) wx → (wx.cell? ⟨fb, fof + v, none⟩ = some (.int .i64 fv) ∧ wx.cell? ⟨tb, tof + i, none⟩ = some (.int .i64 to) ∧ wx.cell? ⟨wb, wof + i, none⟩ = some (.int .i64 wt) ∧ ((i : Int) ≠ fv → wx.cell? ⟨tb, tof + j, none⟩ = some (.int .i64 tp))) ∧ (wx.cell? ⟨w.heap.size, 0, none⟩ = some (.slice (some ⟨fb, fof, none⟩) (n + 1) fc) ∧ wx.cell? ⟨w.heap.size, 1, none⟩ = some (.slice (some ⟨tb, tof, none⟩) tl tc) ∧ wx.cell? ⟨w.heap.size, 2, none⟩ = some (.slice (some ⟨wb, wof, none⟩) wl wc)) ∧ (fb < wx.heap.size ∧ tb < wx.heap.size ∧ wb < wx.heap.size ∧ w.heap.size < wx.heap.size) ∧ Below w.heap.size w wx) := fun wx h => by
    have hb : Below w.heap.size w wx := HB.out.trans (h.mono (by omega))
    have hbx : wx.heap[w.heap.size]? = some _ := (h.block _ (by omega)).trans HBX.out
    exact ⟨⟨(hb.cell (p := ⟨fb, _, none⟩) lf).trans hF, (hb.cell (p := ⟨tb, _, none⟩) lt).trans hT, (hb.cell (p := ⟨wb, _, none⟩) lw).trans hW, fun e => (hb.cell (p := ⟨tb, _, none⟩) lt).trans (hj e).2⟩, box3 hbx, ⟨Nat.lt_of_lt_of_le lf hb.size, Nat.lt_of_lt_of_le lt hb.size, Nat.lt_of_lt_of_le lw hb.size, lt_of_get hbx⟩, hb⟩
  have HIN : Hid (∀ wx, Calls Try.prog 82 #[.agg #[.slice (some ⟨fb, fof, none⟩) (n + 1) fc, .slice (some ⟨tb, tof, none⟩) tl tc, .slice (some ⟨wb, wof, none⟩) wl wc], .int .i64 to] wx fun e w' => e = .returned (.bool true) ∧ Below wx.heap.size wx w') := fun wx => by
    have h := isNode_calls (some ⟨fb, fof, none⟩) (some ⟨tb, tof, none⟩) (some ⟨wb, wof, none⟩) n fc tl tc wl wc (by omega) to wx
    rw [decide_eq_true h1] at h
    exact h
  have v1 : (v : Int) < ((n + 1 : Nat) : Int) := by omega
  have v2 : (v : Int) < (n : Int) + 1 := by omega
  have v3 : (0 : Int) ≤ (v : Int) := by omega
  have i1 : (i : Int) < (tl : Int) := by omega
  have i2 : (0 : Int) ≤ (i : Int) := by omega
  have i3 : (i : Int) < (wl : Int) := by omega
  subst h3
  have h7 := h5
  have hl2 : tl ≤ 262144 := hl
  clear hj h1 hl hl2
  go_enter Try.func63, Try.ntmps63
  go_wp2_with (go_at_call 82; refine (HIN.out _).mono ?_; rintro e w1 ⟨rfl, hL1⟩; have HL1 : Hid (Below (w.heap.size + 1) (w.alloc (.cells #[.slice (some ⟨fb, fof, none⟩) (n + 1) fc, .slice (some ⟨tb, tof, none⟩) tl tc, .slice (some ⟨wb, wof, none⟩) wl wc] 27)) w1) := (hL1.mono (by simp)); obtain ⟨⟨g0, g1, g2, g9⟩, ⟨g3, g4, g5⟩, ⟨g6, g7, g8, g10⟩, hb⟩ := HK.out w1 HL1.out; have HBZ : Hid (Below w.heap.size w w1) := hb; clear hL1 hb g9)
  go_ret
  exact ⟨rfl, HBZ.out⟩

set_option maxRecDepth 100000 in
set_option maxHeartbeats 2000000 in
theorem arc_d3 (fb fof tb tof wb wof n fc tl tc wl wc v i j : Nat) (fv to tp wt : Int) (w : World) (hn : n ≤ 262144) (hl : tl ≤ 262144) (hv : v < n) (hi : i < tl) (hw : i < wl) (hj : (i : Int) ≠ fv → i = j + 1 ∧ w.cell? ⟨tb, tof + j, none⟩ = some (.int .i64 tp))
    (hF : w.cell? ⟨fb, fof + v, none⟩ = some (.int .i64 fv)) (hT : w.cell? ⟨tb, tof + i, none⟩ = some (.int .i64 to)) (hW : w.cell? ⟨wb, wof + i, none⟩ = some (.int .i64 wt)) (lf : fb < w.heap.size) (lt : tb < w.heap.size) (lw : wb < w.heap.size)
    (h1 : 0 ≤ to ∧ to < (n : Int)) (h2 : ¬ to = (v : Int)) (h3 : (i : Int) = fv) (h5 : ¬ wt < 0) (h6 : ¬ 2147483647 < wt) :
    Calls Try.prog 63 #[.agg #[.slice (some ⟨fb, fof, none⟩) (n + 1) fc, .slice (some ⟨tb, tof, none⟩) tl tc, .slice (some ⟨wb, wof, none⟩) wl wc], .int .i64 v, .int .i64 i] w fun e w' => e = .returned (numV (0)) ∧ Below w.heap.size w w' := by
  have HB : Hid (Below w.heap.size w (w.alloc (.cells #[.slice (some ⟨fb, fof, none⟩) (n + 1) fc, .slice (some ⟨tb, tof, none⟩) tl tc, .slice (some ⟨wb, wof, none⟩) wl wc] 27))) := (Below.refl _ w).alloc (Nat.le_refl _) _
  have HBX : Hid ((w.alloc (.cells #[.slice (some ⟨fb, fof, none⟩) (n + 1) fc, .slice (some ⟨tb, tof, none⟩) tl tc, .slice (some ⟨wb, wof, none⟩) wl wc] 27)).heap[w.heap.size]? = some (.cells #[.slice (some ⟨fb, fof, none⟩) (n + 1) fc, .slice (some ⟨tb, tof, none⟩) tl tc, .slice (some ⟨wb, wof, none⟩) wl wc] 27)) := heap_new _ _
  have HK : Hid (∀ wx, Below (w.heap.size + 1) (w.alloc (.cells #[.slice (some ⟨fb, fof, none⟩) (n + 1) fc, .slice (some ⟨tb, tof, none⟩) tl tc, .slice (some ⟨wb, wof, none⟩) wl wc] 27)) wx → (wx.cell? ⟨fb, fof + v, none⟩ = some (.int .i64 fv) ∧ wx.cell? ⟨tb, tof + i, none⟩ = some (.int .i64 to) ∧ wx.cell? ⟨wb, wof + i, none⟩ = some (.int .i64 wt) ∧ ((i : Int) ≠ fv → wx.cell? ⟨tb, tof + j, none⟩ = some (.int .i64 tp))) ∧ (wx.cell? ⟨w.heap.size, 0, none⟩ = some (.slice (some ⟨fb, fof, none⟩) (n + 1) fc) ∧ wx.cell? ⟨w.heap.size, 1, none⟩ = some (.slice (some ⟨tb, tof, none⟩) tl tc) ∧ wx.cell? ⟨w.heap.size, 2, none⟩ = some (.slice (some ⟨wb, wof, none⟩) wl wc)) ∧ (fb < wx.heap.size ∧ tb < wx.heap.size ∧ wb < wx.heap.size ∧ w.heap.size < wx.heap.size) ∧ Below w.heap.size w wx) := fun wx h => by
    have hb : Below w.heap.size w wx := HB.out.trans (h.mono (by omega))
    have hbx : wx.heap[w.heap.size]? = some _ := (h.block _ (by omega)).trans HBX.out
    exact ⟨⟨(hb.cell (p := ⟨fb, _, none⟩) lf).trans hF, (hb.cell (p := ⟨tb, _, none⟩) lt).trans hT, (hb.cell (p := ⟨wb, _, none⟩) lw).trans hW, fun e => (hb.cell (p := ⟨tb, _, none⟩) lt).trans (hj e).2⟩, box3 hbx, ⟨Nat.lt_of_lt_of_le lf hb.size, Nat.lt_of_lt_of_le lt hb.size, Nat.lt_of_lt_of_le lw hb.size, lt_of_get hbx⟩, hb⟩
  have HIN : Hid (∀ wx, Calls Try.prog 82 #[.agg #[.slice (some ⟨fb, fof, none⟩) (n + 1) fc, .slice (some ⟨tb, tof, none⟩) tl tc, .slice (some ⟨wb, wof, none⟩) wl wc], .int .i64 to] wx fun e w' => e = .returned (.bool true) ∧ Below wx.heap.size wx w') := fun wx => by
    have h := isNode_calls (some ⟨fb, fof, none⟩) (some ⟨tb, tof, none⟩) (some ⟨wb, wof, none⟩) n fc tl tc wl wc (by omega) to wx
    rw [decide_eq_true h1] at h
    exact h
  have v1 : (v : Int) < ((n + 1 : Nat) : Int) := by omega
  have v2 : (v : Int) < (n : Int) + 1 := by omega
  have v3 : (0 : Int) ≤ (v : Int) := by omega
  have i1 : (i : Int) < (tl : Int) := by omega
  have i2 : (0 : Int) ≤ (i : Int) := by omega
  have i3 : (i : Int) < (wl : Int) := by omega
  subst h3
  have hl2 : tl ≤ 262144 := hl
  clear hj h1 hl hl2
  go_enter Try.func63, Try.ntmps63
  go_wp2_with (go_at_call 82; refine (HIN.out _).mono ?_; rintro e w1 ⟨rfl, hL1⟩; have HL1 : Hid (Below (w.heap.size + 1) (w.alloc (.cells #[.slice (some ⟨fb, fof, none⟩) (n + 1) fc, .slice (some ⟨tb, tof, none⟩) tl tc, .slice (some ⟨wb, wof, none⟩) wl wc] 27)) w1) := (hL1.mono (by simp)); obtain ⟨⟨g0, g1, g2, g9⟩, ⟨g3, g4, g5⟩, ⟨g6, g7, g8, g10⟩, hb⟩ := HK.out w1 HL1.out; have HBZ : Hid (Below w.heap.size w w1) := hb; clear hL1 hb g9)
  go_ret
  exact ⟨rfl, HBZ.out⟩

set_option maxRecDepth 100000 in
set_option maxHeartbeats 2000000 in
theorem arc_e1 (fb fof tb tof wb wof n fc tl tc wl wc v i j : Nat) (fv to tp wt : Int) (w : World) (hn : n ≤ 262144) (hl : tl ≤ 262144) (hv : v < n) (hi : i < tl) (hw : i < wl) (hj : (i : Int) ≠ fv → i = j + 1 ∧ w.cell? ⟨tb, tof + j, none⟩ = some (.int .i64 tp))
    (hF : w.cell? ⟨fb, fof + v, none⟩ = some (.int .i64 fv)) (hT : w.cell? ⟨tb, tof + i, none⟩ = some (.int .i64 to)) (hW : w.cell? ⟨wb, wof + i, none⟩ = some (.int .i64 wt)) (lf : fb < w.heap.size) (lt : tb < w.heap.size) (lw : wb < w.heap.size)
    (h1 : 0 ≤ to ∧ to < (n : Int)) (h2 : ¬ to = (v : Int)) (h3 : ¬ (i : Int) = fv) (h4 : ¬ to ≤ tp) (h5 : wt < 0) :
    Calls Try.prog 63 #[.agg #[.slice (some ⟨fb, fof, none⟩) (n + 1) fc, .slice (some ⟨tb, tof, none⟩) tl tc, .slice (some ⟨wb, wof, none⟩) wl wc], .int .i64 v, .int .i64 i] w fun e w' => e = .returned (numV (8)) ∧ Below w.heap.size w w' := by
  have HB : Hid (Below w.heap.size w (w.alloc (.cells #[.slice (some ⟨fb, fof, none⟩) (n + 1) fc, .slice (some ⟨tb, tof, none⟩) tl tc, .slice (some ⟨wb, wof, none⟩) wl wc] 27))) := (Below.refl _ w).alloc (Nat.le_refl _) _
  have HBX : Hid ((w.alloc (.cells #[.slice (some ⟨fb, fof, none⟩) (n + 1) fc, .slice (some ⟨tb, tof, none⟩) tl tc, .slice (some ⟨wb, wof, none⟩) wl wc] 27)).heap[w.heap.size]? = some (.cells #[.slice (some ⟨fb, fof, none⟩) (n + 1) fc, .slice (some ⟨tb, tof, none⟩) tl tc, .slice (some ⟨wb, wof, none⟩) wl wc] 27)) := heap_new _ _
  have HK : Hid (∀ wx, Below (w.heap.size + 1) (w.alloc (.cells #[.slice (some ⟨fb, fof, none⟩) (n + 1) fc, .slice (some ⟨tb, tof, none⟩) tl tc, .slice (some ⟨wb, wof, none⟩) wl wc] 27)) wx → (wx.cell? ⟨fb, fof + v, none⟩ = some (.int .i64 fv) ∧ wx.cell? ⟨tb, tof + i, none⟩ = some (.int .i64 to) ∧ wx.cell? ⟨wb, wof + i, none⟩ = some (.int .i64 wt) ∧ ((i : Int) ≠ fv → wx.cell? ⟨tb, tof + j, none⟩ = some (.int .i64 tp))) ∧ (wx.cell? ⟨w.heap.size, 0, none⟩ = some (.slice (some ⟨fb, fof, none⟩) (n + 1) fc) ∧ wx.cell? ⟨w.heap.size, 1, none⟩ = some (.slice (some ⟨tb, tof, none⟩) tl tc) ∧ wx.cell? ⟨w.heap.size, 2, none⟩ = some (.slice (some ⟨wb, wof, none⟩) wl wc)) ∧ (fb < wx.heap.size ∧ tb < wx.heap.size ∧ wb < wx.heap.size ∧ w.heap.size < wx.heap.size) ∧ Below w.heap.size w wx) := fun wx h => by
    have hb : Below w.heap.size w wx := HB.out.trans (h.mono (by omega))
    have hbx : wx.heap[w.heap.size]? = some _ := (h.block _ (by omega)).trans HBX.out
    exact ⟨⟨(hb.cell (p := ⟨fb, _, none⟩) lf).trans hF, (hb.cell (p := ⟨tb, _, none⟩) lt).trans hT, (hb.cell (p := ⟨wb, _, none⟩) lw).trans hW, fun e => (hb.cell (p := ⟨tb, _, none⟩) lt).trans (hj e).2⟩, box3 hbx, ⟨Nat.lt_of_lt_of_le lf hb.size, Nat.lt_of_lt_of_le lt hb.size, Nat.lt_of_lt_of_le lw hb.size, lt_of_get hbx⟩, hb⟩
  have HIN : Hid (∀ wx, Calls Try.prog 82 #[.agg #[.slice (some ⟨fb, fof, none⟩) (n + 1) fc, .slice (some ⟨tb, tof, none⟩) tl tc, .slice (some ⟨wb, wof, none⟩) wl wc], .int .i64 to] wx fun e w' => e = .returned (.bool true) ∧ Below wx.heap.size wx w') := fun wx => by
    have h := isNode_calls (some ⟨fb, fof, none⟩) (some ⟨tb, tof, none⟩) (some ⟨wb, wof, none⟩) n fc tl tc wl wc (by omega) to wx
    rw [decide_eq_true h1] at h
    exact h
  have v1 : (v : Int) < ((n + 1 : Nat) : Int) := by omega
  have v2 : (v : Int) < (n : Int) + 1 := by omega
  have v3 : (0 : Int) ≤ (v : Int) := by omega
  have i1 : (i : Int) < (tl : Int) := by omega
  have i2 : (0 : Int) ≤ (i : Int) := by omega
  have i3 : (i : Int) < (wl : Int) := by omega
  have hj0 : i = j + 1 := (hj h3).1
  have j1 : IntKind.i64.wrap ((i : Int) - 1) = (j : Int) := by rw [IntKind.wrap_i64] <;> omega
  have j2 : (j : Int) < (tl : Int) := by omega
  have j3 : (0 : Int) ≤ (j : Int) := by omega
  have j4 := (hj h3).2
  clear hj0
  have hl2 : tl ≤ 262144 := hl
  clear hj h1 hl hl2
  go_enter Try.func63, Try.ntmps63
  go_wp2_with (go_at_call 82; refine (HIN.out _).mono ?_; rintro e w1 ⟨rfl, hL1⟩; have HL1 : Hid (Below (w.heap.size + 1) (w.alloc (.cells #[.slice (some ⟨fb, fof, none⟩) (n + 1) fc, .slice (some ⟨tb, tof, none⟩) tl tc, .slice (some ⟨wb, wof, none⟩) wl wc] 27)) w1) := (hL1.mono (by simp)); obtain ⟨⟨g0, g1, g2, g9⟩, ⟨g3, g4, g5⟩, ⟨g6, g7, g8, g10⟩, hb⟩ := HK.out w1 HL1.out; have HBZ : Hid (Below w.heap.size w w1) := hb; clear hL1 hb; have g11 := g9 h3; clear g9)
  go_ret
  exact ⟨rfl, HBZ.out⟩

set_option maxRecDepth 100000 in
set_option maxHeartbeats 2000000 in
theorem arc_e2 (fb fof tb tof wb wof n fc tl tc wl wc v i j : Nat) (fv to tp wt : Int) (w : World) (hn : n ≤ 262144) (hl : tl ≤ 262144) (hv : v < n) (hi : i < tl) (hw : i < wl) (hj : (i : Int) ≠ fv → i = j + 1 ∧ w.cell? ⟨tb, tof + j, none⟩ = some (.int .i64 tp))
    (hF : w.cell? ⟨fb, fof + v, none⟩ = some (.int .i64 fv)) (hT : w.cell? ⟨tb, tof + i, none⟩ = some (.int .i64 to)) (hW : w.cell? ⟨wb, wof + i, none⟩ = some (.int .i64 wt)) (lf : fb < w.heap.size) (lt : tb < w.heap.size) (lw : wb < w.heap.size)
    (h1 : 0 ≤ to ∧ to < (n : Int)) (h2 : ¬ to = (v : Int)) (h3 : ¬ (i : Int) = fv) (h4 : ¬ to ≤ tp) (h5 : ¬ wt < 0) (h6 : 2147483647 < wt) :
    Calls Try.prog 63 #[.agg #[.slice (some ⟨fb, fof, none⟩) (n + 1) fc, .slice (some ⟨tb, tof, none⟩) tl tc, .slice (some ⟨wb, wof, none⟩) wl wc], .int .i64 v, .int .i64 i] w fun e w' => e = .returned (numV (8)) ∧ Below w.heap.size w w' := by
  have HB : Hid (Below w.heap.size w (w.alloc (.cells #[.slice (some ⟨fb, fof, none⟩) (n + 1) fc, .slice (some ⟨tb, tof, none⟩) tl tc, .slice (some ⟨wb, wof, none⟩) wl wc] 27))) := (Below.refl _ w).alloc (Nat.le_refl _) _
  have HBX : Hid ((w.alloc (.cells #[.slice (some ⟨fb, fof, none⟩) (n + 1) fc, .slice (some ⟨tb, tof, none⟩) tl tc, .slice (some ⟨wb, wof, none⟩) wl wc] 27)).heap[w.heap.size]? = some (.cells #[.slice (some ⟨fb, fof, none⟩) (n + 1) fc, .slice (some ⟨tb, tof, none⟩) tl tc, .slice (some ⟨wb, wof, none⟩) wl wc] 27)) := heap_new _ _
  have HK : Hid (∀ wx, Below (w.heap.size + 1) (w.alloc (.cells #[.slice (some ⟨fb, fof, none⟩) (n + 1) fc, .slice (some ⟨tb, tof, none⟩) tl tc, .slice (some ⟨wb, wof, none⟩) wl wc] 27)) wx → (wx.cell? ⟨fb, fof + v, none⟩ = some (.int .i64 fv) ∧ wx.cell? ⟨tb, tof + i, none⟩ = some (.int .i64 to) ∧ wx.cell? ⟨wb, wof + i, none⟩ = some (.int .i64 wt) ∧ ((i : Int) ≠ fv → wx.cell? ⟨tb, tof + j, none⟩ = some (.int .i64 tp))) ∧ (wx.cell? ⟨w.heap.size, 0, none⟩ = some (.slice (some ⟨fb, fof, none⟩) (n + 1) fc) ∧ wx.cell? ⟨w.heap.size, 1, none⟩ = some (.slice (some ⟨tb, tof, none⟩) tl tc) ∧ wx.cell? ⟨w.heap.size, 2, none⟩ = some (.slice (some ⟨wb, wof, none⟩) wl wc)) ∧ (fb < wx.heap.size ∧ tb < wx.heap.size ∧ wb < wx.heap.size ∧ w.heap.size < wx.heap.size) ∧ Below w.heap.size w wx) := fun wx h => by
    have hb : Below w.heap.size w wx := HB.out.trans (h.mono (by omega))
    have hbx : wx.heap[w.heap.size]? = some _ := (h.block _ (by omega)).trans HBX.out
    exact ⟨⟨(hb.cell (p := ⟨fb, _, none⟩) lf).trans hF, (hb.cell (p := ⟨tb, _, none⟩) lt).trans hT, (hb.cell (p := ⟨wb, _, none⟩) lw).trans hW, fun e => (hb.cell (p := ⟨tb, _, none⟩) lt).trans (hj e).2⟩, box3 hbx, ⟨Nat.lt_of_lt_of_le lf hb.size, Nat.lt_of_lt_of_le lt hb.size, Nat.lt_of_lt_of_le lw hb.size, lt_of_get hbx⟩, hb⟩
  have HIN : Hid (∀ wx, Calls Try.prog 82 #[.agg #[.slice (some ⟨fb, fof, none⟩) (n + 1) fc, .slice (some ⟨tb, tof, none⟩) tl tc, .slice (some ⟨wb, wof, none⟩) wl wc], .int .i64 to] wx fun e w' => e = .returned (.bool true) ∧ Below wx.heap.size wx w') := fun wx => by
    have h := isNode_calls (some ⟨fb, fof, none⟩) (some ⟨tb, tof, none⟩) (some ⟨wb, wof, none⟩) n fc tl tc wl wc (by omega) to wx
    rw [decide_eq_true h1] at h
    exact h
  have v1 : (v : Int) < ((n + 1 : Nat) : Int) := by omega
  have v2 : (v : Int) < (n : Int) + 1 := by omega
  have v3 : (0 : Int) ≤ (v : Int) := by omega
  have i1 : (i : Int) < (tl : Int) := by omega
  have i2 : (0 : Int) ≤ (i : Int) := by omega
  have i3 : (i : Int) < (wl : Int) := by omega
  have hj0 : i = j + 1 := (hj h3).1
  have j1 : IntKind.i64.wrap ((i : Int) - 1) = (j : Int) := by rw [IntKind.wrap_i64] <;> omega
  have j2 : (j : Int) < (tl : Int) := by omega
  have j3 : (0 : Int) ≤ (j : Int) := by omega
  have j4 := (hj h3).2
  clear hj0
  have h7 := h5
  have hl2 : tl ≤ 262144 := hl
  clear hj h1 hl hl2
  go_enter Try.func63, Try.ntmps63
  go_wp2_with (go_at_call 82; refine (HIN.out _).mono ?_; rintro e w1 ⟨rfl, hL1⟩; have HL1 : Hid (Below (w.heap.size + 1) (w.alloc (.cells #[.slice (some ⟨fb, fof, none⟩) (n + 1) fc, .slice (some ⟨tb, tof, none⟩) tl tc, .slice (some ⟨wb, wof, none⟩) wl wc] 27)) w1) := (hL1.mono (by simp)); obtain ⟨⟨g0, g1, g2, g9⟩, ⟨g3, g4, g5⟩, ⟨g6, g7, g8, g10⟩, hb⟩ := HK.out w1 HL1.out; have HBZ : Hid (Below w.heap.size w w1) := hb; clear hL1 hb; have g11 := g9 h3; clear g9)
  go_ret
  exact ⟨rfl, HBZ.out⟩

set_option maxRecDepth 100000 in
set_option maxHeartbeats 2000000 in
theorem arc_e3 (fb fof tb tof wb wof n fc tl tc wl wc v i j : Nat) (fv to tp wt : Int) (w : World) (hn : n ≤ 262144) (hl : tl ≤ 262144) (hv : v < n) (hi : i < tl) (hw : i < wl) (hj : (i : Int) ≠ fv → i = j + 1 ∧ w.cell? ⟨tb, tof + j, none⟩ = some (.int .i64 tp))
    (hF : w.cell? ⟨fb, fof + v, none⟩ = some (.int .i64 fv)) (hT : w.cell? ⟨tb, tof + i, none⟩ = some (.int .i64 to)) (hW : w.cell? ⟨wb, wof + i, none⟩ = some (.int .i64 wt)) (lf : fb < w.heap.size) (lt : tb < w.heap.size) (lw : wb < w.heap.size)
    (h1 : 0 ≤ to ∧ to < (n : Int)) (h2 : ¬ to = (v : Int)) (h3 : ¬ (i : Int) = fv) (h4 : ¬ to ≤ tp) (h5 : ¬ wt < 0) (h6 : ¬ 2147483647 < wt) :
    Calls Try.prog 63 #[.agg #[.slice (some ⟨fb, fof, none⟩) (n + 1) fc, .slice (some ⟨tb, tof, none⟩) tl tc, .slice (some ⟨wb, wof, none⟩) wl wc], .int .i64 v, .int .i64 i] w fun e w' => e = .returned (numV (0)) ∧ Below w.heap.size w w' := by
  have HB : Hid (Below w.heap.size w (w.alloc (.cells #[.slice (some ⟨fb, fof, none⟩) (n + 1) fc, .slice (some ⟨tb, tof, none⟩) tl tc, .slice (some ⟨wb, wof, none⟩) wl wc] 27))) := (Below.refl _ w).alloc (Nat.le_refl _) _
  have HBX : Hid ((w.alloc (.cells #[.slice (some ⟨fb, fof, none⟩) (n + 1) fc, .slice (some ⟨tb, tof, none⟩) tl tc, .slice (some ⟨wb, wof, none⟩) wl wc] 27)).heap[w.heap.size]? = some (.cells #[.slice (some ⟨fb, fof, none⟩) (n + 1) fc, .slice (some ⟨tb, tof, none⟩) tl tc, .slice (some ⟨wb, wof, none⟩) wl wc] 27)) := heap_new _ _
  have HK : Hid (∀ wx, Below (w.heap.size + 1) (w.alloc (.cells #[.slice (some ⟨fb, fof, none⟩) (n + 1) fc, .slice (some ⟨tb, tof, none⟩) tl tc, .slice (some ⟨wb, wof, none⟩) wl wc] 27)) wx → (wx.cell? ⟨fb, fof + v, none⟩ = some (.int .i64 fv) ∧ wx.cell? ⟨tb, tof + i, none⟩ = some (.int .i64 to) ∧ wx.cell? ⟨wb, wof + i, none⟩ = some (.int .i64 wt) ∧ ((i : Int) ≠ fv → wx.cell? ⟨tb, tof + j, none⟩ = some (.int .i64 tp))) ∧ (wx.cell? ⟨w.heap.size, 0, none⟩ = some (.slice (some ⟨fb, fof, none⟩) (n + 1) fc) ∧ wx.cell? ⟨w.heap.size, 1, none⟩ = some (.slice (some ⟨tb, tof, none⟩) tl tc) ∧ wx.cell? ⟨w.heap.size, 2, none⟩ = some (.slice (some ⟨wb, wof, none⟩) wl wc)) ∧ (fb < wx.heap.size ∧ tb < wx.heap.size ∧ wb < wx.heap.size ∧ w.heap.size < wx.heap.size) ∧ Below w.heap.size w wx) := fun wx h => by
    have hb : Below w.heap.size w wx := HB.out.trans (h.mono (by omega))
    have hbx : wx.heap[w.heap.size]? = some _ := (h.block _ (by omega)).trans HBX.out
    exact ⟨⟨(hb.cell (p := ⟨fb, _, none⟩) lf).trans hF, (hb.cell (p := ⟨tb, _, none⟩) lt).trans hT, (hb.cell (p := ⟨wb, _, none⟩) lw).trans hW, fun e => (hb.cell (p := ⟨tb, _, none⟩) lt).trans (hj e).2⟩, box3 hbx, ⟨Nat.lt_of_lt_of_le lf hb.size, Nat.lt_of_lt_of_le lt hb.size, Nat.lt_of_lt_of_le lw hb.size, lt_of_get hbx⟩, hb⟩
  have HIN : Hid (∀ wx, Calls Try.prog 82 #[.agg #[.slice (some ⟨fb, fof, none⟩) (n + 1) fc, .slice (some ⟨tb, tof, none⟩) tl tc, .slice (some ⟨wb, wof, none⟩) wl wc], .int .i64 to] wx fun e w' => e = .returned (.bool true) ∧ Below wx.heap.size wx w') := fun wx => by
    have h := isNode_calls (some ⟨fb, fof, none⟩) (some ⟨tb, tof, none⟩) (some ⟨wb, wof, none⟩) n fc tl tc wl wc (by omega) to wx
    rw [decide_eq_true h1] at h
    exact h
  have v1 : (v : Int) < ((n + 1 : Nat) : Int) := by omega
  have v2 : (v : Int) < (n : Int) + 1 := by omega
  have v3 : (0 : Int) ≤ (v : Int) := by omega
  have i1 : (i : Int) < (tl : Int) := by omega
  have i2 : (0 : Int) ≤ (i : Int) := by omega
  have i3 : (i : Int) < (wl : Int) := by omega
  have hj0 : i = j + 1 := (hj h3).1
  have j1 : IntKind.i64.wrap ((i : Int) - 1) = (j : Int) := by rw [IntKind.wrap_i64] <;> omega
  have j2 : (j : Int) < (tl : Int) := by omega
  have j3 : (0 : Int) ≤ (j : Int) := by omega
  have j4 := (hj h3).2
  clear hj0
  have hl2 : tl ≤ 262144 := hl
  clear hj h1 hl hl2
  go_enter Try.func63, Try.ntmps63
  go_wp2_with (go_at_call 82; refine (HIN.out _).mono ?_; rintro e w1 ⟨rfl, hL1⟩; have HL1 : Hid (Below (w.heap.size + 1) (w.alloc (.cells #[.slice (some ⟨fb, fof, none⟩) (n + 1) fc, .slice (some ⟨tb, tof, none⟩) tl tc, .slice (some ⟨wb, wof, none⟩) wl wc] 27)) w1) := (hL1.mono (by simp)); obtain ⟨⟨g0, g1, g2, g9⟩, ⟨g3, g4, g5⟩, ⟨g6, g7, g8, g10⟩, hb⟩ := HK.out w1 HL1.out; have HBZ : Hid (Below w.heap.size w w1) := hb; clear hL1 hb; have g11 := g9 h3; clear g9)
  go_ret
  exact ⟨rfl, HBZ.out⟩

theorem checkArc_csr (fb fof tb tof wb wof n fc tl tc wl wc v i j : Nat) (fv to tp wt : Int) (w : World) (hn : n ≤ 262144) (hl : tl ≤ 262144) (hv : v < n) (hi : i < tl) (hw : i < wl) (hj : (i : Int) ≠ fv → i = j + 1 ∧ w.cell? ⟨tb, tof + j, none⟩ = some (.int .i64 tp))
    (hF : w.cell? ⟨fb, fof + v, none⟩ = some (.int .i64 fv)) (hT : w.cell? ⟨tb, tof + i, none⟩ = some (.int .i64 to)) (hW : w.cell? ⟨wb, wof + i, none⟩ = some (.int .i64 wt)) (lf : fb < w.heap.size) (lt : tb < w.heap.size) (lw : wb < w.heap.size) :
    Calls Try.prog 63 #[.agg #[.slice (some ⟨fb, fof, none⟩) (n + 1) fc, .slice (some ⟨tb, tof, none⟩) tl tc, .slice (some ⟨wb, wof, none⟩) wl wc], .int .i64 v, .int .i64 i] w fun e w' => e = .returned (numV (arcNo n v i fv to tp wt)) ∧ Below w.heap.size w w' := by
  rcases arcNo_cases n v i fv to tp wt with ⟨h1, e⟩ | ⟨h1, h2, e⟩ | ⟨h1, h2, h3, h4, e⟩ | ⟨h1, h2, h3 | ⟨h3, h4⟩, ⟨h5, e⟩ | ⟨h5, h6, e⟩ | ⟨h5, h6, e⟩⟩
  · rw [e]; exact arc_a fb fof tb tof wb wof n fc tl tc wl wc v i j fv to tp wt w hn hl hv hi hw hj hF hT hW lf lt lw h1
  · rw [e]; exact arc_b fb fof tb tof wb wof n fc tl tc wl wc v i j fv to tp wt w hn hl hv hi hw hj hF hT hW lf lt lw h1 h2
  · rw [e]; exact arc_c fb fof tb tof wb wof n fc tl tc wl wc v i j fv to tp wt w hn hl hv hi hw hj hF hT hW lf lt lw h1 h2 h3 h4
  · rw [e]; exact arc_d1 fb fof tb tof wb wof n fc tl tc wl wc v i j fv to tp wt w hn hl hv hi hw hj hF hT hW lf lt lw h1 h2 h3 h5
  · rw [e]; exact arc_d2 fb fof tb tof wb wof n fc tl tc wl wc v i j fv to tp wt w hn hl hv hi hw hj hF hT hW lf lt lw h1 h2 h3 h5 h6
  · rw [e]; exact arc_d3 fb fof tb tof wb wof n fc tl tc wl wc v i j fv to tp wt w hn hl hv hi hw hj hF hT hW lf lt lw h1 h2 h3 h5 h6
  · rw [e]; exact arc_e1 fb fof tb tof wb wof n fc tl tc wl wc v i j fv to tp wt w hn hl hv hi hw hj hF hT hW lf lt lw h1 h2 h3 h4 h5
  · rw [e]; exact arc_e2 fb fof tb tof wb wof n fc tl tc wl wc v i j fv to tp wt w hn hl hv hi hw hj hF hT hW lf lt lw h1 h2 h3 h4 h5 h6
  · rw [e]; exact arc_e3 fb fof tb tof wb wof n fc tl tc wl wc v i j fv to tp wt w hn hl hv hi hw hj hF hT hW lf lt lw h1 h2 h3 h4 h5 h6
end Go.Proofs.Ytefcmpdnlbpjpaa
