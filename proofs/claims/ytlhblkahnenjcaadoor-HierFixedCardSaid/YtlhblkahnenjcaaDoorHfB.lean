/- the law HierFixed. (genhy.py) -/
import Derived.Test.YtlhblkahnenjcaaDoorHfD
namespace Go.Proofs.YtlhblkahnenjcaaDoor.Hi
open Go.RowKit Go.Extern Go.Shelf

attribute [local go_sem] Oper.semAt_some

theorem pl_one9 {w : World} {g : Nat} {k a : Int} (h : w.heap[g]? = some (.cells #[.int .i64 k, .int .i64 a] 62)) : HasPlaces w (.slice (some ⟨g, 0, none⟩) 1 1) [(k, a)] := by
  refine ⟨some ⟨g, 0, none⟩, 1, rfl, fun j p hj => ?_⟩
  rcases j with _ | j
  · obtain rfl : (k, a) = p := by simpa using hj
    exact ⟨g, 0, rfl, some_lt h, by simp [World.cell?, h], by simp [World.cell?, h]⟩
  · simp at hj
theorem ends_at {v : HV} {h : Hr} {i : Int} {x y : Int} {E : Int × List (Int × Int)} {w : World} (hH : HasH w v h) (hb1 : h.up.length ≤ 1152921504606846976) (hb2 : h.dn.length ≤ 1152921504606846976) (hb3 : h.node.length ≤ 1152921504606846976) (hE : (if chk h = (0, []) then endsE h i else (0, 0, chk h)) = (x, y, E)) :
    Calls Tryd.prog 10 #[hvl v h, .int .i64 i] w fun e w' => ∃ u, e = .returned (.tuple #[.int .i64 x, .int .i64 y, u]) ∧ IsTold w' E u ∧ Below w.heap.size w w' := by
  refine (ends_calls v h i w hH hb1 hb2 hb3).mono ?_
  rintro e w' ⟨x', y', u, rfl, hb, hu⟩
  rcases hu with ⟨hc, he, rfl⟩ | ⟨hc, he, ht⟩ | ⟨hc, rfl, rfl, ht⟩
  · rw [if_pos hc, ← he] at hE
    cases hE
    exact ⟨_, rfl, Or.inl ⟨rfl, rfl⟩, hb⟩
  · rw [if_pos hc, ← he] at hE
    cases hE
    exact ⟨_, rfl, ht, hb⟩
  · rw [if_neg hc] at hE
    cases hE
    exact ⟨_, rfl, ht, hb⟩
def wantH : Hr := ⟨[1, 0, 2], [0, 1, 1, 1], [⟨1, 4, 4294967295, 4294967295⟩], [0, 1, 2, 2], [⟨2, 1, 4294967295, 4294967295⟩, ⟨2, 5, 1, 0⟩]⟩
theorem turn_want : turnH three = wantH := by kernel_rfl
theorem short_want : Short wantH := ⟨by decide, by decide, by decide, by decide, by decide⟩
theorem like3 : Like3 three := ⟨rfl, rfl, rfl, rfl, rfl, by decide, by decide, by unfold Lk.ok; decide, by decide, by unfold Lk.ok; decide⟩
theorem make_a (wx : World) : (Instr.makeSlice 29 (.int .i64 524288) (.int .i64 524288)).run Tryd.prog wx = .ok (.slice (some ⟨wx.heap.size, 0, none⟩) 524288 524288) (wx.alloc (.cells (madeCells #[.int .u32 0, .int .u64 0, .int .u32 0, .int .u32 0] (524288 * 4)) 36)) := make_l 524288 (by decide) wx
theorem make_b (wx : World) : (Instr.makeSlice 29 (.int .i64 524289) (.int .i64 524289)).run Tryd.prog wx = .ok (.slice (some ⟨wx.heap.size, 0, none⟩) 524289 524289) (wx.alloc (.cells (madeCells #[.int .u32 0, .int .u64 0, .int .u32 0, .int .u32 0] (524289 * 4)) 36)) := make_l 524289 (by decide) wx
theorem told_zero {w : World} {u : Value} (h : IsTold w (0, []) u) : u = .nilIface := by
  rcases h with ⟨_, h⟩ | ⟨h, _⟩
  · exact h
  · exact absurd rfl h

set_option maxRecDepth 100000 in
set_option maxHeartbeats 16000000 in
theorem fixed_calls (w : World) (hty : HasType w) : Calls Tryd.prog 3 #[] w fun e w' => e = .returned (.bool true) ∧ Below w.heap.size w w' := by
  have HTY : Hid (∀ wx, Below w.heap.size w wx → HasType wx) := fun wx h => hty.keep h hty.pos
  clear hty
  go_enter Tryd.func3, Tryd.ntmps3
  go_wp2_with fail
  refine (awake10_calls w).mono ?_
  rintro e w0 ⟨rfl, hb⟩
  have HB0 : Hid (Below w.heap.size w w0) := hb
  clear hb
  go_wp2_with fail
  refine (E_calls 14 w0).mono ?_
  rintro e w1 ⟨rfl, hb⟩
  have HB1 : Hid (Below w.heap.size w w1) := btrH' HB0.out hb
  clear hb
  go_wp2_with fail
  refine (E_calls 8 w1).mono ?_
  rintro e w2 ⟨rfl, hb⟩
  obtain ⟨s, hs⟩ : ∃ s, w2.heap.size = s := ⟨_, rfl⟩
  obtain ⟨X0, hX⟩ : ∃ X, (w2.alloc (.cells #[.int .i64 14, .slice none 0 0] 25)).alloc (.cells #[.int .i64 8, .slice none 0 0] 25) = X := ⟨_, rfl⟩
  have HX0 : Hid ((w2.alloc (.cells #[.int .i64 14, .slice none 0 0] 25)).alloc (.cells #[.int .i64 8, .slice none 0 0] 25) = X0) := hX
  have F0 : Hid (∀ wx, Below X0.heap.size X0 wx → wx.heap[s]? = some (.cells #[.int .i64 14, .slice none 0 0] 25) ∧ wx.heap[s + 1]? = some (.cells #[.int .i64 8, .slice none 0 0] 25) ∧ Below w.heap.size w wx) := fun wx hx => by
    have g0 : X0.heap[s]? = some (.cells #[.int .i64 14, .slice none 0 0] 25) := by rw [← hX, ← hs]; exact (Below.heap_alloc _ _ _ (by simp)).trans (heap_newW _ _)
    have g1 : X0.heap[s + 1]? = some (.cells #[.int .i64 8, .slice none 0 0] 25) := by
      have g := heap_newW (w2.alloc (.cells #[.int .i64 14, .slice none 0 0] 25)) (.cells #[.int .i64 8, .slice none 0 0] 25)
      rw [World.size_alloc, hX, hs] at g
      exact g
    have g2 : Below w2.heap.size w2 X0 := by rw [← hX]; exact ((Below.refl _ _).alloc (Nat.le_refl _) _).alloc (by simp) _
    exact ⟨(hx.block _ (some_lt g0)).trans g0, (hx.block _ (some_lt g1)).trans g1, btrH' HB1.out (btrH' hb (btrH' g2 hx))⟩
  clear hb hX
  go_upto_region 4 with fail
  rw [HX0.out]
  clear HX0 hs
  go_wp2_with fail
  refine (three_own X0).mono ?_
  rintro e t1 ⟨b1, rfl, hl, h5, hb⟩
  obtain ⟨p1, hp⟩ : ∃ p, t1.heap.size = p := ⟨_, rfl⟩
  obtain ⟨V1, hV⟩ : ∃ V, t1.alloc (.cells #[.slice (some ⟨b1, 0, none⟩) 3 3, .slice (some ⟨b1 + 1, 0, none⟩) 4 4, .slice (some ⟨b1 + 2, 0, none⟩) 2 2, .slice (some ⟨b1 + 3, 0, none⟩) 4 4, .slice (some ⟨b1 + 4, 0, none⟩) 1 1] 31) = V := ⟨_, rfl⟩
  have HV : Hid (t1.alloc (.cells #[.slice (some ⟨b1, 0, none⟩) 3 3, .slice (some ⟨b1 + 1, 0, none⟩) 4 4, .slice (some ⟨b1 + 2, 0, none⟩) 2 2, .slice (some ⟨b1 + 3, 0, none⟩) 4 4, .slice (some ⟨b1 + 4, 0, none⟩) 1 1] 31) = V1) := hV
  have hbV : Below t1.heap.size t1 V1 := by rw [← hV]; exact (Below.refl _ _).alloc (Nat.le_refl _) _
  have h5V := h5.keep hbV
  have e5 : V1.heap[p1]? = some (.cells #[.slice (some ⟨b1, 0, none⟩) 3 3, .slice (some ⟨b1 + 1, 0, none⟩) 4 4, .slice (some ⟨b1 + 2, 0, none⟩) 2 2, .slice (some ⟨b1 + 3, 0, none⟩) 4 4, .slice (some ⟨b1 + 4, 0, none⟩) 1 1] 31) := by rw [← hV, ← hp]; exact heap_newW _ _
  have hXV : Below X0.heap.size X0 V1 := btrH' hb hbV
  have hlt : b1 + 4 < p1 := by have := some_lt h5.m; omega
  have HL1 : Hid (X0.heap.size ≤ b1 ∧ b1 + 4 < p1) := ⟨hl, hlt⟩
  have H5 : Hid (In5 V1 b1 three ∧ V1.heap[p1]? = some (.cells #[.slice (some ⟨b1, 0, none⟩) 3 3, .slice (some ⟨b1 + 1, 0, none⟩) 4 4, .slice (some ⟨b1 + 2, 0, none⟩) 2 2, .slice (some ⟨b1 + 3, 0, none⟩) 4 4, .slice (some ⟨b1 + 4, 0, none⟩) 1 1] 31) ∧ Below X0.heap.size X0 V1) := ⟨h5V, e5, hXV⟩
  clear hV h5 hb hbV h5V e5 hXV hl hlt
  go_upto_region 5 with fail
  rw [HV.out]
  clear HV hp
  obtain ⟨c0, c1, c2, c3, c4⟩ := five_cells H5.out.2.1
  have k0 : V1.cell? ⟨b1 + 2, 5, none⟩ = some (.int .u64 5) := by simp [World.cell?, H5.out.1.l]; rfl
  have f0 : V1.frozen? ⟨b1 + 2, 5, none⟩ = false := by simp [World.frozen?, H5.out.1.l]
  obtain ⟨X1, hX⟩ : ∃ X, V1.setCell ⟨b1 + 2, 5, none⟩ (.int .u64 6) = X := ⟨_, rfl⟩
  have HX : Hid (V1.setCell ⟨b1 + 2, 5, none⟩ (.int .u64 6) = X1) := hX
  have F1 : Hid (∀ wx, Below X1.heap.size X1 wx → wx.heap[p1]? = some (.cells #[.slice (some ⟨b1, 0, none⟩) 3 3, .slice (some ⟨b1 + 1, 0, none⟩) 4 4, .slice (some ⟨b1 + 2, 0, none⟩) 2 2, .slice (some ⟨b1 + 3, 0, none⟩) 4 4, .slice (some ⟨b1 + 4, 0, none⟩) 1 1] 31) ∧ In5 wx b1 hA ∧ Below X0.heap.size X0 wx) := fun wx hx => by
    have g1 : In5 X1 b1 hA := by rw [← hX]; exact setA H5.out.1
    have g2 : X1.heap[p1]? = some (.cells #[.slice (some ⟨b1, 0, none⟩) 3 3, .slice (some ⟨b1 + 1, 0, none⟩) 4 4, .slice (some ⟨b1 + 2, 0, none⟩) 2 2, .slice (some ⟨b1 + 3, 0, none⟩) 4 4, .slice (some ⟨b1 + 4, 0, none⟩) 1 1] 31) := by rw [← hX]; exact (Below.heap_setCell _ _ _ _ (by have := HL1.out.2; show p1 ≠ b1 + 2; omega)).trans H5.out.2.1
    have g3 : Below X0.heap.size X0 X1 := by rw [← hX]; exact H5.out.2.2.setCell (p := ⟨b1 + 2, 5, none⟩) (by have := HL1.out.1; show X0.heap.size ≤ b1 + 2; omega) _
    exact ⟨(hx.block _ (some_lt g2)).trans g2, g1.keep hx, btrH' g3 hx⟩
  clear hX H5
  go_wp2_with fail
  rw [HX.out]
  clear HX c0 c1 c2 c3 c4 k0 f0
  refine (three_own X1).mono ?_
  rintro e t2 ⟨b2, rfl, hl, h5, hb⟩
  obtain ⟨p2, hp⟩ : ∃ p, t2.heap.size = p := ⟨_, rfl⟩
  obtain ⟨V2, hV⟩ : ∃ V, t2.alloc (.cells #[.slice (some ⟨b2, 0, none⟩) 3 3, .slice (some ⟨b2 + 1, 0, none⟩) 4 4, .slice (some ⟨b2 + 2, 0, none⟩) 2 2, .slice (some ⟨b2 + 3, 0, none⟩) 4 4, .slice (some ⟨b2 + 4, 0, none⟩) 1 1] 31) = V := ⟨_, rfl⟩
  have HV : Hid (t2.alloc (.cells #[.slice (some ⟨b2, 0, none⟩) 3 3, .slice (some ⟨b2 + 1, 0, none⟩) 4 4, .slice (some ⟨b2 + 2, 0, none⟩) 2 2, .slice (some ⟨b2 + 3, 0, none⟩) 4 4, .slice (some ⟨b2 + 4, 0, none⟩) 1 1] 31) = V2) := hV
  have hbV : Below t2.heap.size t2 V2 := by rw [← hV]; exact (Below.refl _ _).alloc (Nat.le_refl _) _
  have h5V := h5.keep hbV
  have e5 : V2.heap[p2]? = some (.cells #[.slice (some ⟨b2, 0, none⟩) 3 3, .slice (some ⟨b2 + 1, 0, none⟩) 4 4, .slice (some ⟨b2 + 2, 0, none⟩) 2 2, .slice (some ⟨b2 + 3, 0, none⟩) 4 4, .slice (some ⟨b2 + 4, 0, none⟩) 1 1] 31) := by rw [← hV, ← hp]; exact heap_newW _ _
  have hXV : Below X1.heap.size X1 V2 := btrH' hb hbV
  have hlt : b2 + 4 < p2 := by have := some_lt h5.m; omega
  have HL2 : Hid (X1.heap.size ≤ b2 ∧ b2 + 4 < p2) := ⟨hl, hlt⟩
  have H5 : Hid (In5 V2 b2 three ∧ V2.heap[p2]? = some (.cells #[.slice (some ⟨b2, 0, none⟩) 3 3, .slice (some ⟨b2 + 1, 0, none⟩) 4 4, .slice (some ⟨b2 + 2, 0, none⟩) 2 2, .slice (some ⟨b2 + 3, 0, none⟩) 4 4, .slice (some ⟨b2 + 4, 0, none⟩) 1 1] 31) ∧ Below X1.heap.size X1 V2) := ⟨h5V, e5, hXV⟩
  clear hV h5 hb hbV h5V e5 hXV hl hlt
  go_upto_region 7 with fail
  rw [HV.out]
  clear HV hp
  obtain ⟨c0, c1, c2, c3, c4⟩ := five_cells H5.out.2.1
  have k0 : V2.cell? ⟨b2 + 2, 6, none⟩ = some (.int .u32 2) := by simp [World.cell?, H5.out.1.l]; rfl
  have f0 : V2.frozen? ⟨b2 + 2, 6, none⟩ = false := by simp [World.frozen?, H5.out.1.l]
  obtain ⟨X2, hX⟩ : ∃ X, V2.setCell ⟨b2 + 2, 6, none⟩ (.int .u32 0) = X := ⟨_, rfl⟩
  have HX : Hid (V2.setCell ⟨b2 + 2, 6, none⟩ (.int .u32 0) = X2) := hX
  have F2 : Hid (∀ wx, Below X2.heap.size X2 wx → wx.heap[p2]? = some (.cells #[.slice (some ⟨b2, 0, none⟩) 3 3, .slice (some ⟨b2 + 1, 0, none⟩) 4 4, .slice (some ⟨b2 + 2, 0, none⟩) 2 2, .slice (some ⟨b2 + 3, 0, none⟩) 4 4, .slice (some ⟨b2 + 4, 0, none⟩) 1 1] 31) ∧ In5 wx b2 hB ∧ Below X1.heap.size X1 wx) := fun wx hx => by
    have g1 : In5 X2 b2 hB := by rw [← hX]; exact setB H5.out.1
    have g2 : X2.heap[p2]? = some (.cells #[.slice (some ⟨b2, 0, none⟩) 3 3, .slice (some ⟨b2 + 1, 0, none⟩) 4 4, .slice (some ⟨b2 + 2, 0, none⟩) 2 2, .slice (some ⟨b2 + 3, 0, none⟩) 4 4, .slice (some ⟨b2 + 4, 0, none⟩) 1 1] 31) := by rw [← hX]; exact (Below.heap_setCell _ _ _ _ (by have := HL2.out.2; show p2 ≠ b2 + 2; omega)).trans H5.out.2.1
    have g3 : Below X1.heap.size X1 X2 := by rw [← hX]; exact H5.out.2.2.setCell (p := ⟨b2 + 2, 6, none⟩) (by have := HL2.out.1; show X1.heap.size ≤ b2 + 2; omega) _
    exact ⟨(hx.block _ (some_lt g2)).trans g2, g1.keep hx, btrH' g3 hx⟩
  clear hX H5
  go_wp2_with fail
  rw [HX.out]
  clear HX c0 c1 c2 c3 c4 k0 f0
  refine (three_own X2).mono ?_
  rintro e t3 ⟨b3, rfl, hl, h5, hb⟩
  obtain ⟨p3, hp⟩ : ∃ p, t3.heap.size = p := ⟨_, rfl⟩
  obtain ⟨V3, hV⟩ : ∃ V, t3.alloc (.cells #[.slice (some ⟨b3, 0, none⟩) 3 3, .slice (some ⟨b3 + 1, 0, none⟩) 4 4, .slice (some ⟨b3 + 2, 0, none⟩) 2 2, .slice (some ⟨b3 + 3, 0, none⟩) 4 4, .slice (some ⟨b3 + 4, 0, none⟩) 1 1] 31) = V := ⟨_, rfl⟩
  have HV : Hid (t3.alloc (.cells #[.slice (some ⟨b3, 0, none⟩) 3 3, .slice (some ⟨b3 + 1, 0, none⟩) 4 4, .slice (some ⟨b3 + 2, 0, none⟩) 2 2, .slice (some ⟨b3 + 3, 0, none⟩) 4 4, .slice (some ⟨b3 + 4, 0, none⟩) 1 1] 31) = V3) := hV
  have hbV : Below t3.heap.size t3 V3 := by rw [← hV]; exact (Below.refl _ _).alloc (Nat.le_refl _) _
  have h5V := h5.keep hbV
  have e5 : V3.heap[p3]? = some (.cells #[.slice (some ⟨b3, 0, none⟩) 3 3, .slice (some ⟨b3 + 1, 0, none⟩) 4 4, .slice (some ⟨b3 + 2, 0, none⟩) 2 2, .slice (some ⟨b3 + 3, 0, none⟩) 4 4, .slice (some ⟨b3 + 4, 0, none⟩) 1 1] 31) := by rw [← hV, ← hp]; exact heap_newW _ _
  have hXV : Below X2.heap.size X2 V3 := btrH' hb hbV
  have hlt : b3 + 4 < p3 := by have := some_lt h5.m; omega
  have HL3 : Hid (X2.heap.size ≤ b3 ∧ b3 + 4 < p3) := ⟨hl, hlt⟩
  have H5 : Hid (In5 V3 b3 three ∧ V3.heap[p3]? = some (.cells #[.slice (some ⟨b3, 0, none⟩) 3 3, .slice (some ⟨b3 + 1, 0, none⟩) 4 4, .slice (some ⟨b3 + 2, 0, none⟩) 2 2, .slice (some ⟨b3 + 3, 0, none⟩) 4 4, .slice (some ⟨b3 + 4, 0, none⟩) 1 1] 31) ∧ Below X2.heap.size X2 V3) := ⟨h5V, e5, hXV⟩
  clear hV h5 hb hbV h5V e5 hXV hl hlt
  go_upto_region 9 with fail
  rw [HV.out]
  clear HV hp
  obtain ⟨c0, c1, c2, c3, c4⟩ := five_cells H5.out.2.1
  have k0 : V3.cell? ⟨b3 + 2, 4, none⟩ = some (.int .u32 2) := by simp [World.cell?, H5.out.1.l]; rfl
  have f0 : V3.frozen? ⟨b3 + 2, 4, none⟩ = false := by simp [World.frozen?, H5.out.1.l]
  obtain ⟨X3, hX⟩ : ∃ X, V3.setCell ⟨b3 + 2, 4, none⟩ (.int .u32 1) = X := ⟨_, rfl⟩
  have HX : Hid (V3.setCell ⟨b3 + 2, 4, none⟩ (.int .u32 1) = X3) := hX
  have F3 : Hid (∀ wx, Below X3.heap.size X3 wx → wx.heap[p3]? = some (.cells #[.slice (some ⟨b3, 0, none⟩) 3 3, .slice (some ⟨b3 + 1, 0, none⟩) 4 4, .slice (some ⟨b3 + 2, 0, none⟩) 2 2, .slice (some ⟨b3 + 3, 0, none⟩) 4 4, .slice (some ⟨b3 + 4, 0, none⟩) 1 1] 31) ∧ In5 wx b3 hC ∧ Below X2.heap.size X2 wx) := fun wx hx => by
    have g1 : In5 X3 b3 hC := by rw [← hX]; exact setC H5.out.1
    have g2 : X3.heap[p3]? = some (.cells #[.slice (some ⟨b3, 0, none⟩) 3 3, .slice (some ⟨b3 + 1, 0, none⟩) 4 4, .slice (some ⟨b3 + 2, 0, none⟩) 2 2, .slice (some ⟨b3 + 3, 0, none⟩) 4 4, .slice (some ⟨b3 + 4, 0, none⟩) 1 1] 31) := by rw [← hX]; exact (Below.heap_setCell _ _ _ _ (by have := HL3.out.2; show p3 ≠ b3 + 2; omega)).trans H5.out.2.1
    have g3 : Below X2.heap.size X2 X3 := by rw [← hX]; exact H5.out.2.2.setCell (p := ⟨b3 + 2, 4, none⟩) (by have := HL3.out.1; show X2.heap.size ≤ b3 + 2; omega) _
    exact ⟨(hx.block _ (some_lt g2)).trans g2, g1.keep hx, btrH' g3 hx⟩
  clear hX H5
  go_wp2_with fail
  rw [HX.out]
  clear HX c0 c1 c2 c3 c4 k0 f0
  refine (three_own X3).mono ?_
  rintro e t4 ⟨b4, rfl, hl, h5, hb⟩
  obtain ⟨p4, hp⟩ : ∃ p, t4.heap.size = p := ⟨_, rfl⟩
  obtain ⟨V4, hV⟩ : ∃ V, t4.alloc (.cells #[.slice (some ⟨b4, 0, none⟩) 3 3, .slice (some ⟨b4 + 1, 0, none⟩) 4 4, .slice (some ⟨b4 + 2, 0, none⟩) 2 2, .slice (some ⟨b4 + 3, 0, none⟩) 4 4, .slice (some ⟨b4 + 4, 0, none⟩) 1 1] 31) = V := ⟨_, rfl⟩
  have HV : Hid (t4.alloc (.cells #[.slice (some ⟨b4, 0, none⟩) 3 3, .slice (some ⟨b4 + 1, 0, none⟩) 4 4, .slice (some ⟨b4 + 2, 0, none⟩) 2 2, .slice (some ⟨b4 + 3, 0, none⟩) 4 4, .slice (some ⟨b4 + 4, 0, none⟩) 1 1] 31) = V4) := hV
  have hbV : Below t4.heap.size t4 V4 := by rw [← hV]; exact (Below.refl _ _).alloc (Nat.le_refl _) _
  have h5V := h5.keep hbV
  have e5 : V4.heap[p4]? = some (.cells #[.slice (some ⟨b4, 0, none⟩) 3 3, .slice (some ⟨b4 + 1, 0, none⟩) 4 4, .slice (some ⟨b4 + 2, 0, none⟩) 2 2, .slice (some ⟨b4 + 3, 0, none⟩) 4 4, .slice (some ⟨b4 + 4, 0, none⟩) 1 1] 31) := by rw [← hV, ← hp]; exact heap_newW _ _
  have hXV : Below X3.heap.size X3 V4 := btrH' hb hbV
  have hlt : b4 + 4 < p4 := by have := some_lt h5.m; omega
  have HL4 : Hid (X3.heap.size ≤ b4 ∧ b4 + 4 < p4) := ⟨hl, hlt⟩
  have H5 : Hid (In5 V4 b4 three ∧ V4.heap[p4]? = some (.cells #[.slice (some ⟨b4, 0, none⟩) 3 3, .slice (some ⟨b4 + 1, 0, none⟩) 4 4, .slice (some ⟨b4 + 2, 0, none⟩) 2 2, .slice (some ⟨b4 + 3, 0, none⟩) 4 4, .slice (some ⟨b4 + 4, 0, none⟩) 1 1] 31) ∧ Below X3.heap.size X3 V4) := ⟨h5V, e5, hXV⟩
  clear hV h5 hb hbV h5V e5 hXV hl hlt
  go_upto_region 11 with fail
  rw [HV.out]
  clear HV hp
  obtain ⟨c0, c1, c2, c3, c4⟩ := five_cells H5.out.2.1
  have k0 : V4.cell? ⟨b4, 2, none⟩ = some (.int .u32 2) := by simp [World.cell?, H5.out.1.n]; rfl
  have f0 : V4.frozen? ⟨b4, 2, none⟩ = false := by simp [World.frozen?, H5.out.1.n]
  obtain ⟨X4, hX⟩ : ∃ X, V4.setCell ⟨b4, 2, none⟩ (.int .u32 1) = X := ⟨_, rfl⟩
  have HX : Hid (V4.setCell ⟨b4, 2, none⟩ (.int .u32 1) = X4) := hX
  have F4 : Hid (∀ wx, Below X4.heap.size X4 wx → wx.heap[p4]? = some (.cells #[.slice (some ⟨b4, 0, none⟩) 3 3, .slice (some ⟨b4 + 1, 0, none⟩) 4 4, .slice (some ⟨b4 + 2, 0, none⟩) 2 2, .slice (some ⟨b4 + 3, 0, none⟩) 4 4, .slice (some ⟨b4 + 4, 0, none⟩) 1 1] 31) ∧ In5 wx b4 hD ∧ Below X3.heap.size X3 wx) := fun wx hx => by
    have g1 : In5 X4 b4 hD := by rw [← hX]; exact setD H5.out.1
    have g2 : X4.heap[p4]? = some (.cells #[.slice (some ⟨b4, 0, none⟩) 3 3, .slice (some ⟨b4 + 1, 0, none⟩) 4 4, .slice (some ⟨b4 + 2, 0, none⟩) 2 2, .slice (some ⟨b4 + 3, 0, none⟩) 4 4, .slice (some ⟨b4 + 4, 0, none⟩) 1 1] 31) := by rw [← hX]; exact (Below.heap_setCell _ _ _ _ (by have := HL4.out.2; show p4 ≠ b4; omega)).trans H5.out.2.1
    have g3 : Below X3.heap.size X3 X4 := by rw [← hX]; exact H5.out.2.2.setCell (p := ⟨b4, 2, none⟩) (by have := HL4.out.1; show X3.heap.size ≤ b4; omega) _
    exact ⟨(hx.block _ (some_lt g2)).trans g2, g1.keep hx, btrH' g3 hx⟩
  clear hX H5
  go_wp2_with fail
  rw [HX.out]
  clear HX c0 c1 c2 c3 c4 k0 f0
  refine (three_own X4).mono ?_
  rintro e t5 ⟨b5, rfl, hl, h5, hb⟩
  obtain ⟨p5, hp⟩ : ∃ p, t5.heap.size = p := ⟨_, rfl⟩
  obtain ⟨V5, hV⟩ : ∃ V, t5.alloc (.cells #[.slice (some ⟨b5, 0, none⟩) 3 3, .slice (some ⟨b5 + 1, 0, none⟩) 4 4, .slice (some ⟨b5 + 2, 0, none⟩) 2 2, .slice (some ⟨b5 + 3, 0, none⟩) 4 4, .slice (some ⟨b5 + 4, 0, none⟩) 1 1] 31) = V := ⟨_, rfl⟩
  have HV : Hid (t5.alloc (.cells #[.slice (some ⟨b5, 0, none⟩) 3 3, .slice (some ⟨b5 + 1, 0, none⟩) 4 4, .slice (some ⟨b5 + 2, 0, none⟩) 2 2, .slice (some ⟨b5 + 3, 0, none⟩) 4 4, .slice (some ⟨b5 + 4, 0, none⟩) 1 1] 31) = V5) := hV
  have hbV : Below t5.heap.size t5 V5 := by rw [← hV]; exact (Below.refl _ _).alloc (Nat.le_refl _) _
  have h5V := h5.keep hbV
  have e5 : V5.heap[p5]? = some (.cells #[.slice (some ⟨b5, 0, none⟩) 3 3, .slice (some ⟨b5 + 1, 0, none⟩) 4 4, .slice (some ⟨b5 + 2, 0, none⟩) 2 2, .slice (some ⟨b5 + 3, 0, none⟩) 4 4, .slice (some ⟨b5 + 4, 0, none⟩) 1 1] 31) := by rw [← hV, ← hp]; exact heap_newW _ _
  have hXV : Below X4.heap.size X4 V5 := btrH' hb hbV
  have hlt : b5 + 4 < p5 := by have := some_lt h5.m; omega
  have HL5 : Hid (X4.heap.size ≤ b5 ∧ b5 + 4 < p5) := ⟨hl, hlt⟩
  have H5 : Hid (In5 V5 b5 three ∧ V5.heap[p5]? = some (.cells #[.slice (some ⟨b5, 0, none⟩) 3 3, .slice (some ⟨b5 + 1, 0, none⟩) 4 4, .slice (some ⟨b5 + 2, 0, none⟩) 2 2, .slice (some ⟨b5 + 3, 0, none⟩) 4 4, .slice (some ⟨b5 + 4, 0, none⟩) 1 1] 31) ∧ Below X4.heap.size X4 V5) := ⟨h5V, e5, hXV⟩
  clear hV h5 hb hbV h5V e5 hXV hl hlt
  go_upto_region 13 with fail
  rw [HV.out]
  clear HV hp
  obtain ⟨c0, c1, c2, c3, c4⟩ := five_cells H5.out.2.1
  have f0 : V5.frozen? ⟨p5, 1, none⟩ = false := by simp [World.frozen?, H5.out.2.1]
  obtain ⟨X5, hX⟩ : ∃ X, V5.setCell ⟨p5, 1, none⟩ (.slice (some ⟨b5 + 1, 0, none⟩) 3 4) = X := ⟨_, rfl⟩
  have HX : Hid (V5.setCell ⟨p5, 1, none⟩ (.slice (some ⟨b5 + 1, 0, none⟩) 3 4) = X5) := hX
  have F5 : Hid (∀ wx, Below X5.heap.size X5 wx → wx.heap[p5]? = some (.cells #[.slice (some ⟨b5, 0, none⟩) 3 3, .slice (some ⟨b5 + 1, 0, none⟩) 3 4, .slice (some ⟨b5 + 2, 0, none⟩) 2 2, .slice (some ⟨b5 + 3, 0, none⟩) 4 4, .slice (some ⟨b5 + 4, 0, none⟩) 1 1] 31) ∧ In5 wx b5 three ∧ Below X4.heap.size X4 wx) := fun wx hx => by
    have hpl := HL5.out
    have far : ∀ k, k ≠ p5 → X5.heap[k]? = V5.heap[k]? := fun k hk => by rw [← hX]; exact Below.heap_setCell _ _ _ _ (by exact hk)
    have g1 : In5 X5 b5 three := ⟨(far _ (by omega)).trans H5.out.1.n, (far _ (by omega)).trans H5.out.1.u, (far _ (by omega)).trans H5.out.1.l, (far _ (by omega)).trans H5.out.1.d, (far _ (by omega)).trans H5.out.1.m⟩
    have g2 : X5.heap[p5]? = some (.cells #[.slice (some ⟨b5, 0, none⟩) 3 3, .slice (some ⟨b5 + 1, 0, none⟩) 3 4, .slice (some ⟨b5 + 2, 0, none⟩) 2 2, .slice (some ⟨b5 + 3, 0, none⟩) 4 4, .slice (some ⟨b5 + 4, 0, none⟩) 1 1] 31) := by rw [← hX]; exact (set_at H5.out.2.1 _).trans rfl
    have g3 : Below X4.heap.size X4 X5 := by rw [← hX]; exact H5.out.2.2.setCell (p := ⟨p5, 1, none⟩) (by show X4.heap.size ≤ p5; omega) _
    exact ⟨(hx.block _ (some_lt g2)).trans g2, g1.keep hx, btrH' g3 hx⟩
  clear hX H5
  go_wp2_with fail
  rw [HX.out]
  clear HX c0 c1 c2 c3 c4 f0
  refine (three_own X5).mono ?_
  rintro e t6 ⟨b6, rfl, hl, h5, hb⟩
  obtain ⟨p6, hp⟩ : ∃ p, t6.heap.size = p := ⟨_, rfl⟩
  obtain ⟨V6, hV⟩ : ∃ V, t6.alloc (.cells #[.slice (some ⟨b6, 0, none⟩) 3 3, .slice (some ⟨b6 + 1, 0, none⟩) 4 4, .slice (some ⟨b6 + 2, 0, none⟩) 2 2, .slice (some ⟨b6 + 3, 0, none⟩) 4 4, .slice (some ⟨b6 + 4, 0, none⟩) 1 1] 31) = V := ⟨_, rfl⟩
  have HV : Hid (t6.alloc (.cells #[.slice (some ⟨b6, 0, none⟩) 3 3, .slice (some ⟨b6 + 1, 0, none⟩) 4 4, .slice (some ⟨b6 + 2, 0, none⟩) 2 2, .slice (some ⟨b6 + 3, 0, none⟩) 4 4, .slice (some ⟨b6 + 4, 0, none⟩) 1 1] 31) = V6) := hV
  have hbV : Below t6.heap.size t6 V6 := by rw [← hV]; exact (Below.refl _ _).alloc (Nat.le_refl _) _
  have h5V := h5.keep hbV
  have e5 : V6.heap[p6]? = some (.cells #[.slice (some ⟨b6, 0, none⟩) 3 3, .slice (some ⟨b6 + 1, 0, none⟩) 4 4, .slice (some ⟨b6 + 2, 0, none⟩) 2 2, .slice (some ⟨b6 + 3, 0, none⟩) 4 4, .slice (some ⟨b6 + 4, 0, none⟩) 1 1] 31) := by rw [← hV, ← hp]; exact heap_newW _ _
  have hXV : Below X5.heap.size X5 V6 := btrH' hb hbV
  have hlt : b6 + 4 < p6 := by have := some_lt h5.m; omega
  have HL6 : Hid (X5.heap.size ≤ b6 ∧ b6 + 4 < p6) := ⟨hl, hlt⟩
  have H5 : Hid (In5 V6 b6 three ∧ V6.heap[p6]? = some (.cells #[.slice (some ⟨b6, 0, none⟩) 3 3, .slice (some ⟨b6 + 1, 0, none⟩) 4 4, .slice (some ⟨b6 + 2, 0, none⟩) 2 2, .slice (some ⟨b6 + 3, 0, none⟩) 4 4, .slice (some ⟨b6 + 4, 0, none⟩) 1 1] 31) ∧ Below X5.heap.size X5 V6) := ⟨h5V, e5, hXV⟩
  clear hV h5 hb hbV h5V e5 hXV hl hlt
  go_upto_region 15 with fail
  rw [HV.out]
  clear HV hp
  obtain ⟨c0, c1, c2, c3, c4⟩ := five_cells H5.out.2.1
  have k0 : V6.cell? ⟨b6 + 2, 6, none⟩ = some (.int .u32 2) := by simp [World.cell?, H5.out.1.l]; rfl
  have f0 : V6.frozen? ⟨b6 + 2, 6, none⟩ = false := by simp [World.frozen?, H5.out.1.l]
  obtain ⟨X6, hX⟩ : ∃ X, V6.setCell ⟨b6 + 2, 6, none⟩ (.int .u32 4294967295) = X := ⟨_, rfl⟩
  have HX : Hid (V6.setCell ⟨b6 + 2, 6, none⟩ (.int .u32 4294967295) = X6) := hX
  have F6 : Hid (∀ wx, Below X6.heap.size X6 wx → wx.heap[p6]? = some (.cells #[.slice (some ⟨b6, 0, none⟩) 3 3, .slice (some ⟨b6 + 1, 0, none⟩) 4 4, .slice (some ⟨b6 + 2, 0, none⟩) 2 2, .slice (some ⟨b6 + 3, 0, none⟩) 4 4, .slice (some ⟨b6 + 4, 0, none⟩) 1 1] 31) ∧ In5 wx b6 hG ∧ Below X5.heap.size X5 wx) := fun wx hx => by
    have g1 : In5 X6 b6 hG := by rw [← hX]; exact setG H5.out.1
    have g2 : X6.heap[p6]? = some (.cells #[.slice (some ⟨b6, 0, none⟩) 3 3, .slice (some ⟨b6 + 1, 0, none⟩) 4 4, .slice (some ⟨b6 + 2, 0, none⟩) 2 2, .slice (some ⟨b6 + 3, 0, none⟩) 4 4, .slice (some ⟨b6 + 4, 0, none⟩) 1 1] 31) := by rw [← hX]; exact (Below.heap_setCell _ _ _ _ (by have := HL6.out.2; show p6 ≠ b6 + 2; omega)).trans H5.out.2.1
    have g3 : Below X5.heap.size X5 X6 := by rw [← hX]; exact H5.out.2.2.setCell (p := ⟨b6 + 2, 6, none⟩) (by have := HL6.out.1; show X5.heap.size ≤ b6 + 2; omega) _
    exact ⟨(hx.block _ (some_lt g2)).trans g2, g1.keep hx, btrH' g3 hx⟩
  clear hX H5
  go_wp2_with fail
  rw [HX.out]
  clear HX c0 c1 c2 c3 c4 k0 f0
  refine (three_own X6).mono ?_
  rintro e t7 ⟨b7, rfl, hl, h5, hb⟩
  obtain ⟨p7, hp⟩ : ∃ p, t7.heap.size = p := ⟨_, rfl⟩
  obtain ⟨V7, hV⟩ : ∃ V, t7.alloc (.cells #[.slice (some ⟨b7, 0, none⟩) 3 3, .slice (some ⟨b7 + 1, 0, none⟩) 4 4, .slice (some ⟨b7 + 2, 0, none⟩) 2 2, .slice (some ⟨b7 + 3, 0, none⟩) 4 4, .slice (some ⟨b7 + 4, 0, none⟩) 1 1] 31) = V := ⟨_, rfl⟩
  have HV : Hid (t7.alloc (.cells #[.slice (some ⟨b7, 0, none⟩) 3 3, .slice (some ⟨b7 + 1, 0, none⟩) 4 4, .slice (some ⟨b7 + 2, 0, none⟩) 2 2, .slice (some ⟨b7 + 3, 0, none⟩) 4 4, .slice (some ⟨b7 + 4, 0, none⟩) 1 1] 31) = V7) := hV
  have hbV : Below t7.heap.size t7 V7 := by rw [← hV]; exact (Below.refl _ _).alloc (Nat.le_refl _) _
  have h5V := h5.keep hbV
  have e5 : V7.heap[p7]? = some (.cells #[.slice (some ⟨b7, 0, none⟩) 3 3, .slice (some ⟨b7 + 1, 0, none⟩) 4 4, .slice (some ⟨b7 + 2, 0, none⟩) 2 2, .slice (some ⟨b7 + 3, 0, none⟩) 4 4, .slice (some ⟨b7 + 4, 0, none⟩) 1 1] 31) := by rw [← hV, ← hp]; exact heap_newW _ _
  have hXV : Below X6.heap.size X6 V7 := btrH' hb hbV
  have hlt : b7 + 4 < p7 := by have := some_lt h5.m; omega
  have HL7 : Hid (X6.heap.size ≤ b7 ∧ b7 + 4 < p7) := ⟨hl, hlt⟩
  have H5 : Hid (In5 V7 b7 three ∧ V7.heap[p7]? = some (.cells #[.slice (some ⟨b7, 0, none⟩) 3 3, .slice (some ⟨b7 + 1, 0, none⟩) 4 4, .slice (some ⟨b7 + 2, 0, none⟩) 2 2, .slice (some ⟨b7 + 3, 0, none⟩) 4 4, .slice (some ⟨b7 + 4, 0, none⟩) 1 1] 31) ∧ Below X6.heap.size X6 V7) := ⟨h5V, e5, hXV⟩
  clear hV h5 hb hbV h5V e5 hXV hl hlt
  go_upto_region 17 with fail
  rw [HV.out]
  clear HV hp
  obtain ⟨c0, c1, c2, c3, c4⟩ := five_cells H5.out.2.1
  have k0 : V7.cell? ⟨b7 + 2, 1, none⟩ = some (.int .u64 1) := by simp [World.cell?, H5.out.1.l]; rfl
  have f0 : V7.frozen? ⟨b7 + 2, 1, none⟩ = false := by simp [World.frozen?, H5.out.1.l]
  obtain ⟨X7, hX⟩ : ∃ X, V7.setCell ⟨b7 + 2, 1, none⟩ (.int .u64 2147483648) = X := ⟨_, rfl⟩
  have HX : Hid (V7.setCell ⟨b7 + 2, 1, none⟩ (.int .u64 2147483648) = X7) := hX
  have F7 : Hid (∀ wx, Below X7.heap.size X7 wx → wx.heap[p7]? = some (.cells #[.slice (some ⟨b7, 0, none⟩) 3 3, .slice (some ⟨b7 + 1, 0, none⟩) 4 4, .slice (some ⟨b7 + 2, 0, none⟩) 2 2, .slice (some ⟨b7 + 3, 0, none⟩) 4 4, .slice (some ⟨b7 + 4, 0, none⟩) 1 1] 31) ∧ In5 wx b7 hI ∧ Below X6.heap.size X6 wx) := fun wx hx => by
    have g1 : In5 X7 b7 hI := by rw [← hX]; exact setI H5.out.1
    have g2 : X7.heap[p7]? = some (.cells #[.slice (some ⟨b7, 0, none⟩) 3 3, .slice (some ⟨b7 + 1, 0, none⟩) 4 4, .slice (some ⟨b7 + 2, 0, none⟩) 2 2, .slice (some ⟨b7 + 3, 0, none⟩) 4 4, .slice (some ⟨b7 + 4, 0, none⟩) 1 1] 31) := by rw [← hX]; exact (Below.heap_setCell _ _ _ _ (by have := HL7.out.2; show p7 ≠ b7 + 2; omega)).trans H5.out.2.1
    have g3 : Below X6.heap.size X6 X7 := by rw [← hX]; exact H5.out.2.2.setCell (p := ⟨b7 + 2, 1, none⟩) (by have := HL7.out.1; show X6.heap.size ≤ b7 + 2; omega) _
    exact ⟨(hx.block _ (some_lt g2)).trans g2, g1.keep hx, btrH' g3 hx⟩
  clear hX H5
  go_wp2_with fail
  rw [HX.out]
  clear HX c0 c1 c2 c3 c4 k0 f0
  refine (three_own X7).mono ?_
  rintro e t8 ⟨b8, rfl, hl, h5, hb⟩
  obtain ⟨p8, hp⟩ : ∃ p, t8.heap.size = p := ⟨_, rfl⟩
  obtain ⟨V8, hV⟩ : ∃ V, t8.alloc (.cells #[.slice (some ⟨b8, 0, none⟩) 3 3, .slice (some ⟨b8 + 1, 0, none⟩) 4 4, .slice (some ⟨b8 + 2, 0, none⟩) 2 2, .slice (some ⟨b8 + 3, 0, none⟩) 4 4, .slice (some ⟨b8 + 4, 0, none⟩) 1 1] 31) = V := ⟨_, rfl⟩
  have HV : Hid (t8.alloc (.cells #[.slice (some ⟨b8, 0, none⟩) 3 3, .slice (some ⟨b8 + 1, 0, none⟩) 4 4, .slice (some ⟨b8 + 2, 0, none⟩) 2 2, .slice (some ⟨b8 + 3, 0, none⟩) 4 4, .slice (some ⟨b8 + 4, 0, none⟩) 1 1] 31) = V8) := hV
  have hbV : Below t8.heap.size t8 V8 := by rw [← hV]; exact (Below.refl _ _).alloc (Nat.le_refl _) _
  have h5V := h5.keep hbV
  have e5 : V8.heap[p8]? = some (.cells #[.slice (some ⟨b8, 0, none⟩) 3 3, .slice (some ⟨b8 + 1, 0, none⟩) 4 4, .slice (some ⟨b8 + 2, 0, none⟩) 2 2, .slice (some ⟨b8 + 3, 0, none⟩) 4 4, .slice (some ⟨b8 + 4, 0, none⟩) 1 1] 31) := by rw [← hV, ← hp]; exact heap_newW _ _
  have hXV : Below X7.heap.size X7 V8 := btrH' hb hbV
  have hlt : b8 + 4 < p8 := by have := some_lt h5.m; omega
  have HL8 : Hid (X7.heap.size ≤ b8 ∧ b8 + 4 < p8) := ⟨hl, hlt⟩
  have H5 : Hid (In5 V8 b8 three ∧ V8.heap[p8]? = some (.cells #[.slice (some ⟨b8, 0, none⟩) 3 3, .slice (some ⟨b8 + 1, 0, none⟩) 4 4, .slice (some ⟨b8 + 2, 0, none⟩) 2 2, .slice (some ⟨b8 + 3, 0, none⟩) 4 4, .slice (some ⟨b8 + 4, 0, none⟩) 1 1] 31) ∧ Below X7.heap.size X7 V8) := ⟨h5V, e5, hXV⟩
  clear hV h5 hb hbV h5V e5 hXV hl hlt
  go_upto_region 19 with fail
  rw [HV.out]
  clear HV hp
  obtain ⟨c0, c1, c2, c3, c4⟩ := five_cells H5.out.2.1
  have k0 : V8.cell? ⟨b8 + 1, 1, none⟩ = some (.int .u32 1) := by simp [World.cell?, H5.out.1.u]; rfl
  have f0 : V8.frozen? ⟨b8 + 1, 1, none⟩ = false := by simp [World.frozen?, H5.out.1.u]
  obtain ⟨X8, hX⟩ : ∃ X, V8.setCell ⟨b8 + 1, 1, none⟩ (.int .u32 3) = X := ⟨_, rfl⟩
  have HX : Hid (V8.setCell ⟨b8 + 1, 1, none⟩ (.int .u32 3) = X8) := hX
  have F8 : Hid (∀ wx, Below X8.heap.size X8 wx → wx.heap[p8]? = some (.cells #[.slice (some ⟨b8, 0, none⟩) 3 3, .slice (some ⟨b8 + 1, 0, none⟩) 4 4, .slice (some ⟨b8 + 2, 0, none⟩) 2 2, .slice (some ⟨b8 + 3, 0, none⟩) 4 4, .slice (some ⟨b8 + 4, 0, none⟩) 1 1] 31) ∧ In5 wx b8 hJ ∧ Below X7.heap.size X7 wx) := fun wx hx => by
    have g1 : In5 X8 b8 hJ := by rw [← hX]; exact setJ H5.out.1
    have g2 : X8.heap[p8]? = some (.cells #[.slice (some ⟨b8, 0, none⟩) 3 3, .slice (some ⟨b8 + 1, 0, none⟩) 4 4, .slice (some ⟨b8 + 2, 0, none⟩) 2 2, .slice (some ⟨b8 + 3, 0, none⟩) 4 4, .slice (some ⟨b8 + 4, 0, none⟩) 1 1] 31) := by rw [← hX]; exact (Below.heap_setCell _ _ _ _ (by have := HL8.out.2; show p8 ≠ b8 + 1; omega)).trans H5.out.2.1
    have g3 : Below X7.heap.size X7 X8 := by rw [← hX]; exact H5.out.2.2.setCell (p := ⟨b8 + 1, 1, none⟩) (by have := HL8.out.1; show X7.heap.size ≤ b8 + 1; omega) _
    exact ⟨(hx.block _ (some_lt g2)).trans g2, g1.keep hx, btrH' g3 hx⟩
  clear hX H5
  go_wp2_with fail
  rw [HX.out]
  clear HX c0 c1 c2 c3 c4 k0 f0
  refine (three_own X8).mono ?_
  rintro e t9 ⟨b9, rfl, hl, h5, hb⟩
  obtain ⟨p9, hp⟩ : ∃ p, t9.heap.size = p := ⟨_, rfl⟩
  obtain ⟨V9, hV⟩ : ∃ V, t9.alloc (.cells #[.slice (some ⟨b9, 0, none⟩) 3 3, .slice (some ⟨b9 + 1, 0, none⟩) 4 4, .slice (some ⟨b9 + 2, 0, none⟩) 2 2, .slice (some ⟨b9 + 3, 0, none⟩) 4 4, .slice (some ⟨b9 + 4, 0, none⟩) 1 1] 31) = V := ⟨_, rfl⟩
  have HV : Hid (t9.alloc (.cells #[.slice (some ⟨b9, 0, none⟩) 3 3, .slice (some ⟨b9 + 1, 0, none⟩) 4 4, .slice (some ⟨b9 + 2, 0, none⟩) 2 2, .slice (some ⟨b9 + 3, 0, none⟩) 4 4, .slice (some ⟨b9 + 4, 0, none⟩) 1 1] 31) = V9) := hV
  have hbV : Below t9.heap.size t9 V9 := by rw [← hV]; exact (Below.refl _ _).alloc (Nat.le_refl _) _
  have h5V := h5.keep hbV
  have e5 : V9.heap[p9]? = some (.cells #[.slice (some ⟨b9, 0, none⟩) 3 3, .slice (some ⟨b9 + 1, 0, none⟩) 4 4, .slice (some ⟨b9 + 2, 0, none⟩) 2 2, .slice (some ⟨b9 + 3, 0, none⟩) 4 4, .slice (some ⟨b9 + 4, 0, none⟩) 1 1] 31) := by rw [← hV, ← hp]; exact heap_newW _ _
  have hXV : Below X8.heap.size X8 V9 := btrH' hb hbV
  have hlt : b9 + 4 < p9 := by have := some_lt h5.m; omega
  have HL9 : Hid (X8.heap.size ≤ b9 ∧ b9 + 4 < p9) := ⟨hl, hlt⟩
  have H5 : Hid (In5 V9 b9 three ∧ V9.heap[p9]? = some (.cells #[.slice (some ⟨b9, 0, none⟩) 3 3, .slice (some ⟨b9 + 1, 0, none⟩) 4 4, .slice (some ⟨b9 + 2, 0, none⟩) 2 2, .slice (some ⟨b9 + 3, 0, none⟩) 4 4, .slice (some ⟨b9 + 4, 0, none⟩) 1 1] 31) ∧ Below X8.heap.size X8 V9) := ⟨h5V, e5, hXV⟩
  clear hV h5 hb hbV h5V e5 hXV hl hlt
  go_upto_region 21 with fail
  rw [HV.out]
  clear HV hp
  obtain ⟨c0, c1, c2, c3, c4⟩ := five_cells H5.out.2.1
  have k0 : V9.cell? ⟨b9 + 3, 0, none⟩ = some (.int .u32 0) := by simp [World.cell?, H5.out.1.d]; rfl
  have f0 : V9.frozen? ⟨b9 + 3, 0, none⟩ = false := by simp [World.frozen?, H5.out.1.d]
  obtain ⟨X9, hX⟩ : ∃ X, V9.setCell ⟨b9 + 3, 0, none⟩ (.int .u32 1) = X := ⟨_, rfl⟩
  have HX : Hid (V9.setCell ⟨b9 + 3, 0, none⟩ (.int .u32 1) = X9) := hX
  have F9 : Hid (∀ wx, Below X9.heap.size X9 wx → wx.heap[p9]? = some (.cells #[.slice (some ⟨b9, 0, none⟩) 3 3, .slice (some ⟨b9 + 1, 0, none⟩) 4 4, .slice (some ⟨b9 + 2, 0, none⟩) 2 2, .slice (some ⟨b9 + 3, 0, none⟩) 4 4, .slice (some ⟨b9 + 4, 0, none⟩) 1 1] 31) ∧ In5 wx b9 hK ∧ Below X8.heap.size X8 wx) := fun wx hx => by
    have g1 : In5 X9 b9 hK := by rw [← hX]; exact setK H5.out.1
    have g2 : X9.heap[p9]? = some (.cells #[.slice (some ⟨b9, 0, none⟩) 3 3, .slice (some ⟨b9 + 1, 0, none⟩) 4 4, .slice (some ⟨b9 + 2, 0, none⟩) 2 2, .slice (some ⟨b9 + 3, 0, none⟩) 4 4, .slice (some ⟨b9 + 4, 0, none⟩) 1 1] 31) := by rw [← hX]; exact (Below.heap_setCell _ _ _ _ (by have := HL9.out.2; show p9 ≠ b9 + 3; omega)).trans H5.out.2.1
    have g3 : Below X8.heap.size X8 X9 := by rw [← hX]; exact H5.out.2.2.setCell (p := ⟨b9 + 3, 0, none⟩) (by have := HL9.out.1; show X8.heap.size ≤ b9 + 3; omega) _
    exact ⟨(hx.block _ (some_lt g2)).trans g2, g1.keep hx, btrH' g3 hx⟩
  clear hX H5
  go_upto_region 22 with fail
  rw [HX.out]
  clear HX c0 c1 c2 c3 c4 k0 f0
  have U9 : Hid (∀ wx, Below X9.heap.size X9 wx → Below X9.heap.size X9 wx) := fun wx hx => hx
  have U8 : Hid (∀ wx, Below X9.heap.size X9 wx → Below X8.heap.size X8 wx) := fun wx hx => (F9.out wx (U9.out wx hx)).2.2
  have U7 : Hid (∀ wx, Below X9.heap.size X9 wx → Below X7.heap.size X7 wx) := fun wx hx => (F8.out wx (U8.out wx hx)).2.2
  have U6 : Hid (∀ wx, Below X9.heap.size X9 wx → Below X6.heap.size X6 wx) := fun wx hx => (F7.out wx (U7.out wx hx)).2.2
  have U5 : Hid (∀ wx, Below X9.heap.size X9 wx → Below X5.heap.size X5 wx) := fun wx hx => (F6.out wx (U6.out wx hx)).2.2
  have U4 : Hid (∀ wx, Below X9.heap.size X9 wx → Below X4.heap.size X4 wx) := fun wx hx => (F5.out wx (U5.out wx hx)).2.2
  have U3 : Hid (∀ wx, Below X9.heap.size X9 wx → Below X3.heap.size X3 wx) := fun wx hx => (F4.out wx (U4.out wx hx)).2.2
  have U2 : Hid (∀ wx, Below X9.heap.size X9 wx → Below X2.heap.size X2 wx) := fun wx hx => (F3.out wx (U3.out wx hx)).2.2
  have U1 : Hid (∀ wx, Below X9.heap.size X9 wx → Below X1.heap.size X1 wx) := fun wx hx => (F2.out wx (U2.out wx hx)).2.2
  have U0 : Hid (∀ wx, Below X9.heap.size X9 wx → Below X0.heap.size X0 wx) := fun wx hx => (F1.out wx (U1.out wx hx)).2.2
  have G0 : Hid (∀ wx, Below X9.heap.size X9 wx → wx.heap[s]? = some (.cells #[.int .i64 14, .slice none 0 0] 25) ∧ wx.heap[s + 1]? = some (.cells #[.int .i64 8, .slice none 0 0] 25) ∧ Below w.heap.size w wx) := fun wx hx => F0.out wx (U0.out wx hx)
  have G1 : Hid (∀ wx, Below X9.heap.size X9 wx → wx.heap[p1]? = some (.cells #[.slice (some ⟨b1, 0, none⟩) 3 3, .slice (some ⟨b1 + 1, 0, none⟩) 4 4, .slice (some ⟨b1 + 2, 0, none⟩) 2 2, .slice (some ⟨b1 + 3, 0, none⟩) 4 4, .slice (some ⟨b1 + 4, 0, none⟩) 1 1] 31)) := fun wx hx => (F1.out wx (U1.out wx hx)).1
  have BD1 : Hid (∀ (wx : World) (lo : Option Addr) (lc : Nat), Below X9.heap.size X9 wx → HasPlaces wx (.slice lo 1 lc) [(4, 1)] → Calls Tryd.prog 7 #[.agg #[.int .i64 8, .slice lo 1 lc], .agg #[.slice (some ⟨b1, 0, none⟩) 3 3, .slice (some ⟨b1 + 1, 0, none⟩) 4 4, .slice (some ⟨b1 + 2, 0, none⟩) 2 2, .slice (some ⟨b1 + 3, 0, none⟩) 4 4, .slice (some ⟨b1 + 4, 0, none⟩) 1 1]] wx fun e w' => e = .returned (.bool true) ∧ Below wx.heap.size wx w') := fun wx lo lc hx hp => by
    have g := bad_calls10 (8, [(4, 1)]) lo lc (T3 b1) hA wx (HTY.out wx (G0.out wx hx).2.2) ((F1.out wx (U1.out wx hx)).2.1.has likeA) chkA hp (by decide) (by decide) (by decide) (by decide)
    rw [hvl3 likeA] at g
    exact g
  have G2 : Hid (∀ wx, Below X9.heap.size X9 wx → wx.heap[p2]? = some (.cells #[.slice (some ⟨b2, 0, none⟩) 3 3, .slice (some ⟨b2 + 1, 0, none⟩) 4 4, .slice (some ⟨b2 + 2, 0, none⟩) 2 2, .slice (some ⟨b2 + 3, 0, none⟩) 4 4, .slice (some ⟨b2 + 4, 0, none⟩) 1 1] 31)) := fun wx hx => (F2.out wx (U2.out wx hx)).1
  have BD2 : Hid (∀ (wx : World) (lo : Option Addr) (lc : Nat), Below X9.heap.size X9 wx → HasPlaces wx (.slice lo 1 lc) [(4, 1)] → Calls Tryd.prog 7 #[.agg #[.int .i64 14, .slice lo 1 lc], .agg #[.slice (some ⟨b2, 0, none⟩) 3 3, .slice (some ⟨b2 + 1, 0, none⟩) 4 4, .slice (some ⟨b2 + 2, 0, none⟩) 2 2, .slice (some ⟨b2 + 3, 0, none⟩) 4 4, .slice (some ⟨b2 + 4, 0, none⟩) 1 1]] wx fun e w' => e = .returned (.bool true) ∧ Below wx.heap.size wx w') := fun wx lo lc hx hp => by
    have g := bad_calls10 (14, [(4, 1)]) lo lc (T3 b2) hB wx (HTY.out wx (G0.out wx hx).2.2) ((F2.out wx (U2.out wx hx)).2.1.has likeB) chkB hp (by decide) (by decide) (by decide) (by decide)
    rw [hvl3 likeB] at g
    exact g
  have G3 : Hid (∀ wx, Below X9.heap.size X9 wx → wx.heap[p3]? = some (.cells #[.slice (some ⟨b3, 0, none⟩) 3 3, .slice (some ⟨b3 + 1, 0, none⟩) 4 4, .slice (some ⟨b3 + 2, 0, none⟩) 2 2, .slice (some ⟨b3 + 3, 0, none⟩) 4 4, .slice (some ⟨b3 + 4, 0, none⟩) 1 1] 31)) := fun wx hx => (F3.out wx (U3.out wx hx)).1
  have BD3 : Hid (∀ (wx : World) (lo : Option Addr) (lc : Nat), Below X9.heap.size X9 wx → HasPlaces wx (.slice lo 1 lc) [(4, 1)] → Calls Tryd.prog 7 #[.agg #[.int .i64 14, .slice lo 1 lc], .agg #[.slice (some ⟨b3, 0, none⟩) 3 3, .slice (some ⟨b3 + 1, 0, none⟩) 4 4, .slice (some ⟨b3 + 2, 0, none⟩) 2 2, .slice (some ⟨b3 + 3, 0, none⟩) 4 4, .slice (some ⟨b3 + 4, 0, none⟩) 1 1]] wx fun e w' => e = .returned (.bool true) ∧ Below wx.heap.size wx w') := fun wx lo lc hx hp => by
    have g := bad_calls10 (14, [(4, 1)]) lo lc (T3 b3) hC wx (HTY.out wx (G0.out wx hx).2.2) ((F3.out wx (U3.out wx hx)).2.1.has likeC) chkC hp (by decide) (by decide) (by decide) (by decide)
    rw [hvl3 likeC] at g
    exact g
  have G4 : Hid (∀ wx, Below X9.heap.size X9 wx → wx.heap[p4]? = some (.cells #[.slice (some ⟨b4, 0, none⟩) 3 3, .slice (some ⟨b4 + 1, 0, none⟩) 4 4, .slice (some ⟨b4 + 2, 0, none⟩) 2 2, .slice (some ⟨b4 + 3, 0, none⟩) 4 4, .slice (some ⟨b4 + 4, 0, none⟩) 1 1] 31)) := fun wx hx => (F4.out wx (U4.out wx hx)).1
  have BD4 : Hid (∀ (wx : World) (lo : Option Addr) (lc : Nat), Below X9.heap.size X9 wx → HasPlaces wx (.slice lo 1 lc) [(3, 2)] → Calls Tryd.prog 7 #[.agg #[.int .i64 20, .slice lo 1 lc], .agg #[.slice (some ⟨b4, 0, none⟩) 3 3, .slice (some ⟨b4 + 1, 0, none⟩) 4 4, .slice (some ⟨b4 + 2, 0, none⟩) 2 2, .slice (some ⟨b4 + 3, 0, none⟩) 4 4, .slice (some ⟨b4 + 4, 0, none⟩) 1 1]] wx fun e w' => e = .returned (.bool true) ∧ Below wx.heap.size wx w') := fun wx lo lc hx hp => by
    have g := bad_calls10 (20, [(3, 2)]) lo lc (T3 b4) hD wx (HTY.out wx (G0.out wx hx).2.2) ((F4.out wx (U4.out wx hx)).2.1.has likeD) chkD hp (by decide) (by decide) (by decide) (by decide)
    rw [hvl3 likeD] at g
    exact g
  have G5 : Hid (∀ wx, Below X9.heap.size X9 wx → wx.heap[p5]? = some (.cells #[.slice (some ⟨b5, 0, none⟩) 3 3, .slice (some ⟨b5 + 1, 0, none⟩) 3 4, .slice (some ⟨b5 + 2, 0, none⟩) 2 2, .slice (some ⟨b5 + 3, 0, none⟩) 4 4, .slice (some ⟨b5 + 4, 0, none⟩) 1 1] 31)) := fun wx hx => (F5.out wx (U5.out wx hx)).1
  have BD5 : Hid (∀ (wx : World) (lo : Option Addr) (lc : Nat), Below X9.heap.size X9 wx → HasPlaces wx (.slice lo 0 lc) [] → Calls Tryd.prog 7 #[.agg #[.int .i64 14, .slice lo 0 lc], .agg #[.slice (some ⟨b5, 0, none⟩) 3 3, .slice (some ⟨b5 + 1, 0, none⟩) 3 4, .slice (some ⟨b5 + 2, 0, none⟩) 2 2, .slice (some ⟨b5 + 3, 0, none⟩) 4 4, .slice (some ⟨b5 + 4, 0, none⟩) 1 1]] wx fun e w' => e = .returned (.bool true) ∧ Below wx.heap.size wx w') := fun wx lo lc hx hp => by
    have g := bad_calls10 (14, []) lo lc (VF b5) hF wx (HTY.out wx (G0.out wx hx).2.2) (hasF (F5.out wx (U5.out wx hx)).2.1) chkF hp (by decide) (by decide) (by decide) (by decide)
    rw [(rfl : hvl (VF b5) hF = .agg #[.slice (some ⟨b5, 0, none⟩) 3 3, .slice (some ⟨b5 + 1, 0, none⟩) 3 4, .slice (some ⟨b5 + 2, 0, none⟩) 2 2, .slice (some ⟨b5 + 3, 0, none⟩) 4 4, .slice (some ⟨b5 + 4, 0, none⟩) 1 1])] at g
    exact g
  have G6 : Hid (∀ wx, Below X9.heap.size X9 wx → wx.heap[p6]? = some (.cells #[.slice (some ⟨b6, 0, none⟩) 3 3, .slice (some ⟨b6 + 1, 0, none⟩) 4 4, .slice (some ⟨b6 + 2, 0, none⟩) 2 2, .slice (some ⟨b6 + 3, 0, none⟩) 4 4, .slice (some ⟨b6 + 4, 0, none⟩) 1 1] 31)) := fun wx hx => (F6.out wx (U6.out wx hx)).1
  have BD6 : Hid (∀ (wx : World) (lo : Option Addr) (lc : Nat), Below X9.heap.size X9 wx → HasPlaces wx (.slice lo 1 lc) [(4, 1)] → Calls Tryd.prog 7 #[.agg #[.int .i64 14, .slice lo 1 lc], .agg #[.slice (some ⟨b6, 0, none⟩) 3 3, .slice (some ⟨b6 + 1, 0, none⟩) 4 4, .slice (some ⟨b6 + 2, 0, none⟩) 2 2, .slice (some ⟨b6 + 3, 0, none⟩) 4 4, .slice (some ⟨b6 + 4, 0, none⟩) 1 1]] wx fun e w' => e = .returned (.bool true) ∧ Below wx.heap.size wx w') := fun wx lo lc hx hp => by
    have g := bad_calls10 (14, [(4, 1)]) lo lc (T3 b6) hG wx (HTY.out wx (G0.out wx hx).2.2) ((F6.out wx (U6.out wx hx)).2.1.has likeG) chkG hp (by decide) (by decide) (by decide) (by decide)
    rw [hvl3 likeG] at g
    exact g
  have G7 : Hid (∀ wx, Below X9.heap.size X9 wx → wx.heap[p7]? = some (.cells #[.slice (some ⟨b7, 0, none⟩) 3 3, .slice (some ⟨b7 + 1, 0, none⟩) 4 4, .slice (some ⟨b7 + 2, 0, none⟩) 2 2, .slice (some ⟨b7 + 3, 0, none⟩) 4 4, .slice (some ⟨b7 + 4, 0, none⟩) 1 1] 31)) := fun wx hx => (F7.out wx (U7.out wx hx)).1
  have BD7 : Hid (∀ (wx : World) (lo : Option Addr) (lc : Nat), Below X9.heap.size X9 wx → HasPlaces wx (.slice lo 1 lc) [(4, 0)] → Calls Tryd.prog 7 #[.agg #[.int .i64 8, .slice lo 1 lc], .agg #[.slice (some ⟨b7, 0, none⟩) 3 3, .slice (some ⟨b7 + 1, 0, none⟩) 4 4, .slice (some ⟨b7 + 2, 0, none⟩) 2 2, .slice (some ⟨b7 + 3, 0, none⟩) 4 4, .slice (some ⟨b7 + 4, 0, none⟩) 1 1]] wx fun e w' => e = .returned (.bool true) ∧ Below wx.heap.size wx w') := fun wx lo lc hx hp => by
    have g := bad_calls10 (8, [(4, 0)]) lo lc (T3 b7) hI wx (HTY.out wx (G0.out wx hx).2.2) ((F7.out wx (U7.out wx hx)).2.1.has likeI) chkI hp (by decide) (by decide) (by decide) (by decide)
    rw [hvl3 likeI] at g
    exact g
  have G8 : Hid (∀ wx, Below X9.heap.size X9 wx → wx.heap[p8]? = some (.cells #[.slice (some ⟨b8, 0, none⟩) 3 3, .slice (some ⟨b8 + 1, 0, none⟩) 4 4, .slice (some ⟨b8 + 2, 0, none⟩) 2 2, .slice (some ⟨b8 + 3, 0, none⟩) 4 4, .slice (some ⟨b8 + 4, 0, none⟩) 1 1] 31)) := fun wx hx => (F8.out wx (U8.out wx hx)).1
  have BD8 : Hid (∀ (wx : World) (lo : Option Addr) (lc : Nat), Below X9.heap.size X9 wx → HasPlaces wx (.slice lo 1 lc) [(3, 1)] → Calls Tryd.prog 7 #[.agg #[.int .i64 14, .slice lo 1 lc], .agg #[.slice (some ⟨b8, 0, none⟩) 3 3, .slice (some ⟨b8 + 1, 0, none⟩) 4 4, .slice (some ⟨b8 + 2, 0, none⟩) 2 2, .slice (some ⟨b8 + 3, 0, none⟩) 4 4, .slice (some ⟨b8 + 4, 0, none⟩) 1 1]] wx fun e w' => e = .returned (.bool true) ∧ Below wx.heap.size wx w') := fun wx lo lc hx hp => by
    have g := bad_calls10 (14, [(3, 1)]) lo lc (T3 b8) hJ wx (HTY.out wx (G0.out wx hx).2.2) ((F8.out wx (U8.out wx hx)).2.1.has likeJ) chkJ hp (by decide) (by decide) (by decide) (by decide)
    rw [hvl3 likeJ] at g
    exact g
  have G9 : Hid (∀ wx, Below X9.heap.size X9 wx → wx.heap[p9]? = some (.cells #[.slice (some ⟨b9, 0, none⟩) 3 3, .slice (some ⟨b9 + 1, 0, none⟩) 4 4, .slice (some ⟨b9 + 2, 0, none⟩) 2 2, .slice (some ⟨b9 + 3, 0, none⟩) 4 4, .slice (some ⟨b9 + 4, 0, none⟩) 1 1] 31)) := fun wx hx => (F9.out wx (U9.out wx hx)).1
  have BD9 : Hid (∀ (wx : World) (lo : Option Addr) (lc : Nat), Below X9.heap.size X9 wx → HasPlaces wx (.slice lo 0 lc) [] → Calls Tryd.prog 7 #[.agg #[.int .i64 14, .slice lo 0 lc], .agg #[.slice (some ⟨b9, 0, none⟩) 3 3, .slice (some ⟨b9 + 1, 0, none⟩) 4 4, .slice (some ⟨b9 + 2, 0, none⟩) 2 2, .slice (some ⟨b9 + 3, 0, none⟩) 4 4, .slice (some ⟨b9 + 4, 0, none⟩) 1 1]] wx fun e w' => e = .returned (.bool true) ∧ Below wx.heap.size wx w') := fun wx lo lc hx hp => by
    have g := bad_calls10 (14, []) lo lc (T3 b9) hK wx (HTY.out wx (G0.out wx hx).2.2) ((F9.out wx (U9.out wx hx)).2.1.has likeK) chkK hp (by decide) (by decide) (by decide) (by decide)
    rw [hvl3 likeK] at g
    exact g
  have BDE : Hid (∀ wx, Below X9.heap.size X9 wx → Calls Tryd.prog 7 #[.agg #[.int .i64 14, .slice none 0 0], .agg #[.slice none 0 0, .slice none 0 0, .slice none 0 0, .slice none 0 0, .slice none 0 0]] wx fun e w' => e = .returned (.bool true) ∧ Below wx.heap.size wx w') := fun wx hx =>
    bad_calls10 (14, []) none 0 ⟨none, none, none, none, none, 0, 0, 0, 0, 0⟩ emptyH wx (HTY.out wx (G0.out wx hx).2.2) ⟨ws_nil _, ws_nil _, ls_nil _, ws_nil _, ls_nil _⟩ chkEmpty (pl_nil9 _) (by decide) (by decide) (by decide) (by decide)
  have HEA : Hid (∀ wx, Below X9.heap.size X9 wx → Calls Tryd.prog 10 #[.agg #[.slice (some ⟨b1, 0, none⟩) 3 3, .slice (some ⟨b1 + 1, 0, none⟩) 4 4, .slice (some ⟨b1 + 2, 0, none⟩) 2 2, .slice (some ⟨b1 + 3, 0, none⟩) 4 4, .slice (some ⟨b1 + 4, 0, none⟩) 1 1], .int .i64 (-1)] wx fun e w' => ∃ u, e = .returned (.tuple #[.int .i64 0, .int .i64 0, u]) ∧ IsTold w' (8, [(4, 1)]) u ∧ Below wx.heap.size wx w') := fun wx hx => by
    have g := ends_at (v := T3 b1) (h := hA) (i := -1) (x := 0) (y := 0) (E := (8, [(4, 1)])) (w := wx) ((F1.out wx (U1.out wx hx)).2.1.has likeA) (by decide) (by decide) (by decide) (by kernel_rfl)
    rw [hvl3 likeA] at g
    exact g
  clear F0 F1 F2 F3 F4 F5 F6 F7 F8 F9 U0 U1 U2 U3 U4 U5 U6 U7 U8 U9 HL1 HL2 HL3 HL4 HL5 HL6 HL7 HL8 HL9
  have hbh := build_h0
  have Yd : Hid (Below X9.heap.size X9 X9.drew) := (Below.refl _ _).drew
  have HS22 : Hid (∀ wx : World, Below X9.heap.size X9 wx → (fun w' => w'.cell? ⟨s, 0, none⟩ = some (.int .i64 14) ∧ w'.cell? ⟨s, 1, none⟩ = some (.slice none 0 0) ∧ w'.cell? ⟨s + 1, 0, none⟩ = some (.int .i64 8) ∧ w'.cell? ⟨s + 1, 1, none⟩ = some (.slice none 0 0) ∧ w'.cell? ⟨p1, 0, none⟩ = some (.slice (some ⟨b1, 0, none⟩) 3 3) ∧ w'.cell? ⟨p1, 1, none⟩ = some (.slice (some ⟨b1 + 1, 0, none⟩) 4 4) ∧ w'.cell? ⟨p1, 2, none⟩ = some (.slice (some ⟨b1 + 2, 0, none⟩) 2 2) ∧ w'.cell? ⟨p1, 3, none⟩ = some (.slice (some ⟨b1 + 3, 0, none⟩) 4 4) ∧ w'.cell? ⟨p1, 4, none⟩ = some (.slice (some ⟨b1 + 4, 0, none⟩) 1 1) ∧ w'.cell? ⟨p2, 0, none⟩ = some (.slice (some ⟨b2, 0, none⟩) 3 3) ∧ w'.cell? ⟨p2, 1, none⟩ = some (.slice (some ⟨b2 + 1, 0, none⟩) 4 4) ∧ w'.cell? ⟨p2, 2, none⟩ = some (.slice (some ⟨b2 + 2, 0, none⟩) 2 2) ∧ w'.cell? ⟨p2, 3, none⟩ = some (.slice (some ⟨b2 + 3, 0, none⟩) 4 4) ∧ w'.cell? ⟨p2, 4, none⟩ = some (.slice (some ⟨b2 + 4, 0, none⟩) 1 1) ∧ w'.cell? ⟨p3, 0, none⟩ = some (.slice (some ⟨b3, 0, none⟩) 3 3) ∧ w'.cell? ⟨p3, 1, none⟩ = some (.slice (some ⟨b3 + 1, 0, none⟩) 4 4) ∧ w'.cell? ⟨p3, 2, none⟩ = some (.slice (some ⟨b3 + 2, 0, none⟩) 2 2) ∧ w'.cell? ⟨p3, 3, none⟩ = some (.slice (some ⟨b3 + 3, 0, none⟩) 4 4) ∧ w'.cell? ⟨p3, 4, none⟩ = some (.slice (some ⟨b3 + 4, 0, none⟩) 1 1) ∧ w'.cell? ⟨p4, 0, none⟩ = some (.slice (some ⟨b4, 0, none⟩) 3 3) ∧ w'.cell? ⟨p4, 1, none⟩ = some (.slice (some ⟨b4 + 1, 0, none⟩) 4 4) ∧ w'.cell? ⟨p4, 2, none⟩ = some (.slice (some ⟨b4 + 2, 0, none⟩) 2 2) ∧ w'.cell? ⟨p4, 3, none⟩ = some (.slice (some ⟨b4 + 3, 0, none⟩) 4 4) ∧ w'.cell? ⟨p4, 4, none⟩ = some (.slice (some ⟨b4 + 4, 0, none⟩) 1 1) ∧ w'.cell? ⟨p5, 0, none⟩ = some (.slice (some ⟨b5, 0, none⟩) 3 3) ∧ w'.cell? ⟨p5, 1, none⟩ = some (.slice (some ⟨b5 + 1, 0, none⟩) 3 4) ∧ w'.cell? ⟨p5, 2, none⟩ = some (.slice (some ⟨b5 + 2, 0, none⟩) 2 2) ∧ w'.cell? ⟨p5, 3, none⟩ = some (.slice (some ⟨b5 + 3, 0, none⟩) 4 4) ∧ w'.cell? ⟨p5, 4, none⟩ = some (.slice (some ⟨b5 + 4, 0, none⟩) 1 1) ∧ w'.cell? ⟨p6, 0, none⟩ = some (.slice (some ⟨b6, 0, none⟩) 3 3) ∧ w'.cell? ⟨p6, 1, none⟩ = some (.slice (some ⟨b6 + 1, 0, none⟩) 4 4) ∧ w'.cell? ⟨p6, 2, none⟩ = some (.slice (some ⟨b6 + 2, 0, none⟩) 2 2) ∧ w'.cell? ⟨p6, 3, none⟩ = some (.slice (some ⟨b6 + 3, 0, none⟩) 4 4) ∧ w'.cell? ⟨p6, 4, none⟩ = some (.slice (some ⟨b6 + 4, 0, none⟩) 1 1) ∧ w'.cell? ⟨p7, 0, none⟩ = some (.slice (some ⟨b7, 0, none⟩) 3 3) ∧ w'.cell? ⟨p7, 1, none⟩ = some (.slice (some ⟨b7 + 1, 0, none⟩) 4 4) ∧ w'.cell? ⟨p7, 2, none⟩ = some (.slice (some ⟨b7 + 2, 0, none⟩) 2 2) ∧ w'.cell? ⟨p7, 3, none⟩ = some (.slice (some ⟨b7 + 3, 0, none⟩) 4 4) ∧ w'.cell? ⟨p7, 4, none⟩ = some (.slice (some ⟨b7 + 4, 0, none⟩) 1 1) ∧ w'.cell? ⟨p8, 0, none⟩ = some (.slice (some ⟨b8, 0, none⟩) 3 3) ∧ w'.cell? ⟨p8, 1, none⟩ = some (.slice (some ⟨b8 + 1, 0, none⟩) 4 4) ∧ w'.cell? ⟨p8, 2, none⟩ = some (.slice (some ⟨b8 + 2, 0, none⟩) 2 2) ∧ w'.cell? ⟨p8, 3, none⟩ = some (.slice (some ⟨b8 + 3, 0, none⟩) 4 4) ∧ w'.cell? ⟨p8, 4, none⟩ = some (.slice (some ⟨b8 + 4, 0, none⟩) 1 1) ∧ w'.cell? ⟨p9, 0, none⟩ = some (.slice (some ⟨b9, 0, none⟩) 3 3) ∧ w'.cell? ⟨p9, 1, none⟩ = some (.slice (some ⟨b9 + 1, 0, none⟩) 4 4) ∧ w'.cell? ⟨p9, 2, none⟩ = some (.slice (some ⟨b9 + 2, 0, none⟩) 2 2) ∧ w'.cell? ⟨p9, 3, none⟩ = some (.slice (some ⟨b9 + 3, 0, none⟩) 4 4) ∧ w'.cell? ⟨p9, 4, none⟩ = some (.slice (some ⟨b9 + 4, 0, none⟩) 1 1)) wx) := fun wx hx => by
    obtain ⟨q1, q2, _⟩ := G0.out wx hx
    obtain ⟨s0, s1, _, _⟩ := cell_two q1
    obtain ⟨r0, r1, _, _⟩ := cell_two q2
    obtain ⟨a10, a11, a12, a13, a14⟩ := five_cells (G1.out wx hx)
    obtain ⟨a20, a21, a22, a23, a24⟩ := five_cells (G2.out wx hx)
    obtain ⟨a30, a31, a32, a33, a34⟩ := five_cells (G3.out wx hx)
    obtain ⟨a40, a41, a42, a43, a44⟩ := five_cells (G4.out wx hx)
    obtain ⟨a50, a51, a52, a53, a54⟩ := five_cells (G5.out wx hx)
    obtain ⟨a60, a61, a62, a63, a64⟩ := five_cells (G6.out wx hx)
    obtain ⟨a70, a71, a72, a73, a74⟩ := five_cells (G7.out wx hx)
    obtain ⟨a80, a81, a82, a83, a84⟩ := five_cells (G8.out wx hx)
    obtain ⟨a90, a91, a92, a93, a94⟩ := five_cells (G9.out wx hx)
    exact ⟨s0, s1, r0, r1, a10, a11, a12, a13, a14, a20, a21, a22, a23, a24, a30, a31, a32, a33, a34, a40, a41, a42, a43, a44, a50, a51, a52, a53, a54, a60, a61, a62, a63, a64, a70, a71, a72, a73, a74, a80, a81, a82, a83, a84, a90, a91, a92, a93, a94⟩
  refine wp_region_M (S := (fun w' => w'.cell? ⟨s, 0, none⟩ = some (.int .i64 14) ∧ w'.cell? ⟨s, 1, none⟩ = some (.slice none 0 0) ∧ w'.cell? ⟨s + 1, 0, none⟩ = some (.int .i64 8) ∧ w'.cell? ⟨s + 1, 1, none⟩ = some (.slice none 0 0) ∧ w'.cell? ⟨p1, 0, none⟩ = some (.slice (some ⟨b1, 0, none⟩) 3 3) ∧ w'.cell? ⟨p1, 1, none⟩ = some (.slice (some ⟨b1 + 1, 0, none⟩) 4 4) ∧ w'.cell? ⟨p1, 2, none⟩ = some (.slice (some ⟨b1 + 2, 0, none⟩) 2 2) ∧ w'.cell? ⟨p1, 3, none⟩ = some (.slice (some ⟨b1 + 3, 0, none⟩) 4 4) ∧ w'.cell? ⟨p1, 4, none⟩ = some (.slice (some ⟨b1 + 4, 0, none⟩) 1 1) ∧ w'.cell? ⟨p2, 0, none⟩ = some (.slice (some ⟨b2, 0, none⟩) 3 3) ∧ w'.cell? ⟨p2, 1, none⟩ = some (.slice (some ⟨b2 + 1, 0, none⟩) 4 4) ∧ w'.cell? ⟨p2, 2, none⟩ = some (.slice (some ⟨b2 + 2, 0, none⟩) 2 2) ∧ w'.cell? ⟨p2, 3, none⟩ = some (.slice (some ⟨b2 + 3, 0, none⟩) 4 4) ∧ w'.cell? ⟨p2, 4, none⟩ = some (.slice (some ⟨b2 + 4, 0, none⟩) 1 1) ∧ w'.cell? ⟨p3, 0, none⟩ = some (.slice (some ⟨b3, 0, none⟩) 3 3) ∧ w'.cell? ⟨p3, 1, none⟩ = some (.slice (some ⟨b3 + 1, 0, none⟩) 4 4) ∧ w'.cell? ⟨p3, 2, none⟩ = some (.slice (some ⟨b3 + 2, 0, none⟩) 2 2) ∧ w'.cell? ⟨p3, 3, none⟩ = some (.slice (some ⟨b3 + 3, 0, none⟩) 4 4) ∧ w'.cell? ⟨p3, 4, none⟩ = some (.slice (some ⟨b3 + 4, 0, none⟩) 1 1) ∧ w'.cell? ⟨p4, 0, none⟩ = some (.slice (some ⟨b4, 0, none⟩) 3 3) ∧ w'.cell? ⟨p4, 1, none⟩ = some (.slice (some ⟨b4 + 1, 0, none⟩) 4 4) ∧ w'.cell? ⟨p4, 2, none⟩ = some (.slice (some ⟨b4 + 2, 0, none⟩) 2 2) ∧ w'.cell? ⟨p4, 3, none⟩ = some (.slice (some ⟨b4 + 3, 0, none⟩) 4 4) ∧ w'.cell? ⟨p4, 4, none⟩ = some (.slice (some ⟨b4 + 4, 0, none⟩) 1 1) ∧ w'.cell? ⟨p5, 0, none⟩ = some (.slice (some ⟨b5, 0, none⟩) 3 3) ∧ w'.cell? ⟨p5, 1, none⟩ = some (.slice (some ⟨b5 + 1, 0, none⟩) 3 4) ∧ w'.cell? ⟨p5, 2, none⟩ = some (.slice (some ⟨b5 + 2, 0, none⟩) 2 2) ∧ w'.cell? ⟨p5, 3, none⟩ = some (.slice (some ⟨b5 + 3, 0, none⟩) 4 4) ∧ w'.cell? ⟨p5, 4, none⟩ = some (.slice (some ⟨b5 + 4, 0, none⟩) 1 1) ∧ w'.cell? ⟨p6, 0, none⟩ = some (.slice (some ⟨b6, 0, none⟩) 3 3) ∧ w'.cell? ⟨p6, 1, none⟩ = some (.slice (some ⟨b6 + 1, 0, none⟩) 4 4) ∧ w'.cell? ⟨p6, 2, none⟩ = some (.slice (some ⟨b6 + 2, 0, none⟩) 2 2) ∧ w'.cell? ⟨p6, 3, none⟩ = some (.slice (some ⟨b6 + 3, 0, none⟩) 4 4) ∧ w'.cell? ⟨p6, 4, none⟩ = some (.slice (some ⟨b6 + 4, 0, none⟩) 1 1) ∧ w'.cell? ⟨p7, 0, none⟩ = some (.slice (some ⟨b7, 0, none⟩) 3 3) ∧ w'.cell? ⟨p7, 1, none⟩ = some (.slice (some ⟨b7 + 1, 0, none⟩) 4 4) ∧ w'.cell? ⟨p7, 2, none⟩ = some (.slice (some ⟨b7 + 2, 0, none⟩) 2 2) ∧ w'.cell? ⟨p7, 3, none⟩ = some (.slice (some ⟨b7 + 3, 0, none⟩) 4 4) ∧ w'.cell? ⟨p7, 4, none⟩ = some (.slice (some ⟨b7 + 4, 0, none⟩) 1 1) ∧ w'.cell? ⟨p8, 0, none⟩ = some (.slice (some ⟨b8, 0, none⟩) 3 3) ∧ w'.cell? ⟨p8, 1, none⟩ = some (.slice (some ⟨b8 + 1, 0, none⟩) 4 4) ∧ w'.cell? ⟨p8, 2, none⟩ = some (.slice (some ⟨b8 + 2, 0, none⟩) 2 2) ∧ w'.cell? ⟨p8, 3, none⟩ = some (.slice (some ⟨b8 + 3, 0, none⟩) 4 4) ∧ w'.cell? ⟨p8, 4, none⟩ = some (.slice (some ⟨b8 + 4, 0, none⟩) 1 1) ∧ w'.cell? ⟨p9, 0, none⟩ = some (.slice (some ⟨b9, 0, none⟩) 3 3) ∧ w'.cell? ⟨p9, 1, none⟩ = some (.slice (some ⟨b9 + 1, 0, none⟩) 4 4) ∧ w'.cell? ⟨p9, 2, none⟩ = some (.slice (some ⟨b9 + 2, 0, none⟩) 2 2) ∧ w'.cell? ⟨p9, 3, none⟩ = some (.slice (some ⟨b9 + 3, 0, none⟩) 4 4) ∧ w'.cell? ⟨p9, 4, none⟩ = some (.slice (some ⟨b9 + 4, 0, none⟩) 1 1))) (by kernel_rfl) (HS22.out _ Yd.out) ?_
  refine wpAnyM_take (i := 0) (oi := { dst := Option.some 82, op := Op.load 25 (Operand.tmp 2), type := 25, pos := "law.go:163", after := #[], guard := Option.none }) (v := ?vz1z0) rfl (by kernel_rfl) (by kernel_rfl) (by kernel_rfl) (fun _ _ _ h => h) (YieldsM.of_if (Or.inl ⟨by rfl, ?hz1z0⟩)) ?rz1z0
  case hz1z0 => ((intro wz hSw; (try dsimp only at hSw); go_simp); try (with_reducible rfl))
  try simp only [Act.put, List.setIfInBounds_toArray, List.set_cons_zero, List.set_cons_succ]
  refine wpAnyM_take (i := 2) (oi := { dst := Option.some 84, op := Op.load 31 (Operand.tmp 3), type := 31, pos := "law.go:163", after := #[], guard := Option.none }) (v := ?vz2z2) rfl (by kernel_rfl) (by kernel_rfl) (by kernel_rfl) (fun _ _ _ h => h) (YieldsM.of_if (Or.inl ⟨by rfl, ?hz2z2⟩)) ?rz2z2
  case hz2z2 => ((intro wz hSw; (try dsimp only at hSw); go_simp); try (with_reducible rfl))
  try simp only [Act.put, List.setIfInBounds_toArray, List.set_cons_zero, List.set_cons_succ]
  refine readyM (i := 1) (o := { dst := Option.some 83, op := Op.call { callee := Callee.value (Operand.func 8), args := #[Operand.const (Value.int IntKind.i64 4), Operand.const (Value.int IntKind.i64 1), Operand.tmp 82], argTypes := #[39, 3, 25] }, type := 25, pos := "law.go:163", after := #[{ on := 0, ground := Ground.data }], guard := Option.none }) rfl (by kernel_rfl) ?_
  intro u1 hg1 hS1 K hK
  have hu : Below X9.heap.size X9 u1 := btrH' Yd.out hg1
  clear hS1
  go_simp
  refine (refAt_calls 4 1 8 u1).mono ?_
  rintro e y1 ⟨g1, rfl, hgp, hb⟩
  have Y1 : Hid (Below X9.heap.size X9 y1) := btrH' hu hb
  have P1 : Hid (HasPlaces y1 (.slice (some ⟨g1, 0, none⟩) 1 1) [(4, 1)]) := pl_one9 hgp
  clear hgp
  go_wp2_with fail
  refine hK.out _ _ (HS22.out _ Y1.out) ?_
  clear hK K hg1 hu hb
  try simp only [Act.put, List.setIfInBounds_toArray, List.set_cons_zero, List.set_cons_succ]
  refine readyM (i := 3) (o := { dst := Option.some 85, op := Op.call { callee := Callee.value (Operand.func 7), args := #[Operand.tmp 83, Operand.tmp 84], argTypes := #[25, 31] }, type := 4, pos := "law.go:163", after := #[{ on := 1, ground := Ground.data }, { on := 2, ground := Ground.data }, { on := 1, ground := Ground.chain }], guard := Option.none }) rfl (by kernel_rfl) ?_
  intro u2 hg2 hS2 K hK
  have hu : Below X9.heap.size X9 u2 := btrH' Y1.out hg2
  clear hS2
  go_simp
  refine (BD1.out u2 _ _ hu (HasPlaces.keep P1.out hg2)).mono ?_
  rintro e y2 ⟨rfl, hb⟩
  have Y2 : Hid (Below X9.heap.size X9 y2) := btrH' hu hb
  go_wp2_with fail
  refine hK.out _ _ (HS22.out _ Y2.out) ?_
  clear hK K hg2 hu hb
  try simp only [Act.put, List.setIfInBounds_toArray, List.set_cons_zero, List.set_cons_succ]
  refine wpAnyM_take (i := 4) (oi := { dst := Option.some 86, op := Op.unOp UnOp.not 4 (Operand.tmp 85), type := 4, pos := "law.go:163", after := #[{ on := 3, ground := Ground.data }], guard := Option.none }) (v := ?vz3z4) rfl (by kernel_rfl) (by kernel_rfl) (by kernel_rfl) (fun _ _ _ h => h) (YieldsM.of_if (Or.inl ⟨by rfl, ?hz3z4⟩)) ?rz3z4
  case hz3z4 => ((intro wz hSw; (try dsimp only at hSw); go_simp); try (with_reducible rfl))
  try simp only [Act.put, List.setIfInBounds_toArray, List.set_cons_zero, List.set_cons_succ]
  refine wpAnyM_take (i := 5) (oi := { dst := Option.some 87, op := Op.move (Operand.tmp 86), type := 4, pos := "law.go:163", after := #[{ on := 4, ground := Ground.data }, { on := 3, ground := Ground.chain }], guard := Option.none }) (v := ?vz4z5) rfl (by kernel_rfl) (by kernel_rfl) (by kernel_rfl) (fun _ _ _ h => h) (YieldsM.of_if (Or.inl ⟨by rfl, ?hz4z5⟩)) ?rz4z5
  case hz4z5 => ((intro wz hSw; (try dsimp only at hSw); go_simp); try (with_reducible rfl))
  try simp only [Act.put, List.setIfInBounds_toArray, List.set_cons_zero, List.set_cons_succ]
  refine wpAnyM_take (i := 6) (oi := { dst := Option.some 88, op := Op.load 25 (Operand.tmp 1), type := 25, pos := "law.go:163", after := #[{ on := 5, ground := Ground.guard }], guard := Option.some (5, Bool.false) }) (v := ?vz5z6) rfl (by kernel_rfl) (by kernel_rfl) (by kernel_rfl) (fun _ _ _ h => h) (YieldsM.of_if (Or.inl ⟨by rfl, ?hz5z6⟩)) ?rz5z6
  case hz5z6 => ((intro wz hSw; (try dsimp only at hSw); go_simp); try (with_reducible rfl))
  try simp only [Act.put, List.setIfInBounds_toArray, List.set_cons_zero, List.set_cons_succ]
  refine wpAnyM_take (i := 8) (oi := { dst := Option.some 90, op := Op.load 31 (Operand.tmp 4), type := 31, pos := "law.go:163", after := #[{ on := 5, ground := Ground.guard }], guard := Option.some (5, Bool.false) }) (v := ?vz6z8) rfl (by kernel_rfl) (by kernel_rfl) (by kernel_rfl) (fun _ _ _ h => h) (YieldsM.of_if (Or.inl ⟨by rfl, ?hz6z8⟩)) ?rz6z8
  case hz6z8 => ((intro wz hSw; (try dsimp only at hSw); go_simp); try (with_reducible rfl))
  try simp only [Act.put, List.setIfInBounds_toArray, List.set_cons_zero, List.set_cons_succ]
  refine readyM (i := 7) (o := { dst := Option.some 89, op := Op.call { callee := Callee.value (Operand.func 8), args := #[Operand.const (Value.int IntKind.i64 4), Operand.const (Value.int IntKind.i64 1), Operand.tmp 88], argTypes := #[39, 3, 25] }, type := 25, pos := "law.go:163", after := #[{ on := 6, ground := Ground.data }, { on := 5, ground := Ground.chain }, { on := 5, ground := Ground.guard }], guard := Option.some (5, Bool.false) }) rfl (by kernel_rfl) ?_
  intro u3 hg3 hS3 K hK
  have hu : Below X9.heap.size X9 u3 := btrH' Y2.out hg3
  clear hS3
  rw [if_pos (by rfl)]
  go_simp
  refine (refAt_calls 4 1 14 u3).mono ?_
  rintro e y3 ⟨g3, rfl, hgp, hb⟩
  have Y3 : Hid (Below X9.heap.size X9 y3) := btrH' hu hb
  have P3 : Hid (HasPlaces y3 (.slice (some ⟨g3, 0, none⟩) 1 1) [(4, 1)]) := pl_one9 hgp
  clear hgp
  go_wp2_with fail
  refine hK.out _ _ (HS22.out _ Y3.out) ?_
  clear hK K hg3 hu hb
  try simp only [Act.put, List.setIfInBounds_toArray, List.set_cons_zero, List.set_cons_succ]
  refine readyM (i := 9) (o := { dst := Option.some 91, op := Op.call { callee := Callee.value (Operand.func 7), args := #[Operand.tmp 89, Operand.tmp 90], argTypes := #[25, 31] }, type := 4, pos := "law.go:163", after := #[{ on := 7, ground := Ground.data }, { on := 8, ground := Ground.data }, { on := 7, ground := Ground.chain }, { on := 5, ground := Ground.guard }], guard := Option.some (5, Bool.false) }) rfl (by kernel_rfl) ?_
  intro u4 hg4 hS4 K hK
  have hu : Below X9.heap.size X9 u4 := btrH' Y3.out hg4
  clear hS4
  rw [if_pos (by rfl)]
  go_simp
  refine (BD2.out u4 _ _ hu (HasPlaces.keep P3.out hg4)).mono ?_
  rintro e y4 ⟨rfl, hb⟩
  have Y4 : Hid (Below X9.heap.size X9 y4) := btrH' hu hb
  go_wp2_with fail
  refine hK.out _ _ (HS22.out _ Y4.out) ?_
  clear hK K hg4 hu hb
  try simp only [Act.put, List.setIfInBounds_toArray, List.set_cons_zero, List.set_cons_succ]
  refine wpAnyM_take (i := 10) (oi := { dst := Option.some 92, op := Op.unOp UnOp.not 4 (Operand.tmp 91), type := 4, pos := "law.go:163", after := #[{ on := 9, ground := Ground.data }, { on := 5, ground := Ground.guard }], guard := Option.some (5, Bool.false) }) (v := ?vz7z10) rfl (by kernel_rfl) (by kernel_rfl) (by kernel_rfl) (fun _ _ _ h => h) (YieldsM.of_if (Or.inl ⟨by rfl, ?hz7z10⟩)) ?rz7z10
  case hz7z10 => ((intro wz hSw; (try dsimp only at hSw); go_simp); try (with_reducible rfl))
  try simp only [Act.put, List.setIfInBounds_toArray, List.set_cons_zero, List.set_cons_succ]
  refine wpAnyM_take (i := 11) (oi := { dst := Option.some 93, op := Op.pick (Operand.tmp 87) (Operand.const (Value.bool Bool.true)) (Operand.tmp 92), type := 4, pos := "law.go:163", after := #[{ on := 5, ground := Ground.data }, { on := 10, ground := Ground.data }], guard := Option.none }) (v := ?vz8z11) rfl (by kernel_rfl) (by kernel_rfl) (by kernel_rfl) (fun _ _ _ h => h) (YieldsM.of_if (Or.inl ⟨by rfl, ?hz8z11⟩)) ?rz8z11
  case hz8z11 => ((intro wz hSw; (try dsimp only at hSw); go_simp); try (with_reducible rfl))
  try simp only [Act.put, List.setIfInBounds_toArray, List.set_cons_zero, List.set_cons_succ]
  refine wpAnyM_take (i := 12) (oi := { dst := Option.some 94, op := Op.move (Operand.tmp 93), type := 4, pos := "law.go:163", after := #[{ on := 11, ground := Ground.data }, { on := 9, ground := Ground.chain }], guard := Option.none }) (v := ?vz9z12) rfl (by kernel_rfl) (by kernel_rfl) (by kernel_rfl) (fun _ _ _ h => h) (YieldsM.of_if (Or.inl ⟨by rfl, ?hz9z12⟩)) ?rz9z12
  case hz9z12 => ((intro wz hSw; (try dsimp only at hSw); go_simp); try (with_reducible rfl))
  try simp only [Act.put, List.setIfInBounds_toArray, List.set_cons_zero, List.set_cons_succ]
  refine wpAnyM_take (i := 13) (oi := { dst := Option.some 95, op := Op.load 25 (Operand.tmp 1), type := 25, pos := "law.go:163", after := #[{ on := 12, ground := Ground.guard }], guard := Option.some (12, Bool.false) }) (v := ?vz10z13) rfl (by kernel_rfl) (by kernel_rfl) (by kernel_rfl) (fun _ _ _ h => h) (YieldsM.of_if (Or.inl ⟨by rfl, ?hz10z13⟩)) ?rz10z13
  case hz10z13 => ((intro wz hSw; (try dsimp only at hSw); go_simp); try (with_reducible rfl))
  try simp only [Act.put, List.setIfInBounds_toArray, List.set_cons_zero, List.set_cons_succ]
  refine wpAnyM_take (i := 15) (oi := { dst := Option.some 97, op := Op.load 31 (Operand.tmp 5), type := 31, pos := "law.go:163", after := #[{ on := 12, ground := Ground.guard }], guard := Option.some (12, Bool.false) }) (v := ?vz11z15) rfl (by kernel_rfl) (by kernel_rfl) (by kernel_rfl) (fun _ _ _ h => h) (YieldsM.of_if (Or.inl ⟨by rfl, ?hz11z15⟩)) ?rz11z15
  case hz11z15 => ((intro wz hSw; (try dsimp only at hSw); go_simp); try (with_reducible rfl))
  try simp only [Act.put, List.setIfInBounds_toArray, List.set_cons_zero, List.set_cons_succ]
  refine readyM (i := 14) (o := { dst := Option.some 96, op := Op.call { callee := Callee.value (Operand.func 8), args := #[Operand.const (Value.int IntKind.i64 4), Operand.const (Value.int IntKind.i64 1), Operand.tmp 95], argTypes := #[39, 3, 25] }, type := 25, pos := "law.go:163", after := #[{ on := 13, ground := Ground.data }, { on := 12, ground := Ground.chain }, { on := 12, ground := Ground.guard }], guard := Option.some (12, Bool.false) }) rfl (by kernel_rfl) ?_
  intro u5 hg5 hS5 K hK
  have hu : Below X9.heap.size X9 u5 := btrH' Y4.out hg5
  clear hS5
  rw [if_pos (by rfl)]
  go_simp
  refine (refAt_calls 4 1 14 u5).mono ?_
  rintro e y5 ⟨g5, rfl, hgp, hb⟩
  have Y5 : Hid (Below X9.heap.size X9 y5) := btrH' hu hb
  have P5 : Hid (HasPlaces y5 (.slice (some ⟨g5, 0, none⟩) 1 1) [(4, 1)]) := pl_one9 hgp
  clear hgp
  go_wp2_with fail
  refine hK.out _ _ (HS22.out _ Y5.out) ?_
  clear hK K hg5 hu hb
  try simp only [Act.put, List.setIfInBounds_toArray, List.set_cons_zero, List.set_cons_succ]
  refine readyM (i := 16) (o := { dst := Option.some 98, op := Op.call { callee := Callee.value (Operand.func 7), args := #[Operand.tmp 96, Operand.tmp 97], argTypes := #[25, 31] }, type := 4, pos := "law.go:163", after := #[{ on := 14, ground := Ground.data }, { on := 15, ground := Ground.data }, { on := 14, ground := Ground.chain }, { on := 12, ground := Ground.guard }], guard := Option.some (12, Bool.false) }) rfl (by kernel_rfl) ?_
  intro u6 hg6 hS6 K hK
  have hu : Below X9.heap.size X9 u6 := btrH' Y5.out hg6
  clear hS6
  rw [if_pos (by rfl)]
  go_simp
  refine (BD3.out u6 _ _ hu (HasPlaces.keep P5.out hg6)).mono ?_
  rintro e y6 ⟨rfl, hb⟩
  have Y6 : Hid (Below X9.heap.size X9 y6) := btrH' hu hb
  go_wp2_with fail
  refine hK.out _ _ (HS22.out _ Y6.out) ?_
  clear hK K hg6 hu hb
  try simp only [Act.put, List.setIfInBounds_toArray, List.set_cons_zero, List.set_cons_succ]
  refine wpAnyM_take (i := 17) (oi := { dst := Option.some 99, op := Op.unOp UnOp.not 4 (Operand.tmp 98), type := 4, pos := "law.go:163", after := #[{ on := 16, ground := Ground.data }, { on := 12, ground := Ground.guard }], guard := Option.some (12, Bool.false) }) (v := ?vz12z17) rfl (by kernel_rfl) (by kernel_rfl) (by kernel_rfl) (fun _ _ _ h => h) (YieldsM.of_if (Or.inl ⟨by rfl, ?hz12z17⟩)) ?rz12z17
  case hz12z17 => ((intro wz hSw; (try dsimp only at hSw); go_simp); try (with_reducible rfl))
  try simp only [Act.put, List.setIfInBounds_toArray, List.set_cons_zero, List.set_cons_succ]
  refine wpAnyM_take (i := 18) (oi := { dst := Option.some 100, op := Op.pick (Operand.tmp 94) (Operand.const (Value.bool Bool.true)) (Operand.tmp 99), type := 4, pos := "law.go:163", after := #[{ on := 12, ground := Ground.data }, { on := 17, ground := Ground.data }], guard := Option.none }) (v := ?vz13z18) rfl (by kernel_rfl) (by kernel_rfl) (by kernel_rfl) (fun _ _ _ h => h) (YieldsM.of_if (Or.inl ⟨by rfl, ?hz13z18⟩)) ?rz13z18
  case hz13z18 => ((intro wz hSw; (try dsimp only at hSw); go_simp); try (with_reducible rfl))
  try simp only [Act.put, List.setIfInBounds_toArray, List.set_cons_zero, List.set_cons_succ]
  refine wpAnyM_take (i := 19) (oi := { dst := Option.some 101, op := Op.move (Operand.tmp 100), type := 4, pos := "law.go:163", after := #[{ on := 18, ground := Ground.data }, { on := 16, ground := Ground.chain }], guard := Option.none }) (v := ?vz14z19) rfl (by kernel_rfl) (by kernel_rfl) (by kernel_rfl) (fun _ _ _ h => h) (YieldsM.of_if (Or.inl ⟨by rfl, ?hz14z19⟩)) ?rz14z19
  case hz14z19 => ((intro wz hSw; (try dsimp only at hSw); go_simp); try (with_reducible rfl))
  try simp only [Act.put, List.setIfInBounds_toArray, List.set_cons_zero, List.set_cons_succ]
  refine wpAnyM_take (i := 22) (oi := { dst := Option.some 104, op := Op.load 31 (Operand.tmp 6), type := 31, pos := "law.go:163", after := #[{ on := 19, ground := Ground.guard }], guard := Option.some (19, Bool.false) }) (v := ?vz15z22) rfl (by kernel_rfl) (by kernel_rfl) (by kernel_rfl) (fun _ _ _ h => h) (YieldsM.of_if (Or.inl ⟨by rfl, ?hz15z22⟩)) ?rz15z22
  case hz15z22 => ((intro wz hSw; (try dsimp only at hSw); go_simp); try (with_reducible rfl))
  try simp only [Act.put, List.setIfInBounds_toArray, List.set_cons_zero, List.set_cons_succ]
  refine readyM (i := 20) (o := { dst := Option.some 102, op := Op.call { callee := Callee.value (Operand.func 5), args := #[Operand.const (Value.int IntKind.i64 20)], argTypes := #[27] }, type := 25, pos := "law.go:163", after := #[{ on := 19, ground := Ground.chain }, { on := 19, ground := Ground.guard }], guard := Option.some (19, Bool.false) }) rfl (by kernel_rfl) ?_
  intro u7 hg7 hS7 K hK
  have hu : Below X9.heap.size X9 u7 := btrH' Y6.out hg7
  clear hS7
  rw [if_pos (by rfl)]
  go_simp
  refine (E_calls 20 u7).mono ?_
  rintro e y7 ⟨rfl, hb⟩
  have Y7 : Hid (Below X9.heap.size X9 y7) := btrH' hu hb
  go_wp2_with fail
  refine hK.out _ _ (HS22.out _ Y7.out) ?_
  clear hK K hg7 hu hb
  try simp only [Act.put, List.setIfInBounds_toArray, List.set_cons_zero, List.set_cons_succ]
  refine readyM (i := 21) (o := { dst := Option.some 103, op := Op.call { callee := Callee.value (Operand.func 8), args := #[Operand.const (Value.int IntKind.i64 3), Operand.const (Value.int IntKind.i64 2), Operand.tmp 102], argTypes := #[39, 3, 25] }, type := 25, pos := "law.go:163", after := #[{ on := 20, ground := Ground.data }, { on := 20, ground := Ground.chain }, { on := 19, ground := Ground.guard }], guard := Option.some (19, Bool.false) }) rfl (by kernel_rfl) ?_
  intro u8 hg8 hS8 K hK
  have hu : Below X9.heap.size X9 u8 := btrH' Y7.out hg8
  clear hS8
  rw [if_pos (by rfl)]
  go_simp
  refine (refAt_calls 3 2 20 u8).mono ?_
  rintro e y8 ⟨g8, rfl, hgp, hb⟩
  have Y8 : Hid (Below X9.heap.size X9 y8) := btrH' hu hb
  have P8 : Hid (HasPlaces y8 (.slice (some ⟨g8, 0, none⟩) 1 1) [(3, 2)]) := pl_one9 hgp
  clear hgp
  go_wp2_with fail
  refine hK.out _ _ (HS22.out _ Y8.out) ?_
  clear hK K hg8 hu hb
  try simp only [Act.put, List.setIfInBounds_toArray, List.set_cons_zero, List.set_cons_succ]
  refine readyM (i := 23) (o := { dst := Option.some 105, op := Op.call { callee := Callee.value (Operand.func 7), args := #[Operand.tmp 103, Operand.tmp 104], argTypes := #[25, 31] }, type := 4, pos := "law.go:163", after := #[{ on := 21, ground := Ground.data }, { on := 22, ground := Ground.data }, { on := 21, ground := Ground.chain }, { on := 19, ground := Ground.guard }], guard := Option.some (19, Bool.false) }) rfl (by kernel_rfl) ?_
  intro u9 hg9 hS9 K hK
  have hu : Below X9.heap.size X9 u9 := btrH' Y8.out hg9
  clear hS9
  rw [if_pos (by rfl)]
  go_simp
  refine (BD4.out u9 _ _ hu (HasPlaces.keep P8.out hg9)).mono ?_
  rintro e y9 ⟨rfl, hb⟩
  have Y9 : Hid (Below X9.heap.size X9 y9) := btrH' hu hb
  go_wp2_with fail
  refine hK.out _ _ (HS22.out _ Y9.out) ?_
  clear hK K hg9 hu hb
  try simp only [Act.put, List.setIfInBounds_toArray, List.set_cons_zero, List.set_cons_succ]
  refine wpAnyM_take (i := 24) (oi := { dst := Option.some 106, op := Op.unOp UnOp.not 4 (Operand.tmp 105), type := 4, pos := "law.go:163", after := #[{ on := 23, ground := Ground.data }, { on := 19, ground := Ground.guard }], guard := Option.some (19, Bool.false) }) (v := ?vz16z24) rfl (by kernel_rfl) (by kernel_rfl) (by kernel_rfl) (fun _ _ _ h => h) (YieldsM.of_if (Or.inl ⟨by rfl, ?hz16z24⟩)) ?rz16z24
  case hz16z24 => ((intro wz hSw; (try dsimp only at hSw); go_simp); try (with_reducible rfl))
  try simp only [Act.put, List.setIfInBounds_toArray, List.set_cons_zero, List.set_cons_succ]
  refine wpAnyM_take (i := 25) (oi := { dst := Option.some 107, op := Op.pick (Operand.tmp 101) (Operand.const (Value.bool Bool.true)) (Operand.tmp 106), type := 4, pos := "law.go:163", after := #[{ on := 19, ground := Ground.data }, { on := 24, ground := Ground.data }], guard := Option.none }) (v := ?vz17z25) rfl (by kernel_rfl) (by kernel_rfl) (by kernel_rfl) (fun _ _ _ h => h) (YieldsM.of_if (Or.inl ⟨by rfl, ?hz17z25⟩)) ?rz17z25
  case hz17z25 => ((intro wz hSw; (try dsimp only at hSw); go_simp); try (with_reducible rfl))
  try simp only [Act.put, List.setIfInBounds_toArray, List.set_cons_zero, List.set_cons_succ]
  refine wpAnyM_take (i := 26) (oi := { dst := Option.some 108, op := Op.move (Operand.tmp 107), type := 4, pos := "law.go:163", after := #[{ on := 25, ground := Ground.data }, { on := 23, ground := Ground.chain }], guard := Option.none }) (v := ?vz18z26) rfl (by kernel_rfl) (by kernel_rfl) (by kernel_rfl) (fun _ _ _ h => h) (YieldsM.of_if (Or.inl ⟨by rfl, ?hz18z26⟩)) ?rz18z26
  case hz18z26 => ((intro wz hSw; (try dsimp only at hSw); go_simp); try (with_reducible rfl))
  try simp only [Act.put, List.setIfInBounds_toArray, List.set_cons_zero, List.set_cons_succ]
  refine wpAnyM_take (i := 27) (oi := { dst := Option.some 109, op := Op.load 25 (Operand.tmp 1), type := 25, pos := "law.go:163", after := #[{ on := 26, ground := Ground.guard }], guard := Option.some (26, Bool.false) }) (v := ?vz19z27) rfl (by kernel_rfl) (by kernel_rfl) (by kernel_rfl) (fun _ _ _ h => h) (YieldsM.of_if (Or.inl ⟨by rfl, ?hz19z27⟩)) ?rz19z27
  case hz19z27 => ((intro wz hSw; (try dsimp only at hSw); go_simp); try (with_reducible rfl))
  try simp only [Act.put, List.setIfInBounds_toArray, List.set_cons_zero, List.set_cons_succ]
  refine wpAnyM_take (i := 28) (oi := { dst := Option.some 110, op := Op.load 31 (Operand.tmp 7), type := 31, pos := "law.go:163", after := #[{ on := 26, ground := Ground.guard }], guard := Option.some (26, Bool.false) }) (v := ?vz20z28) rfl (by kernel_rfl) (by kernel_rfl) (by kernel_rfl) (fun _ _ _ h => h) (YieldsM.of_if (Or.inl ⟨by rfl, ?hz20z28⟩)) ?rz20z28
  case hz20z28 => ((intro wz hSw; (try dsimp only at hSw); go_simp); try (with_reducible rfl))
  try simp only [Act.put, List.setIfInBounds_toArray, List.set_cons_zero, List.set_cons_succ]
  refine readyM (i := 29) (o := { dst := Option.some 111, op := Op.call { callee := Callee.value (Operand.func 7), args := #[Operand.tmp 109, Operand.tmp 110], argTypes := #[25, 31] }, type := 4, pos := "law.go:163", after := #[{ on := 27, ground := Ground.data }, { on := 28, ground := Ground.data }, { on := 26, ground := Ground.chain }, { on := 26, ground := Ground.guard }], guard := Option.some (26, Bool.false) }) rfl (by kernel_rfl) ?_
  intro u10 hg10 hS10 K hK
  have hu : Below X9.heap.size X9 u10 := btrH' Y9.out hg10
  clear hS10
  rw [if_pos (by rfl)]
  go_simp
  refine (BD5.out u10 _ _ hu (pl_nil9 _)).mono ?_
  rintro e y10 ⟨rfl, hb⟩
  have Y10 : Hid (Below X9.heap.size X9 y10) := btrH' hu hb
  go_wp2_with fail
  refine hK.out _ _ (HS22.out _ Y10.out) ?_
  clear hK K hg10 hu hb
  try simp only [Act.put, List.setIfInBounds_toArray, List.set_cons_zero, List.set_cons_succ]
  refine wpAnyM_take (i := 30) (oi := { dst := Option.some 112, op := Op.unOp UnOp.not 4 (Operand.tmp 111), type := 4, pos := "law.go:163", after := #[{ on := 29, ground := Ground.data }, { on := 26, ground := Ground.guard }], guard := Option.some (26, Bool.false) }) (v := ?vz21z30) rfl (by kernel_rfl) (by kernel_rfl) (by kernel_rfl) (fun _ _ _ h => h) (YieldsM.of_if (Or.inl ⟨by rfl, ?hz21z30⟩)) ?rz21z30
  case hz21z30 => ((intro wz hSw; (try dsimp only at hSw); go_simp); try (with_reducible rfl))
  try simp only [Act.put, List.setIfInBounds_toArray, List.set_cons_zero, List.set_cons_succ]
  refine wpAnyM_take (i := 31) (oi := { dst := Option.some 113, op := Op.pick (Operand.tmp 108) (Operand.const (Value.bool Bool.true)) (Operand.tmp 112), type := 4, pos := "law.go:163", after := #[{ on := 26, ground := Ground.data }, { on := 30, ground := Ground.data }], guard := Option.none }) (v := ?vz22z31) rfl (by kernel_rfl) (by kernel_rfl) (by kernel_rfl) (fun _ _ _ h => h) (YieldsM.of_if (Or.inl ⟨by rfl, ?hz22z31⟩)) ?rz22z31
  case hz22z31 => ((intro wz hSw; (try dsimp only at hSw); go_simp); try (with_reducible rfl))
  try simp only [Act.put, List.setIfInBounds_toArray, List.set_cons_zero, List.set_cons_succ]
  refine wpAnyM_take (i := 32) (oi := { dst := Option.some 114, op := Op.move (Operand.tmp 113), type := 4, pos := "law.go:163", after := #[{ on := 31, ground := Ground.data }, { on := 29, ground := Ground.chain }], guard := Option.none }) (v := ?vz23z32) rfl (by kernel_rfl) (by kernel_rfl) (by kernel_rfl) (fun _ _ _ h => h) (YieldsM.of_if (Or.inl ⟨by rfl, ?hz23z32⟩)) ?rz23z32
  case hz23z32 => ((intro wz hSw; (try dsimp only at hSw); go_simp); try (with_reducible rfl))
  try simp only [Act.put, List.setIfInBounds_toArray, List.set_cons_zero, List.set_cons_succ]
  refine wpAnyM_take (i := 33) (oi := { dst := Option.some 115, op := Op.load 25 (Operand.tmp 1), type := 25, pos := "law.go:163", after := #[{ on := 32, ground := Ground.guard }], guard := Option.some (32, Bool.false) }) (v := ?vz24z33) rfl (by kernel_rfl) (by kernel_rfl) (by kernel_rfl) (fun _ _ _ h => h) (YieldsM.of_if (Or.inl ⟨by rfl, ?hz24z33⟩)) ?rz24z33
  case hz24z33 => ((intro wz hSw; (try dsimp only at hSw); go_simp); try (with_reducible rfl))
  try simp only [Act.put, List.setIfInBounds_toArray, List.set_cons_zero, List.set_cons_succ]
  refine wpAnyM_take (i := 35) (oi := { dst := Option.some 117, op := Op.load 31 (Operand.tmp 8), type := 31, pos := "law.go:163", after := #[{ on := 32, ground := Ground.guard }], guard := Option.some (32, Bool.false) }) (v := ?vz25z35) rfl (by kernel_rfl) (by kernel_rfl) (by kernel_rfl) (fun _ _ _ h => h) (YieldsM.of_if (Or.inl ⟨by rfl, ?hz25z35⟩)) ?rz25z35
  case hz25z35 => ((intro wz hSw; (try dsimp only at hSw); go_simp); try (with_reducible rfl))
  try simp only [Act.put, List.setIfInBounds_toArray, List.set_cons_zero, List.set_cons_succ]
  refine readyM (i := 34) (o := { dst := Option.some 116, op := Op.call { callee := Callee.value (Operand.func 8), args := #[Operand.const (Value.int IntKind.i64 4), Operand.const (Value.int IntKind.i64 1), Operand.tmp 115], argTypes := #[39, 3, 25] }, type := 25, pos := "law.go:163", after := #[{ on := 33, ground := Ground.data }, { on := 32, ground := Ground.chain }, { on := 32, ground := Ground.guard }], guard := Option.some (32, Bool.false) }) rfl (by kernel_rfl) ?_
  intro u11 hg11 hS11 K hK
  have hu : Below X9.heap.size X9 u11 := btrH' Y10.out hg11
  clear hS11
  rw [if_pos (by rfl)]
  go_simp
  refine (refAt_calls 4 1 14 u11).mono ?_
  rintro e y11 ⟨g11, rfl, hgp, hb⟩
  have Y11 : Hid (Below X9.heap.size X9 y11) := btrH' hu hb
  have P11 : Hid (HasPlaces y11 (.slice (some ⟨g11, 0, none⟩) 1 1) [(4, 1)]) := pl_one9 hgp
  clear hgp
  go_wp2_with fail
  refine hK.out _ _ (HS22.out _ Y11.out) ?_
  clear hK K hg11 hu hb
  try simp only [Act.put, List.setIfInBounds_toArray, List.set_cons_zero, List.set_cons_succ]
  refine readyM (i := 36) (o := { dst := Option.some 118, op := Op.call { callee := Callee.value (Operand.func 7), args := #[Operand.tmp 116, Operand.tmp 117], argTypes := #[25, 31] }, type := 4, pos := "law.go:163", after := #[{ on := 34, ground := Ground.data }, { on := 35, ground := Ground.data }, { on := 34, ground := Ground.chain }, { on := 32, ground := Ground.guard }], guard := Option.some (32, Bool.false) }) rfl (by kernel_rfl) ?_
  intro u12 hg12 hS12 K hK
  have hu : Below X9.heap.size X9 u12 := btrH' Y11.out hg12
  clear hS12
  rw [if_pos (by rfl)]
  go_simp
  refine (BD6.out u12 _ _ hu (HasPlaces.keep P11.out hg12)).mono ?_
  rintro e y12 ⟨rfl, hb⟩
  have Y12 : Hid (Below X9.heap.size X9 y12) := btrH' hu hb
  go_wp2_with fail
  refine hK.out _ _ (HS22.out _ Y12.out) ?_
  clear hK K hg12 hu hb
  try simp only [Act.put, List.setIfInBounds_toArray, List.set_cons_zero, List.set_cons_succ]
  refine wpAnyM_take (i := 37) (oi := { dst := Option.some 119, op := Op.unOp UnOp.not 4 (Operand.tmp 118), type := 4, pos := "law.go:163", after := #[{ on := 36, ground := Ground.data }, { on := 32, ground := Ground.guard }], guard := Option.some (32, Bool.false) }) (v := ?vz26z37) rfl (by kernel_rfl) (by kernel_rfl) (by kernel_rfl) (fun _ _ _ h => h) (YieldsM.of_if (Or.inl ⟨by rfl, ?hz26z37⟩)) ?rz26z37
  case hz26z37 => ((intro wz hSw; (try dsimp only at hSw); go_simp); try (with_reducible rfl))
  try simp only [Act.put, List.setIfInBounds_toArray, List.set_cons_zero, List.set_cons_succ]
  refine wpAnyM_take (i := 38) (oi := { dst := Option.some 120, op := Op.pick (Operand.tmp 114) (Operand.const (Value.bool Bool.true)) (Operand.tmp 119), type := 4, pos := "law.go:163", after := #[{ on := 32, ground := Ground.data }, { on := 37, ground := Ground.data }], guard := Option.none }) (v := ?vz27z38) rfl (by kernel_rfl) (by kernel_rfl) (by kernel_rfl) (fun _ _ _ h => h) (YieldsM.of_if (Or.inl ⟨by rfl, ?hz27z38⟩)) ?rz27z38
  case hz27z38 => ((intro wz hSw; (try dsimp only at hSw); go_simp); try (with_reducible rfl))
  try simp only [Act.put, List.setIfInBounds_toArray, List.set_cons_zero, List.set_cons_succ]
  refine wpAnyM_take (i := 39) (oi := { dst := Option.some 121, op := Op.move (Operand.tmp 120), type := 4, pos := "law.go:163", after := #[{ on := 38, ground := Ground.data }, { on := 36, ground := Ground.chain }], guard := Option.none }) (v := ?vz28z39) rfl (by kernel_rfl) (by kernel_rfl) (by kernel_rfl) (fun _ _ _ h => h) (YieldsM.of_if (Or.inl ⟨by rfl, ?hz28z39⟩)) ?rz28z39
  case hz28z39 => ((intro wz hSw; (try dsimp only at hSw); go_simp); try (with_reducible rfl))
  try simp only [Act.put, List.setIfInBounds_toArray, List.set_cons_zero, List.set_cons_succ]
  refine wpAnyM_take (i := 40) (oi := { dst := Option.some 122, op := Op.load 25 (Operand.tmp 2), type := 25, pos := "law.go:163", after := #[{ on := 39, ground := Ground.guard }], guard := Option.some (39, Bool.false) }) (v := ?vz29z40) rfl (by kernel_rfl) (by kernel_rfl) (by kernel_rfl) (fun _ _ _ h => h) (YieldsM.of_if (Or.inl ⟨by rfl, ?hz29z40⟩)) ?rz29z40
  case hz29z40 => ((intro wz hSw; (try dsimp only at hSw); go_simp); try (with_reducible rfl))
  try simp only [Act.put, List.setIfInBounds_toArray, List.set_cons_zero, List.set_cons_succ]
  refine wpAnyM_take (i := 42) (oi := { dst := Option.some 124, op := Op.load 31 (Operand.tmp 9), type := 31, pos := "law.go:163", after := #[{ on := 39, ground := Ground.guard }], guard := Option.some (39, Bool.false) }) (v := ?vz30z42) rfl (by kernel_rfl) (by kernel_rfl) (by kernel_rfl) (fun _ _ _ h => h) (YieldsM.of_if (Or.inl ⟨by rfl, ?hz30z42⟩)) ?rz30z42
  case hz30z42 => ((intro wz hSw; (try dsimp only at hSw); go_simp); try (with_reducible rfl))
  try simp only [Act.put, List.setIfInBounds_toArray, List.set_cons_zero, List.set_cons_succ]
  refine readyM (i := 41) (o := { dst := Option.some 123, op := Op.call { callee := Callee.value (Operand.func 8), args := #[Operand.const (Value.int IntKind.i64 4), Operand.const (Value.int IntKind.i64 0), Operand.tmp 122], argTypes := #[39, 3, 25] }, type := 25, pos := "law.go:163", after := #[{ on := 40, ground := Ground.data }, { on := 39, ground := Ground.chain }, { on := 39, ground := Ground.guard }], guard := Option.some (39, Bool.false) }) rfl (by kernel_rfl) ?_
  intro u13 hg13 hS13 K hK
  have hu : Below X9.heap.size X9 u13 := btrH' Y12.out hg13
  clear hS13
  rw [if_pos (by rfl)]
  go_simp
  refine (refAt_calls 4 0 8 u13).mono ?_
  rintro e y13 ⟨g13, rfl, hgp, hb⟩
  have Y13 : Hid (Below X9.heap.size X9 y13) := btrH' hu hb
  have P13 : Hid (HasPlaces y13 (.slice (some ⟨g13, 0, none⟩) 1 1) [(4, 0)]) := pl_one9 hgp
  clear hgp
  go_wp2_with fail
  refine hK.out _ _ (HS22.out _ Y13.out) ?_
  clear hK K hg13 hu hb
  try simp only [Act.put, List.setIfInBounds_toArray, List.set_cons_zero, List.set_cons_succ]
  refine readyM (i := 43) (o := { dst := Option.some 125, op := Op.call { callee := Callee.value (Operand.func 7), args := #[Operand.tmp 123, Operand.tmp 124], argTypes := #[25, 31] }, type := 4, pos := "law.go:163", after := #[{ on := 41, ground := Ground.data }, { on := 42, ground := Ground.data }, { on := 41, ground := Ground.chain }, { on := 39, ground := Ground.guard }], guard := Option.some (39, Bool.false) }) rfl (by kernel_rfl) ?_
  intro u14 hg14 hS14 K hK
  have hu : Below X9.heap.size X9 u14 := btrH' Y13.out hg14
  clear hS14
  rw [if_pos (by rfl)]
  go_simp
  refine (BD7.out u14 _ _ hu (HasPlaces.keep P13.out hg14)).mono ?_
  rintro e y14 ⟨rfl, hb⟩
  have Y14 : Hid (Below X9.heap.size X9 y14) := btrH' hu hb
  go_wp2_with fail
  refine hK.out _ _ (HS22.out _ Y14.out) ?_
  clear hK K hg14 hu hb
  try simp only [Act.put, List.setIfInBounds_toArray, List.set_cons_zero, List.set_cons_succ]
  refine wpAnyM_take (i := 44) (oi := { dst := Option.some 126, op := Op.unOp UnOp.not 4 (Operand.tmp 125), type := 4, pos := "law.go:163", after := #[{ on := 43, ground := Ground.data }, { on := 39, ground := Ground.guard }], guard := Option.some (39, Bool.false) }) (v := ?vz31z44) rfl (by kernel_rfl) (by kernel_rfl) (by kernel_rfl) (fun _ _ _ h => h) (YieldsM.of_if (Or.inl ⟨by rfl, ?hz31z44⟩)) ?rz31z44
  case hz31z44 => ((intro wz hSw; (try dsimp only at hSw); go_simp); try (with_reducible rfl))
  try simp only [Act.put, List.setIfInBounds_toArray, List.set_cons_zero, List.set_cons_succ]
  refine wpAnyM_take (i := 45) (oi := { dst := Option.some 127, op := Op.pick (Operand.tmp 121) (Operand.const (Value.bool Bool.true)) (Operand.tmp 126), type := 4, pos := "law.go:163", after := #[{ on := 39, ground := Ground.data }, { on := 44, ground := Ground.data }], guard := Option.none }) (v := ?vz32z45) rfl (by kernel_rfl) (by kernel_rfl) (by kernel_rfl) (fun _ _ _ h => h) (YieldsM.of_if (Or.inl ⟨by rfl, ?hz32z45⟩)) ?rz32z45
  case hz32z45 => ((intro wz hSw; (try dsimp only at hSw); go_simp); try (with_reducible rfl))
  try simp only [Act.put, List.setIfInBounds_toArray, List.set_cons_zero, List.set_cons_succ]
  refine wpAnyM_take (i := 46) (oi := { dst := Option.some 128, op := Op.move (Operand.tmp 127), type := 4, pos := "law.go:163", after := #[{ on := 45, ground := Ground.data }, { on := 43, ground := Ground.chain }], guard := Option.none }) (v := ?vz33z46) rfl (by kernel_rfl) (by kernel_rfl) (by kernel_rfl) (fun _ _ _ h => h) (YieldsM.of_if (Or.inl ⟨by rfl, ?hz33z46⟩)) ?rz33z46
  case hz33z46 => ((intro wz hSw; (try dsimp only at hSw); go_simp); try (with_reducible rfl))
  try simp only [Act.put, List.setIfInBounds_toArray, List.set_cons_zero, List.set_cons_succ]
  refine wpAnyM_take (i := 47) (oi := { dst := Option.some 129, op := Op.load 25 (Operand.tmp 1), type := 25, pos := "law.go:163", after := #[{ on := 46, ground := Ground.guard }], guard := Option.some (46, Bool.false) }) (v := ?vz34z47) rfl (by kernel_rfl) (by kernel_rfl) (by kernel_rfl) (fun _ _ _ h => h) (YieldsM.of_if (Or.inl ⟨by rfl, ?hz34z47⟩)) ?rz34z47
  case hz34z47 => ((intro wz hSw; (try dsimp only at hSw); go_simp); try (with_reducible rfl))
  try simp only [Act.put, List.setIfInBounds_toArray, List.set_cons_zero, List.set_cons_succ]
  refine wpAnyM_take (i := 49) (oi := { dst := Option.some 131, op := Op.load 31 (Operand.tmp 10), type := 31, pos := "law.go:163", after := #[{ on := 46, ground := Ground.guard }], guard := Option.some (46, Bool.false) }) (v := ?vz35z49) rfl (by kernel_rfl) (by kernel_rfl) (by kernel_rfl) (fun _ _ _ h => h) (YieldsM.of_if (Or.inl ⟨by rfl, ?hz35z49⟩)) ?rz35z49
  case hz35z49 => ((intro wz hSw; (try dsimp only at hSw); go_simp); try (with_reducible rfl))
  try simp only [Act.put, List.setIfInBounds_toArray, List.set_cons_zero, List.set_cons_succ]
  refine readyM (i := 48) (o := { dst := Option.some 130, op := Op.call { callee := Callee.value (Operand.func 8), args := #[Operand.const (Value.int IntKind.i64 3), Operand.const (Value.int IntKind.i64 1), Operand.tmp 129], argTypes := #[39, 3, 25] }, type := 25, pos := "law.go:163", after := #[{ on := 47, ground := Ground.data }, { on := 46, ground := Ground.chain }, { on := 46, ground := Ground.guard }], guard := Option.some (46, Bool.false) }) rfl (by kernel_rfl) ?_
  intro u15 hg15 hS15 K hK
  have hu : Below X9.heap.size X9 u15 := btrH' Y14.out hg15
  clear hS15
  rw [if_pos (by rfl)]
  go_simp
  refine (refAt_calls 3 1 14 u15).mono ?_
  rintro e y15 ⟨g15, rfl, hgp, hb⟩
  have Y15 : Hid (Below X9.heap.size X9 y15) := btrH' hu hb
  have P15 : Hid (HasPlaces y15 (.slice (some ⟨g15, 0, none⟩) 1 1) [(3, 1)]) := pl_one9 hgp
  clear hgp
  go_wp2_with fail
  refine hK.out _ _ (HS22.out _ Y15.out) ?_
  clear hK K hg15 hu hb
  try simp only [Act.put, List.setIfInBounds_toArray, List.set_cons_zero, List.set_cons_succ]
  refine readyM (i := 50) (o := { dst := Option.some 132, op := Op.call { callee := Callee.value (Operand.func 7), args := #[Operand.tmp 130, Operand.tmp 131], argTypes := #[25, 31] }, type := 4, pos := "law.go:163", after := #[{ on := 48, ground := Ground.data }, { on := 49, ground := Ground.data }, { on := 48, ground := Ground.chain }, { on := 46, ground := Ground.guard }], guard := Option.some (46, Bool.false) }) rfl (by kernel_rfl) ?_
  intro u16 hg16 hS16 K hK
  have hu : Below X9.heap.size X9 u16 := btrH' Y15.out hg16
  clear hS16
  rw [if_pos (by rfl)]
  go_simp
  refine (BD8.out u16 _ _ hu (HasPlaces.keep P15.out hg16)).mono ?_
  rintro e y16 ⟨rfl, hb⟩
  have Y16 : Hid (Below X9.heap.size X9 y16) := btrH' hu hb
  go_wp2_with fail
  refine hK.out _ _ (HS22.out _ Y16.out) ?_
  clear hK K hg16 hu hb
  try simp only [Act.put, List.setIfInBounds_toArray, List.set_cons_zero, List.set_cons_succ]
  refine wpAnyM_take (i := 51) (oi := { dst := Option.some 133, op := Op.unOp UnOp.not 4 (Operand.tmp 132), type := 4, pos := "law.go:163", after := #[{ on := 50, ground := Ground.data }, { on := 46, ground := Ground.guard }], guard := Option.some (46, Bool.false) }) (v := ?vz36z51) rfl (by kernel_rfl) (by kernel_rfl) (by kernel_rfl) (fun _ _ _ h => h) (YieldsM.of_if (Or.inl ⟨by rfl, ?hz36z51⟩)) ?rz36z51
  case hz36z51 => ((intro wz hSw; (try dsimp only at hSw); go_simp); try (with_reducible rfl))
  try simp only [Act.put, List.setIfInBounds_toArray, List.set_cons_zero, List.set_cons_succ]
  refine wpAnyM_take (i := 52) (oi := { dst := Option.some 134, op := Op.pick (Operand.tmp 128) (Operand.const (Value.bool Bool.true)) (Operand.tmp 133), type := 4, pos := "law.go:163", after := #[{ on := 46, ground := Ground.data }, { on := 51, ground := Ground.data }], guard := Option.none }) (v := ?vz37z52) rfl (by kernel_rfl) (by kernel_rfl) (by kernel_rfl) (fun _ _ _ h => h) (YieldsM.of_if (Or.inl ⟨by rfl, ?hz37z52⟩)) ?rz37z52
  case hz37z52 => ((intro wz hSw; (try dsimp only at hSw); go_simp); try (with_reducible rfl))
  try simp only [Act.put, List.setIfInBounds_toArray, List.set_cons_zero, List.set_cons_succ]
  refine wpAnyM_take (i := 53) (oi := { dst := Option.some 135, op := Op.move (Operand.tmp 134), type := 4, pos := "law.go:163", after := #[{ on := 52, ground := Ground.data }, { on := 50, ground := Ground.chain }], guard := Option.none }) (v := ?vz38z53) rfl (by kernel_rfl) (by kernel_rfl) (by kernel_rfl) (fun _ _ _ h => h) (YieldsM.of_if (Or.inl ⟨by rfl, ?hz38z53⟩)) ?rz38z53
  case hz38z53 => ((intro wz hSw; (try dsimp only at hSw); go_simp); try (with_reducible rfl))
  try simp only [Act.put, List.setIfInBounds_toArray, List.set_cons_zero, List.set_cons_succ]
  refine wpAnyM_take (i := 54) (oi := { dst := Option.some 136, op := Op.load 25 (Operand.tmp 1), type := 25, pos := "law.go:163", after := #[{ on := 53, ground := Ground.guard }], guard := Option.some (53, Bool.false) }) (v := ?vz39z54) rfl (by kernel_rfl) (by kernel_rfl) (by kernel_rfl) (fun _ _ _ h => h) (YieldsM.of_if (Or.inl ⟨by rfl, ?hz39z54⟩)) ?rz39z54
  case hz39z54 => ((intro wz hSw; (try dsimp only at hSw); go_simp); try (with_reducible rfl))
  try simp only [Act.put, List.setIfInBounds_toArray, List.set_cons_zero, List.set_cons_succ]
  refine wpAnyM_take (i := 55) (oi := { dst := Option.some 137, op := Op.load 31 (Operand.tmp 11), type := 31, pos := "law.go:163", after := #[{ on := 53, ground := Ground.guard }], guard := Option.some (53, Bool.false) }) (v := ?vz40z55) rfl (by kernel_rfl) (by kernel_rfl) (by kernel_rfl) (fun _ _ _ h => h) (YieldsM.of_if (Or.inl ⟨by rfl, ?hz40z55⟩)) ?rz40z55
  case hz40z55 => ((intro wz hSw; (try dsimp only at hSw); go_simp); try (with_reducible rfl))
  try simp only [Act.put, List.setIfInBounds_toArray, List.set_cons_zero, List.set_cons_succ]
  refine readyM (i := 56) (o := { dst := Option.some 138, op := Op.call { callee := Callee.value (Operand.func 7), args := #[Operand.tmp 136, Operand.tmp 137], argTypes := #[25, 31] }, type := 4, pos := "law.go:163", after := #[{ on := 54, ground := Ground.data }, { on := 55, ground := Ground.data }, { on := 53, ground := Ground.chain }, { on := 53, ground := Ground.guard }], guard := Option.some (53, Bool.false) }) rfl (by kernel_rfl) ?_
  intro u17 hg17 hS17 K hK
  have hu : Below X9.heap.size X9 u17 := btrH' Y16.out hg17
  clear hS17
  rw [if_pos (by rfl)]
  go_simp
  refine (BD9.out u17 _ _ hu (pl_nil9 _)).mono ?_
  rintro e y17 ⟨rfl, hb⟩
  have Y17 : Hid (Below X9.heap.size X9 y17) := btrH' hu hb
  go_wp2_with fail
  refine hK.out _ _ (HS22.out _ Y17.out) ?_
  clear hK K hg17 hu hb
  try simp only [Act.put, List.setIfInBounds_toArray, List.set_cons_zero, List.set_cons_succ]
  refine wpAnyM_take (i := 57) (oi := { dst := Option.some 139, op := Op.unOp UnOp.not 4 (Operand.tmp 138), type := 4, pos := "law.go:163", after := #[{ on := 56, ground := Ground.data }, { on := 53, ground := Ground.guard }], guard := Option.some (53, Bool.false) }) (v := ?vz41z57) rfl (by kernel_rfl) (by kernel_rfl) (by kernel_rfl) (fun _ _ _ h => h) (YieldsM.of_if (Or.inl ⟨by rfl, ?hz41z57⟩)) ?rz41z57
  case hz41z57 => ((intro wz hSw; (try dsimp only at hSw); go_simp); try (with_reducible rfl))
  try simp only [Act.put, List.setIfInBounds_toArray, List.set_cons_zero, List.set_cons_succ]
  refine wpAnyM_take (i := 58) (oi := { dst := Option.some 140, op := Op.pick (Operand.tmp 135) (Operand.const (Value.bool Bool.true)) (Operand.tmp 139), type := 4, pos := "law.go:163", after := #[{ on := 53, ground := Ground.data }, { on := 57, ground := Ground.data }], guard := Option.none }) (v := ?vz42z58) rfl (by kernel_rfl) (by kernel_rfl) (by kernel_rfl) (fun _ _ _ h => h) (YieldsM.of_if (Or.inl ⟨by rfl, ?hz42z58⟩)) ?rz42z58
  case hz42z58 => ((intro wz hSw; (try dsimp only at hSw); go_simp); try (with_reducible rfl))
  try simp only [Act.put, List.setIfInBounds_toArray, List.set_cons_zero, List.set_cons_succ]
  refine wpAnyM_take (i := 59) (oi := { dst := Option.some 141, op := Op.move (Operand.tmp 140), type := 4, pos := "law.go:163", after := #[{ on := 58, ground := Ground.data }, { on := 56, ground := Ground.chain }], guard := Option.none }) (v := ?vz43z59) rfl (by kernel_rfl) (by kernel_rfl) (by kernel_rfl) (fun _ _ _ h => h) (YieldsM.of_if (Or.inl ⟨by rfl, ?hz43z59⟩)) ?rz43z59
  case hz43z59 => ((intro wz hSw; (try dsimp only at hSw); go_simp); try (with_reducible rfl))
  try simp only [Act.put, List.setIfInBounds_toArray, List.set_cons_zero, List.set_cons_succ]
  refine wpAnyM_take (i := 60) (oi := { dst := Option.some 142, op := Op.load 25 (Operand.tmp 1), type := 25, pos := "law.go:163", after := #[{ on := 59, ground := Ground.guard }], guard := Option.some (59, Bool.false) }) (v := ?vz44z60) rfl (by kernel_rfl) (by kernel_rfl) (by kernel_rfl) (fun _ _ _ h => h) (YieldsM.of_if (Or.inl ⟨by rfl, ?hz44z60⟩)) ?rz44z60
  case hz44z60 => ((intro wz hSw; (try dsimp only at hSw); go_simp); try (with_reducible rfl))
  try simp only [Act.put, List.setIfInBounds_toArray, List.set_cons_zero, List.set_cons_succ]
  refine wpAnyM_take (i := 61) (oi := { dst := Option.some 143, op := Op.build 31 #[], type := 31, pos := "law.go:163", after := #[{ on := 59, ground := Ground.guard }], guard := Option.some (59, Bool.false) }) (v := ?vz45z61) rfl (by kernel_rfl) (by kernel_rfl) (by kernel_rfl) (fun _ _ _ h => h) (YieldsM.of_if (Or.inl ⟨by rfl, ?hz45z61⟩)) ?rz45z61
  case hz45z61 => ((intro wz hSw; (try dsimp only at hSw); go_simp); try (with_reducible rfl))
  try simp only [Act.put, List.setIfInBounds_toArray, List.set_cons_zero, List.set_cons_succ]
  refine readyM (i := 62) (o := { dst := Option.some 144, op := Op.call { callee := Callee.value (Operand.func 7), args := #[Operand.tmp 142, Operand.tmp 143], argTypes := #[25, 31] }, type := 4, pos := "law.go:163", after := #[{ on := 60, ground := Ground.data }, { on := 61, ground := Ground.data }, { on := 59, ground := Ground.chain }, { on := 59, ground := Ground.guard }], guard := Option.some (59, Bool.false) }) rfl (by kernel_rfl) ?_
  intro u18 hg18 hS18 K hK
  have hu : Below X9.heap.size X9 u18 := btrH' Y17.out hg18
  clear hS18
  rw [if_pos (by rfl)]
  go_simp
  refine (BDE.out u18 hu).mono ?_
  rintro e y18 ⟨rfl, hb⟩
  have Y18 : Hid (Below X9.heap.size X9 y18) := btrH' hu hb
  go_wp2_with fail
  refine hK.out _ _ (HS22.out _ Y18.out) ?_
  clear hK K hg18 hu hb
  try simp only [Act.put, List.setIfInBounds_toArray, List.set_cons_zero, List.set_cons_succ]
  refine wpAnyM_take (i := 63) (oi := { dst := Option.some 145, op := Op.unOp UnOp.not 4 (Operand.tmp 144), type := 4, pos := "law.go:163", after := #[{ on := 62, ground := Ground.data }, { on := 59, ground := Ground.guard }], guard := Option.some (59, Bool.false) }) (v := ?vz46z63) rfl (by kernel_rfl) (by kernel_rfl) (by kernel_rfl) (fun _ _ _ h => h) (YieldsM.of_if (Or.inl ⟨by rfl, ?hz46z63⟩)) ?rz46z63
  case hz46z63 => ((intro wz hSw; (try dsimp only at hSw); go_simp); try (with_reducible rfl))
  try simp only [Act.put, List.setIfInBounds_toArray, List.set_cons_zero, List.set_cons_succ]
  refine wpAnyM_take (i := 64) (oi := { dst := Option.some 146, op := Op.pick (Operand.tmp 141) (Operand.const (Value.bool Bool.true)) (Operand.tmp 145), type := 4, pos := "law.go:163", after := #[{ on := 59, ground := Ground.data }, { on := 63, ground := Ground.data }], guard := Option.none }) (v := ?vz47z64) rfl (by kernel_rfl) (by kernel_rfl) (by kernel_rfl) (fun _ _ _ h => h) (YieldsM.of_if (Or.inl ⟨by rfl, ?hz47z64⟩)) ?rz47z64
  case hz47z64 => ((intro wz hSw; (try dsimp only at hSw); go_simp); try (with_reducible rfl))
  try simp only [Act.put, List.setIfInBounds_toArray, List.set_cons_zero, List.set_cons_succ]
  refine wpAnyM_done (by kernel_rfl) ?_ _
  intro y99 hg9 hS9
  have Y99 : Hid (Below X9.heap.size X9 y99) := btrH' Y18.out hg9
  clear hS9 hg9
  obtain ⟨r, hr⟩ : ∃ r, y99.heap.size = r := ⟨_, rfl⟩
  have hbn := build_hnone r (r + 1)
  obtain ⟨Z, hZ⟩ : ∃ Z, ((y99.alloc (.cells #[.int .u32 0] 34)).alloc (.cells #[.int .u32 0] 34)).alloc (.cells #[.slice none 0 0, .slice (some ⟨r, 0, none⟩) 1 1, .slice none 0 0, .slice (some ⟨r + 1, 0, none⟩) 1 1, .slice none 0 0] 31) = Z := ⟨_, rfl⟩
  have HZ : Hid (((y99.alloc (.cells #[.int .u32 0] 34)).alloc (.cells #[.int .u32 0] 34)).alloc (.cells #[.slice none 0 0, .slice (some ⟨r, 0, none⟩) 1 1, .slice none 0 0, .slice (some ⟨r + 1, 0, none⟩) 1 1, .slice none 0 0] 31) = Z) := hZ
  have FZ : Hid (∀ wx, Below Z.heap.size Z wx → wx.heap[r + 2]? = some (.cells #[.slice none 0 0, .slice (some ⟨r, 0, none⟩) 1 1, .slice none 0 0, .slice (some ⟨r + 1, 0, none⟩) 1 1, .slice none 0 0] 31) ∧ HasH wx ⟨none, some ⟨r, 0, none⟩, none, some ⟨r + 1, 0, none⟩, none, 0, 1, 0, 1, 0⟩ noneH ∧ Below X9.heap.size X9 wx) := fun wx hx => by
    have g0 : Z.heap[r]? = some (.cells #[.int .u32 0] 34) := by rw [← hZ, ← hr]; exact (Below.heap_alloc _ _ _ (by simp; omega)).trans ((Below.heap_alloc _ _ _ (by simp)).trans (heap_newW _ _))
    have g1 : Z.heap[r + 1]? = some (.cells #[.int .u32 0] 34) := by
      have g := heap_newW (y99.alloc (.cells #[.int .u32 0] 34)) (.cells #[.int .u32 0] 34)
      rw [World.size_alloc, hr] at g
      rw [← hZ]
      exact (Below.heap_alloc _ _ _ (by rw [World.size_alloc, World.size_alloc, hr]; omega)).trans g
    have g2 : Z.heap[r + 2]? = some (.cells #[.slice none 0 0, .slice (some ⟨r, 0, none⟩) 1 1, .slice none 0 0, .slice (some ⟨r + 1, 0, none⟩) 1 1, .slice none 0 0] 31) := by
      have g := heap_newW ((y99.alloc (.cells #[.int .u32 0] 34)).alloc (.cells #[.int .u32 0] 34)) (.cells #[.slice none 0 0, .slice (some ⟨r, 0, none⟩) 1 1, .slice none 0 0, .slice (some ⟨r + 1, 0, none⟩) 1 1, .slice none 0 0] 31)
      rw [World.size_alloc, World.size_alloc, hZ, hr] at g
      exact g
    have g3 : Below y99.heap.size y99 Z := by rw [← hZ]; exact (((Below.refl _ _).alloc (Nat.le_refl _) _).alloc (by simp) _).alloc (by simp; omega) _
    exact ⟨(hx.block _ (some_lt g2)).trans g2, ⟨ws_nil _, ws_new (xs := [0]) ((hx.block _ (some_lt g0)).trans g0) (by decide) (Nat.le_refl _), ls_nil _, ws_new (xs := [0]) ((hx.block _ (some_lt g1)).trans g1) (by decide) (Nat.le_refl _), ls_nil _⟩, btrH' Y99.out (btrH' g3 hx)⟩
  clear hZ
  go_upto_region 25 with fail
  rw [HZ.out]
  clear HZ hr hbn
  have HSS : Hid (∀ wx : World, Below Z.heap.size Z wx → (fun w' => w'.cell? ⟨r + 2, 0, none⟩ = some (.slice none 0 0) ∧ w'.cell? ⟨r + 2, 1, none⟩ = some (.slice (some ⟨r, 0, none⟩) 1 1) ∧ w'.cell? ⟨r + 2, 2, none⟩ = some (.slice none 0 0) ∧ w'.cell? ⟨r + 2, 3, none⟩ = some (.slice (some ⟨r + 1, 0, none⟩) 1 1) ∧ w'.cell? ⟨r + 2, 4, none⟩ = some (.slice none 0 0) ∧ w'.cell? ⟨s, 0, none⟩ = some (.int .i64 14) ∧ w'.cell? ⟨s, 1, none⟩ = some (.slice none 0 0) ∧ Hid (Below Z.heap.size Z w')) wx) := fun wx hx => by
    obtain ⟨q1, q2, q3⟩ := FZ.out wx hx
    obtain ⟨b0, b1, b2, b3, b4⟩ := five_cells q1
    obtain ⟨a0, a1, _, _⟩ := cell_two (G0.out wx q3).1
    exact ⟨b0, b1, b2, b3, b4, a0, a1, hx⟩
  have HSB : Hid (∀ wx : World, (fun w' => w'.cell? ⟨r + 2, 0, none⟩ = some (.slice none 0 0) ∧ w'.cell? ⟨r + 2, 1, none⟩ = some (.slice (some ⟨r, 0, none⟩) 1 1) ∧ w'.cell? ⟨r + 2, 2, none⟩ = some (.slice none 0 0) ∧ w'.cell? ⟨r + 2, 3, none⟩ = some (.slice (some ⟨r + 1, 0, none⟩) 1 1) ∧ w'.cell? ⟨r + 2, 4, none⟩ = some (.slice none 0 0) ∧ w'.cell? ⟨s, 0, none⟩ = some (.int .i64 14) ∧ w'.cell? ⟨s, 1, none⟩ = some (.slice none 0 0) ∧ Hid (Below Z.heap.size Z w')) wx → Below Z.heap.size Z wx) := fun wx hx => hx.2.2.2.2.2.2.2.out
  have HC1 : Hid (∀ wx : World, (fun w' => w'.cell? ⟨r + 2, 0, none⟩ = some (.slice none 0 0) ∧ w'.cell? ⟨r + 2, 1, none⟩ = some (.slice (some ⟨r, 0, none⟩) 1 1) ∧ w'.cell? ⟨r + 2, 2, none⟩ = some (.slice none 0 0) ∧ w'.cell? ⟨r + 2, 3, none⟩ = some (.slice (some ⟨r + 1, 0, none⟩) 1 1) ∧ w'.cell? ⟨r + 2, 4, none⟩ = some (.slice none 0 0) ∧ w'.cell? ⟨s, 0, none⟩ = some (.int .i64 14) ∧ w'.cell? ⟨s, 1, none⟩ = some (.slice none 0 0) ∧ Hid (Below Z.heap.size Z w')) wx → Calls Tryd.prog 9 #[.agg #[.slice none 0 0, .slice (some ⟨r, 0, none⟩) 1 1, .slice none 0 0, .slice (some ⟨r + 1, 0, none⟩) 1 1, .slice none 0 0]] wx fun e w' => e = .returned .nilIface ∧ Grows wx w' ∧ (fun w' => w'.cell? ⟨r + 2, 0, none⟩ = some (.slice none 0 0) ∧ w'.cell? ⟨r + 2, 1, none⟩ = some (.slice (some ⟨r, 0, none⟩) 1 1) ∧ w'.cell? ⟨r + 2, 2, none⟩ = some (.slice none 0 0) ∧ w'.cell? ⟨r + 2, 3, none⟩ = some (.slice (some ⟨r + 1, 0, none⟩) 1 1) ∧ w'.cell? ⟨r + 2, 4, none⟩ = some (.slice none 0 0) ∧ w'.cell? ⟨s, 0, none⟩ = some (.int .i64 14) ∧ w'.cell? ⟨s, 1, none⟩ = some (.slice none 0 0) ∧ Hid (Below Z.heap.size Z w')) w') := fun wx hS => by
    refine (check_calls ⟨none, some ⟨r, 0, none⟩, none, some ⟨r + 1, 0, none⟩, none, 0, 1, 0, 1, 0⟩ noneH wx (FZ.out wx (HSB.out wx hS)).2.1 (by decide) (by decide) (by decide)).mono ?_
    rintro e w' ⟨u, rfl, ht, hb⟩
    rw [chkNone] at ht
    rw [told_zero ht]
    exact ⟨rfl, hb, HSS.out w' (btrH' (HSB.out wx hS) hb)⟩
  have HC9 : Hid (∀ wx : World, (fun w' => w'.cell? ⟨r + 2, 0, none⟩ = some (.slice none 0 0) ∧ w'.cell? ⟨r + 2, 1, none⟩ = some (.slice (some ⟨r, 0, none⟩) 1 1) ∧ w'.cell? ⟨r + 2, 2, none⟩ = some (.slice none 0 0) ∧ w'.cell? ⟨r + 2, 3, none⟩ = some (.slice (some ⟨r + 1, 0, none⟩) 1 1) ∧ w'.cell? ⟨r + 2, 4, none⟩ = some (.slice none 0 0) ∧ w'.cell? ⟨s, 0, none⟩ = some (.int .i64 14) ∧ w'.cell? ⟨s, 1, none⟩ = some (.slice none 0 0) ∧ Hid (Below Z.heap.size Z w')) wx → Calls Tryd.prog 5 #[.int .i64 9] wx fun e w' => e = .returned (.agg #[.int .i64 9, .slice none 0 0]) ∧ Grows wx w' ∧ (fun w' => w'.cell? ⟨r + 2, 0, none⟩ = some (.slice none 0 0) ∧ w'.cell? ⟨r + 2, 1, none⟩ = some (.slice (some ⟨r, 0, none⟩) 1 1) ∧ w'.cell? ⟨r + 2, 2, none⟩ = some (.slice none 0 0) ∧ w'.cell? ⟨r + 2, 3, none⟩ = some (.slice (some ⟨r + 1, 0, none⟩) 1 1) ∧ w'.cell? ⟨r + 2, 4, none⟩ = some (.slice none 0 0) ∧ w'.cell? ⟨s, 0, none⟩ = some (.int .i64 14) ∧ w'.cell? ⟨s, 1, none⟩ = some (.slice none 0 0) ∧ Hid (Below Z.heap.size Z w')) w') := fun wx hS => (E_calls 9 wx).mono (by rintro e w' ⟨rfl, hb⟩; exact ⟨rfl, hb, HSS.out w' (btrH' (HSB.out wx hS) hb)⟩)
  have HB7 : Hid (∀ (wx : World) (b : Nat), Below Z.heap.size Z wx → wx.heap[b]? = some (.cells (madeCells #[.int .u32 0] 65537) 34) → Calls Tryd.prog 7 #[.agg #[.int .i64 9, .slice none 0 0], .agg #[.slice (some ⟨b, 0, none⟩) 65537 65537, .slice none 0 0, .slice none 0 0, .slice none 0 0, .slice none 0 0]] wx fun e w' => e = .returned (.bool true) ∧ Below wx.heap.size wx w') := fun wx b hx hr => badN wx b (HTY.out wx (G0.out wx (FZ.out wx hx).2.2).2.2) hr
  have HBL : Hid (∀ (wx : World) (b c : Nat), Below Z.heap.size Z wx → wx.heap[b]? = some (.cells (madeCells #[.int .u32 0, .int .u64 0, .int .u32 0, .int .u32 0] (524288 * 4)) 36) → wx.heap[c]? = some (.cells (madeCells #[.int .u32 0, .int .u64 0, .int .u32 0, .int .u32 0] (524289 * 4)) 36) → Calls Tryd.prog 7 #[.agg #[.int .i64 9, .slice none 0 0], .agg #[.slice none 0 0, .slice none 0 0, .slice (some ⟨b, 0, none⟩) 524288 524288, .slice none 0 0, .slice (some ⟨c, 0, none⟩) 524289 524289]] wx fun e w' => e = .returned (.bool true) ∧ Below wx.heap.size wx w') := fun wx b c hx hr hr2 => badL wx b c (HTY.out wx (G0.out wx (FZ.out wx hx).2.2).2.2) hr hr2
  have HBS : Hid (∀ (wx : World) (b c : Nat), Below Z.heap.size Z wx → wx.heap[b]? = some (.cells (madeCells #[.int .u32 0, .int .u64 0, .int .u32 0, .int .u32 0] (524288 * 4)) 36) → wx.heap[c]? = some (.cells (madeCells #[.int .u32 0, .int .u64 0, .int .u32 0, .int .u32 0] (524288 * 4)) 36) → Calls Tryd.prog 7 #[.agg #[.int .i64 14, .slice none 0 0], .agg #[.slice none 0 0, .slice none 0 0, .slice (some ⟨b, 0, none⟩) 524288 524288, .slice none 0 0, .slice (some ⟨c, 0, none⟩) 524288 524288]] wx fun e w' => e = .returned (.bool true) ∧ Below wx.heap.size wx w') := fun wx b c hx hr hr2 => badS wx b c (HTY.out wx (G0.out wx (FZ.out wx hx).2.2).2.2) hr hr2
  refine wp_region_M (S := (fun w' => w'.cell? ⟨r + 2, 0, none⟩ = some (.slice none 0 0) ∧ w'.cell? ⟨r + 2, 1, none⟩ = some (.slice (some ⟨r, 0, none⟩) 1 1) ∧ w'.cell? ⟨r + 2, 2, none⟩ = some (.slice none 0 0) ∧ w'.cell? ⟨r + 2, 3, none⟩ = some (.slice (some ⟨r + 1, 0, none⟩) 1 1) ∧ w'.cell? ⟨r + 2, 4, none⟩ = some (.slice none 0 0) ∧ w'.cell? ⟨s, 0, none⟩ = some (.int .i64 14) ∧ w'.cell? ⟨s, 1, none⟩ = some (.slice none 0 0) ∧ Hid (Below Z.heap.size Z w'))) (by kernel_rfl) (HSS.out _ (Below.refl _ _).drew) ?_
  refine wpAnyM_take (i := 0) (oi := { dst := Option.some 150, op := Op.load 31 (Operand.tmp 12), type := 31, pos := "law.go:167", after := #[], guard := Option.none }) (v := ?va48z0) rfl (by kernel_rfl) (by kernel_rfl) (by kernel_rfl) (fun _ _ _ h => h) (YieldsM.of_if (Or.inl ⟨by rfl, ?ha48z0⟩)) ?ra48z0
  case ha48z0 => ((intro wz hSw; (try dsimp only at hSw); go_simp); try (with_reducible rfl))
  try simp only [Act.put, List.setIfInBounds_toArray, List.set_cons_zero, List.set_cons_succ]
  refine wpAnyM_take (i := 1) (oi := { dst := Option.some 151, op := Op.call { callee := Callee.value (Operand.func 9), args := #[Operand.tmp 150], argTypes := #[31] }, type := 41, pos := "law.go:167", after := #[{ on := 0, ground := Ground.data }], guard := Option.none }) (v := .nilIface) rfl (by kernel_rfl) (by kernel_rfl) (by kernel_rfl) (fun _ _ _ h => h) (YieldsM.of_call (f := 9) (by rfl) (fun _ _ => by kernel_rfl) (HC1.out)) ?_
  try simp only [Act.put, List.setIfInBounds_toArray, List.set_cons_zero, List.set_cons_succ]
  refine wpAnyM_take (i := 2) (oi := { dst := Option.some 152, op := Op.binOp BinOp.neq 41 (Operand.tmp 151) (Operand.const Value.nilIface) 41, type := 4, pos := "law.go:167", after := #[{ on := 1, ground := Ground.data }], guard := Option.none }) (v := ?va49z2) rfl (by kernel_rfl) (by kernel_rfl) (by kernel_rfl) (fun _ _ _ h => h) (YieldsM.of_if (Or.inl ⟨by rfl, ?ha49z2⟩)) ?ra49z2
  case ha49z2 => ((intro wz hSw; (try dsimp only at hSw); go_simp); try (with_reducible rfl))
  try simp only [Act.put, List.setIfInBounds_toArray, List.set_cons_zero, List.set_cons_succ]
  refine wpAnyM_take (i := 3) (oi := { dst := Option.some 153, op := Op.move (Operand.tmp 152), type := 4, pos := "law.go:167", after := #[{ on := 2, ground := Ground.data }, { on := 1, ground := Ground.chain }], guard := Option.none }) (v := ?va50z3) rfl (by kernel_rfl) (by kernel_rfl) (by kernel_rfl) (fun _ _ _ h => h) (YieldsM.of_if (Or.inl ⟨by rfl, ?ha50z3⟩)) ?ra50z3
  case ha50z3 => ((intro wz hSw; (try dsimp only at hSw); go_simp); try (with_reducible rfl))
  try simp only [Act.put, List.setIfInBounds_toArray, List.set_cons_zero, List.set_cons_succ]
  refine wpAnyM_take (i := 4) (oi := { dst := Option.some 154, op := Op.call { callee := Callee.value (Operand.func 5), args := #[Operand.const (Value.int IntKind.i64 9)], argTypes := #[27] }, type := 25, pos := "law.go:167", after := #[{ on := 3, ground := Ground.chain }, { on := 3, ground := Ground.guard }], guard := Option.some (3, Bool.false) }) (v := (.agg #[.int .i64 9, .slice none 0 0])) rfl (by kernel_rfl) (by kernel_rfl) (by kernel_rfl) (fun _ _ _ h => h) (YieldsM.of_call (f := 5) (by rfl) (fun _ _ => by kernel_rfl) (HC9.out)) ?_
  try simp only [Act.put, List.setIfInBounds_toArray, List.set_cons_zero, List.set_cons_succ]
  refine readyM (i := 5) (o := { dst := Option.some 155, op := Op.makeSlice 28 (Operand.const (Value.int IntKind.i64 65537)) (Operand.const (Value.int IntKind.i64 65537)), type := 28, pos := "law.go:167", after := #[{ on := 3, ground := Ground.guard }], guard := Option.some (3, Bool.false) }) rfl (by kernel_rfl) ?_
  intro u1 hg1 hS1 K hK
  have hmk := make_w
  have F1 : Hid (∀ wx, Below (u1.alloc (.cells (madeCells #[.int .u32 0] 65537) 34)).heap.size (u1.alloc (.cells (madeCells #[.int .u32 0] 65537) 34)) wx → wx.heap[u1.heap.size]? = some (.cells (madeCells #[.int .u32 0] 65537) 34) ∧ Below Z.heap.size Z wx) := fun wx hx => by
    have g1 := heap_newW u1 (.cells (madeCells #[.int .u32 0] 65537) 34)
    have g2 : Below u1.heap.size u1 (u1.alloc (.cells (madeCells #[.int .u32 0] 65537) 34)) := (Below.refl _ _).alloc (Nat.le_refl _) _
    exact ⟨(hx.block _ (some_lt g1)).trans g1, btrH' (Below.refl _ _).drew (btrH' hg1 (btrH' g2 hx))⟩
  clear hS1
  go_simp
  refine hK.out _ _ (HSS.out _ (F1.out _ (Below.refl _ _)).2) ?_
  clear hK K hmk
  obtain ⟨g, hgg⟩ : ∃ g, u1.heap.size = g := ⟨_, rfl⟩
  rw [hgg] at F1 ⊢
  generalize u1.alloc (.cells (madeCells #[.int .u32 0] 65537) 34) = U2 at F1 ⊢
  clear hgg hg1
  have hbb := build_hn g 65537
  try simp only [Act.put, List.setIfInBounds_toArray, List.set_cons_zero, List.set_cons_succ]
  refine wpAnyM_take (i := 6) (oi := { dst := Option.some 156, op := Op.build 31 #[(0, Operand.tmp 155)], type := 31, pos := "law.go:167", after := #[{ on := 5, ground := Ground.data }, { on := 3, ground := Ground.guard }], guard := Option.some (3, Bool.false) }) (v := ?va51z6) rfl (by kernel_rfl) (by kernel_rfl) (by kernel_rfl) (fun _ _ _ h => h) (YieldsM.of_if (Or.inl ⟨by rfl, ?ha51z6⟩)) ?ra51z6
  case ha51z6 => ((intro wz hSw; (try dsimp only at hSw); go_simp); try (with_reducible rfl))
  try simp only [Act.put, List.setIfInBounds_toArray, List.set_cons_zero, List.set_cons_succ]
  clear hbb
  refine readyM (i := 7) (o := { dst := Option.some 157, op := Op.call { callee := Callee.value (Operand.func 7), args := #[Operand.tmp 154, Operand.tmp 156], argTypes := #[25, 31] }, type := 4, pos := "law.go:167", after := #[{ on := 4, ground := Ground.data }, { on := 6, ground := Ground.data }, { on := 4, ground := Ground.chain }, { on := 3, ground := Ground.guard }], guard := Option.some (3, Bool.false) }) rfl (by kernel_rfl) ?_
  intro u2 hg2 hS2 K hK
  have hf := F1.out u2 hg2
  clear hS2
  go_simp
  refine (HB7.out u2 g hf.2 hf.1).mono ?_
  rintro e v2 ⟨rfl, hb⟩
  go_wp2_with fail
  have N2 : Hid (Below Z.heap.size Z v2) := btrH' (F1.out u2 hg2).2 hb
  refine hK.out _ _ (HSS.out _ N2.out) ?_
  clear hK K hf hg2 hb
  try simp only [Act.put, List.setIfInBounds_toArray, List.set_cons_zero, List.set_cons_succ]
  refine wpAnyM_take (i := 8) (oi := { dst := Option.some 158, op := Op.unOp UnOp.not 4 (Operand.tmp 157), type := 4, pos := "law.go:167", after := #[{ on := 7, ground := Ground.data }, { on := 3, ground := Ground.guard }], guard := Option.some (3, Bool.false) }) (v := ?vb52z8) rfl (by kernel_rfl) (by kernel_rfl) (by kernel_rfl) (fun _ _ _ h => h) (YieldsM.of_if (Or.inl ⟨by rfl, ?hb52z8⟩)) ?rb52z8
  case hb52z8 => ((intro wz hSw; (try dsimp only at hSw); go_simp); try (with_reducible rfl))
  try simp only [Act.put, List.setIfInBounds_toArray, List.set_cons_zero, List.set_cons_succ]
  refine wpAnyM_take (i := 9) (oi := { dst := Option.some 159, op := Op.pick (Operand.tmp 153) (Operand.const (Value.bool Bool.true)) (Operand.tmp 158), type := 4, pos := "law.go:167", after := #[{ on := 3, ground := Ground.data }, { on := 8, ground := Ground.data }], guard := Option.none }) (v := ?vb53z9) rfl (by kernel_rfl) (by kernel_rfl) (by kernel_rfl) (fun _ _ _ h => h) (YieldsM.of_if (Or.inl ⟨by rfl, ?hb53z9⟩)) ?rb53z9
  case hb53z9 => ((intro wz hSw; (try dsimp only at hSw); go_simp); try (with_reducible rfl))
  try simp only [Act.put, List.setIfInBounds_toArray, List.set_cons_zero, List.set_cons_succ]
  refine wpAnyM_take (i := 10) (oi := { dst := Option.some 160, op := Op.move (Operand.tmp 159), type := 4, pos := "law.go:167", after := #[{ on := 9, ground := Ground.data }, { on := 7, ground := Ground.chain }], guard := Option.none }) (v := ?vb54z10) rfl (by kernel_rfl) (by kernel_rfl) (by kernel_rfl) (fun _ _ _ h => h) (YieldsM.of_if (Or.inl ⟨by rfl, ?hb54z10⟩)) ?rb54z10
  case hb54z10 => ((intro wz hSw; (try dsimp only at hSw); go_simp); try (with_reducible rfl))
  try simp only [Act.put, List.setIfInBounds_toArray, List.set_cons_zero, List.set_cons_succ]
  refine wpAnyM_take (i := 11) (oi := { dst := Option.some 161, op := Op.call { callee := Callee.value (Operand.func 5), args := #[Operand.const (Value.int IntKind.i64 9)], argTypes := #[27] }, type := 25, pos := "law.go:167", after := #[{ on := 10, ground := Ground.chain }, { on := 10, ground := Ground.guard }], guard := Option.some (10, Bool.false) }) (v := (.agg #[.int .i64 9, .slice none 0 0])) rfl (by kernel_rfl) (by kernel_rfl) (by kernel_rfl) (fun _ _ _ h => h) (YieldsM.of_call (f := 5) (by rfl) (fun _ _ => by kernel_rfl) (HC9.out)) ?_
  try simp only [Act.put, List.setIfInBounds_toArray, List.set_cons_zero, List.set_cons_succ]
  have Gp : Hid (Below Z.heap.size Z v2) := N2.out
  refine wpAnyM_lays 2 [⟨12, { dst := Option.some 162, op := Op.makeSlice 29 (Operand.const (Value.int IntKind.i64 524288)) (Operand.const (Value.int IntKind.i64 524288)), type := 29, pos := "law.go:167", after := #[{ on := 10, ground := Ground.guard }], guard := Option.some (10, Bool.false) }, fun b => .slice (some ⟨b, 0, none⟩) 524288 524288, (.cells (madeCells #[.int .u32 0, .int .u64 0, .int .u32 0, .int .u32 0] (524288 * 4)) 36)⟩, ⟨13, { dst := Option.some 163, op := Op.makeSlice 29 (Operand.const (Value.int IntKind.i64 524289)) (Operand.const (Value.int IntKind.i64 524289)), type := 29, pos := "law.go:167", after := #[{ on := 10, ground := Ground.guard }], guard := Option.some (10, Bool.false) }, fun b => .slice (some ⟨b, 0, none⟩) 524289 524289, (.cells (madeCells #[.int .u32 0, .int .u64 0, .int .u32 0, .int .u32 0] (524289 * 4)) 36)⟩] _ _ _ 12 rfl (by kernel_rfl) ?hip ?hndp (layM_apart (by kernel_rfl)) ?hselp ?hLp (fun wx hx => HSS.out wx (btrH' Gp.out hx)) ?hAp
  case hip =>
    intro r hr
    simp only [List.mem_cons, List.not_mem_nil, or_false] at hr
    rcases hr with rfl | rfl <;> rfl
  case hndp => simp
  case hselp =>
    intro r hr cs b h
    simp only [List.mem_cons, List.not_mem_nil, or_false] at hr
    rcases hr with rfl | rfl <;> cases h
  case hLp =>
    intro r hr
    simp only [List.mem_cons, List.not_mem_nil, or_false] at hr
    rcases hr with rfl | rfl
    all_goals exact ⟨by rfl, fun wz => by (have ha := make_a; have hb := make_b; go_simp)⟩
  intro β Zp hβ hβn hbl
  have g1 := hβ _ List.mem_cons_self
  have g2 := hβ _ (List.mem_cons_of_mem _ List.mem_cons_self)
  dsimp only at g1 g2
  clear hβ hβn
  simp only [List.foldl_cons, List.foldl_nil]
  try simp only [Act.put, List.setIfInBounds_toArray, List.set_cons_zero, List.set_cons_succ]
  generalize β 12 = e1p at *
  generalize β 13 = e2p at *
  have Mp : Hid (∀ wx, Below Zp.heap.size Zp wx → (wx.heap[e1p]? = some (.cells (madeCells #[.int .u32 0, .int .u64 0, .int .u32 0, .int .u32 0] (524288 * 4)) 36) ∧ wx.heap[e2p]? = some (.cells (madeCells #[.int .u32 0, .int .u64 0, .int .u32 0, .int .u32 0] (524289 * 4)) 36)) ∧ Below Z.heap.size Z wx) := fun wx hx => ⟨⟨(hx.block _ (some_lt g1.1)).trans g1.1, (hx.block _ (some_lt g2.1)).trans g2.1⟩, btrH' (btrH' Gp.out hbl) hx⟩
  clear g1 g2 hbl
  have hbb := build_hl e1p e2p 524288 524289
  refine wpAnyM_take (i := 14) (oi := { dst := Option.some 164, op := Op.build 31 #[(2, Operand.tmp 162), (4, Operand.tmp 163)], type := 31, pos := "law.go:167", after := #[{ on := 12, ground := Ground.data }, { on := 13, ground := Ground.data }, { on := 10, ground := Ground.guard }], guard := Option.some (10, Bool.false) }) (v := ?vc55z14) rfl (by kernel_rfl) (by kernel_rfl) (by kernel_rfl) (fun _ _ _ h => h) (YieldsM.of_if (Or.inl ⟨by rfl, ?hc55z14⟩)) ?rc55z14
  case hc55z14 => ((intro wz hSw; (try dsimp only at hSw); go_simp); try (with_reducible rfl))
  try simp only [Act.put, List.setIfInBounds_toArray, List.set_cons_zero, List.set_cons_succ]
  clear hbb
  refine readyM (i := 15) (o := { dst := Option.some 165, op := Op.call { callee := Callee.value (Operand.func 7), args := #[Operand.tmp 161, Operand.tmp 164], argTypes := #[25, 31] }, type := 4, pos := "law.go:167", after := #[{ on := 11, ground := Ground.data }, { on := 14, ground := Ground.data }, { on := 11, ground := Ground.chain }, { on := 10, ground := Ground.guard }], guard := Option.some (10, Bool.false) }) rfl (by kernel_rfl) ?_
  intro u3 hg3 hS3 K hK
  have hf := Mp.out u3 hg3
  clear hS3
  go_simp
  refine (HBL.out u3 e1p e2p hf.2 hf.1.1 hf.1.2).mono ?_
  rintro e v3 ⟨rfl, hb⟩
  go_wp2_with fail
  have N3 : Hid (Below Z.heap.size Z v3) := btrH' (Mp.out u3 hg3).2 hb
  refine hK.out _ _ (HSS.out _ N3.out) ?_
  clear hK K hf hg3 hb
  try simp only [Act.put, List.setIfInBounds_toArray, List.set_cons_zero, List.set_cons_succ]
  refine wpAnyM_take (i := 16) (oi := { dst := Option.some 166, op := Op.unOp UnOp.not 4 (Operand.tmp 165), type := 4, pos := "law.go:167", after := #[{ on := 15, ground := Ground.data }, { on := 10, ground := Ground.guard }], guard := Option.some (10, Bool.false) }) (v := ?vd56z16) rfl (by kernel_rfl) (by kernel_rfl) (by kernel_rfl) (fun _ _ _ h => h) (YieldsM.of_if (Or.inl ⟨by rfl, ?hd56z16⟩)) ?rd56z16
  case hd56z16 => ((intro wz hSw; (try dsimp only at hSw); go_simp); try (with_reducible rfl))
  try simp only [Act.put, List.setIfInBounds_toArray, List.set_cons_zero, List.set_cons_succ]
  refine wpAnyM_take (i := 17) (oi := { dst := Option.some 167, op := Op.pick (Operand.tmp 160) (Operand.const (Value.bool Bool.true)) (Operand.tmp 166), type := 4, pos := "law.go:167", after := #[{ on := 10, ground := Ground.data }, { on := 16, ground := Ground.data }], guard := Option.none }) (v := ?vd57z17) rfl (by kernel_rfl) (by kernel_rfl) (by kernel_rfl) (fun _ _ _ h => h) (YieldsM.of_if (Or.inl ⟨by rfl, ?hd57z17⟩)) ?rd57z17
  case hd57z17 => ((intro wz hSw; (try dsimp only at hSw); go_simp); try (with_reducible rfl))
  try simp only [Act.put, List.setIfInBounds_toArray, List.set_cons_zero, List.set_cons_succ]
  refine wpAnyM_take (i := 18) (oi := { dst := Option.some 168, op := Op.move (Operand.tmp 167), type := 4, pos := "law.go:167", after := #[{ on := 17, ground := Ground.data }, { on := 15, ground := Ground.chain }], guard := Option.none }) (v := ?vd58z18) rfl (by kernel_rfl) (by kernel_rfl) (by kernel_rfl) (fun _ _ _ h => h) (YieldsM.of_if (Or.inl ⟨by rfl, ?hd58z18⟩)) ?rd58z18
  case hd58z18 => ((intro wz hSw; (try dsimp only at hSw); go_simp); try (with_reducible rfl))
  try simp only [Act.put, List.setIfInBounds_toArray, List.set_cons_zero, List.set_cons_succ]
  refine wpAnyM_take (i := 19) (oi := { dst := Option.some 169, op := Op.load 25 (Operand.tmp 1), type := 25, pos := "law.go:167", after := #[{ on := 18, ground := Ground.guard }], guard := Option.some (18, Bool.false) }) (v := ?vd59z19) rfl (by kernel_rfl) (by kernel_rfl) (by kernel_rfl) (fun _ _ _ h => h) (YieldsM.of_if (Or.inl ⟨by rfl, ?hd59z19⟩)) ?rd59z19
  case hd59z19 => ((intro wz hSw; (try dsimp only at hSw); go_simp); try (with_reducible rfl))
  try simp only [Act.put, List.setIfInBounds_toArray, List.set_cons_zero, List.set_cons_succ]
  have Gq : Hid (Below Z.heap.size Z v3) := N3.out
  refine wpAnyM_lays 2 [⟨20, { dst := Option.some 170, op := Op.makeSlice 29 (Operand.const (Value.int IntKind.i64 524288)) (Operand.const (Value.int IntKind.i64 524288)), type := 29, pos := "law.go:167", after := #[{ on := 18, ground := Ground.guard }], guard := Option.some (18, Bool.false) }, fun b => .slice (some ⟨b, 0, none⟩) 524288 524288, (.cells (madeCells #[.int .u32 0, .int .u64 0, .int .u32 0, .int .u32 0] (524288 * 4)) 36)⟩, ⟨21, { dst := Option.some 171, op := Op.makeSlice 29 (Operand.const (Value.int IntKind.i64 524288)) (Operand.const (Value.int IntKind.i64 524288)), type := 29, pos := "law.go:167", after := #[{ on := 18, ground := Ground.guard }], guard := Option.some (18, Bool.false) }, fun b => .slice (some ⟨b, 0, none⟩) 524288 524288, (.cells (madeCells #[.int .u32 0, .int .u64 0, .int .u32 0, .int .u32 0] (524288 * 4)) 36)⟩] _ _ _ 4 rfl (by kernel_rfl) ?hiq ?hndq (layM_apart (by kernel_rfl)) ?hselq ?hLq (fun wx hx => HSS.out wx (btrH' Gq.out hx)) ?hAq
  case hiq =>
    intro r hr
    simp only [List.mem_cons, List.not_mem_nil, or_false] at hr
    rcases hr with rfl | rfl <;> rfl
  case hndq => simp
  case hselq =>
    intro r hr cs b h
    simp only [List.mem_cons, List.not_mem_nil, or_false] at hr
    rcases hr with rfl | rfl <;> cases h
  case hLq =>
    intro r hr
    simp only [List.mem_cons, List.not_mem_nil, or_false] at hr
    rcases hr with rfl | rfl
    all_goals exact ⟨by rfl, fun wz => by (have ha := make_a; have hb := make_b; go_simp)⟩
  intro β Zq hβ hβn hbl
  have g1 := hβ _ List.mem_cons_self
  have g2 := hβ _ (List.mem_cons_of_mem _ List.mem_cons_self)
  dsimp only at g1 g2
  clear hβ hβn
  simp only [List.foldl_cons, List.foldl_nil]
  try simp only [Act.put, List.setIfInBounds_toArray, List.set_cons_zero, List.set_cons_succ]
  generalize β 20 = e1q at *
  generalize β 21 = e2q at *
  have Mq : Hid (∀ wx, Below Zq.heap.size Zq wx → (wx.heap[e1q]? = some (.cells (madeCells #[.int .u32 0, .int .u64 0, .int .u32 0, .int .u32 0] (524288 * 4)) 36) ∧ wx.heap[e2q]? = some (.cells (madeCells #[.int .u32 0, .int .u64 0, .int .u32 0, .int .u32 0] (524288 * 4)) 36)) ∧ Below Z.heap.size Z wx) := fun wx hx => ⟨⟨(hx.block _ (some_lt g1.1)).trans g1.1, (hx.block _ (some_lt g2.1)).trans g2.1⟩, btrH' (btrH' Gq.out hbl) hx⟩
  clear g1 g2 hbl
  have hbb := build_hl e1q e2q 524288 524288
  refine wpAnyM_take (i := 22) (oi := { dst := Option.some 172, op := Op.build 31 #[(2, Operand.tmp 170), (4, Operand.tmp 171)], type := 31, pos := "law.go:167", after := #[{ on := 20, ground := Ground.data }, { on := 21, ground := Ground.data }, { on := 18, ground := Ground.guard }], guard := Option.some (18, Bool.false) }) (v := ?ve60z22) rfl (by kernel_rfl) (by kernel_rfl) (by kernel_rfl) (fun _ _ _ h => h) (YieldsM.of_if (Or.inl ⟨by rfl, ?he60z22⟩)) ?re60z22
  case he60z22 => ((intro wz hSw; (try dsimp only at hSw); go_simp); try (with_reducible rfl))
  try simp only [Act.put, List.setIfInBounds_toArray, List.set_cons_zero, List.set_cons_succ]
  clear hbb
  refine readyM (i := 23) (o := { dst := Option.some 173, op := Op.call { callee := Callee.value (Operand.func 7), args := #[Operand.tmp 169, Operand.tmp 172], argTypes := #[25, 31] }, type := 4, pos := "law.go:167", after := #[{ on := 19, ground := Ground.data }, { on := 22, ground := Ground.data }, { on := 18, ground := Ground.chain }, { on := 18, ground := Ground.guard }], guard := Option.some (18, Bool.false) }) rfl (by kernel_rfl) ?_
  intro u4 hg4 hS4 K hK
  have hf := Mq.out u4 hg4
  clear hS4
  go_simp
  refine (HBS.out u4 e1q e2q hf.2 hf.1.1 hf.1.2).mono ?_
  rintro e v4 ⟨rfl, hb⟩
  go_wp2_with fail
  have N4 : Hid (Below Z.heap.size Z v4) := btrH' (Mq.out u4 hg4).2 hb
  refine hK.out _ _ (HSS.out _ N4.out) ?_
  clear hK K hf hg4 hb
  try simp only [Act.put, List.setIfInBounds_toArray, List.set_cons_zero, List.set_cons_succ]
  refine wpAnyM_take (i := 24) (oi := { dst := Option.some 174, op := Op.unOp UnOp.not 4 (Operand.tmp 173), type := 4, pos := "law.go:167", after := #[{ on := 23, ground := Ground.data }, { on := 18, ground := Ground.guard }], guard := Option.some (18, Bool.false) }) (v := ?vf61z24) rfl (by kernel_rfl) (by kernel_rfl) (by kernel_rfl) (fun _ _ _ h => h) (YieldsM.of_if (Or.inl ⟨by rfl, ?hf61z24⟩)) ?rf61z24
  case hf61z24 => ((intro wz hSw; (try dsimp only at hSw); go_simp); try (with_reducible rfl))
  try simp only [Act.put, List.setIfInBounds_toArray, List.set_cons_zero, List.set_cons_succ]
  refine wpAnyM_take (i := 25) (oi := { dst := Option.some 175, op := Op.pick (Operand.tmp 168) (Operand.const (Value.bool Bool.true)) (Operand.tmp 174), type := 4, pos := "law.go:167", after := #[{ on := 18, ground := Ground.data }, { on := 24, ground := Ground.data }], guard := Option.none }) (v := ?vf62z25) rfl (by kernel_rfl) (by kernel_rfl) (by kernel_rfl) (fun _ _ _ h => h) (YieldsM.of_if (Or.inl ⟨by rfl, ?hf62z25⟩)) ?rf62z25
  case hf62z25 => ((intro wz hSw; (try dsimp only at hSw); go_simp); try (with_reducible rfl))
  try simp only [Act.put, List.setIfInBounds_toArray, List.set_cons_zero, List.set_cons_succ]
  refine wpAnyM_done (by kernel_rfl) ?_ _
  intro k0 hg9 hS9
  have K0 : Hid (Below X9.heap.size X9 k0) := (FZ.out k0 (btrH' N4.out hg9)).2.2
  clear hS9 hg9
  go_wp2_with fail
  have HE3 : Hid (∀ (wx : World) (b : Nat) (i x y : Int) (E : Int × List (Int × Int)), In5 wx b three → endsE three i = (x, y, E) → Calls Tryd.prog 10 #[.agg #[.slice (some ⟨b, 0, none⟩) 3 3, .slice (some ⟨b + 1, 0, none⟩) 4 4, .slice (some ⟨b + 2, 0, none⟩) 2 2, .slice (some ⟨b + 3, 0, none⟩) 4 4, .slice (some ⟨b + 4, 0, none⟩) 1 1], .int .i64 i] wx fun e w' => ∃ u, e = .returned (.tuple #[.int .i64 x, .int .i64 y, u]) ∧ IsTold w' E u ∧ Below wx.heap.size wx w') := fun wx b i x y E h5 he => by
    have g := ends_at (v := T3 b) (h := three) (i := i) (x := x) (y := y) (E := E) (w := wx) (h5.has like3) (by decide) (by decide) (by decide) (by rw [if_pos chk_three]; exact he)
    rw [hvl3 like3] at g
    exact g
  have HR3 : Hid (∀ (wx : World) (b : Nat), In5 wx b three → Calls Tryd.prog 11 #[.agg #[.slice (some ⟨b, 0, none⟩) 3 3, .slice (some ⟨b + 1, 0, none⟩) 4 4, .slice (some ⟨b + 2, 0, none⟩) 2 2, .slice (some ⟨b + 3, 0, none⟩) 4 4, .slice (some ⟨b + 4, 0, none⟩) 1 1]] wx fun e w' => ∃ lo k c, e = .returned (.tuple #[.slice lo k c, .nilIface]) ∧ HasInts w' (.slice lo k c) [1, 0, 2] ∧ Below wx.heap.size wx w') := fun wx b h5 => by
    have g := ranks_calls (T3 b) three wx (h5.has like3) (by decide) (by decide) (by decide)
    rw [hvl3 like3] at g
    refine g.mono ?_
    rintro e w' ⟨lo, k, c, u, L, rfl, hb, hi, _, hu⟩
    rcases hu with ⟨_, rfl, rfl⟩ | ⟨hc, _⟩
    · rw [rk_three] at hi
      exact ⟨lo, k, c, rfl, hi, hb⟩
    · exact absurd chk_three hc
  have HT3 : Hid (∀ (wx : World) (b : Nat), In5 wx b three → Calls Tryd.prog 12 #[.agg #[.slice (some ⟨b, 0, none⟩) 3 3, .slice (some ⟨b + 1, 0, none⟩) 4 4, .slice (some ⟨b + 2, 0, none⟩) 2 2, .slice (some ⟨b + 3, 0, none⟩) 4 4, .slice (some ⟨b + 4, 0, none⟩) 1 1]] wx fun e w' => ∃ u, e = .returned (.tuple #[hvl u wantH, .nilIface]) ∧ HasH w' u wantH ∧ Below wx.heap.size wx w') := fun wx b h5 => by
    have g := turn_ok (v := T3 b) (h := three) (w := wx) (h5.has like3) chk_three
    rw [hvl3 like3, turn_want] at g
    refine g.mono ?_
    rintro e w' ⟨u, rfl, hu, _, hb⟩
    exact ⟨u, rfl, hu, hb⟩
  refine (three_own k0).mono ?_
  rintro e m1 ⟨d1, rfl, _, h5, hb⟩
  have L1 : Hid (Below X9.heap.size X9 m1 ∧ In5 m1 d1 three ∧ Below k0.heap.size k0 m1) := ⟨btrH' K0.out hb, h5, hb⟩
  clear h5 hb
  go_wp2_with fail
  refine (HE3.out m1 d1 (1) 1 2 (0, []) L1.out.2.1 ends_three1).mono ?_
  rintro e k1 ⟨r1, rfl, ht, hb⟩
  have J1 : Hid (Below k0.heap.size k0 k1) := btrH' L1.out.2.2 hb
  have K1 : Hid (Below X9.heap.size X9 k1) := btrH' L1.out.1 hb
  have Q1 : Hid (∀ wx, Below k1.heap.size k1 wx → IsTold wx (0, []) r1) := fun wx hx => ht.keep (Below.keeps hx)
  clear ht hb
  obtain rfl := told_zero (Q1.out k1 (Below.refl _ _))
  go_wp2_with fail
  refine (three_own k1).mono ?_
  rintro e m2 ⟨d2, rfl, _, h5, hb⟩
  have L2 : Hid (Below X9.heap.size X9 m2 ∧ In5 m2 d2 three ∧ Below k1.heap.size k1 m2) := ⟨btrH' K1.out hb, h5, hb⟩
  clear h5 hb
  go_wp2_with fail
  refine (HE3.out m2 d2 (3) 0 0 (1, []) L2.out.2.1 ends_three3).mono ?_
  rintro e k2 ⟨r2, rfl, ht, hb⟩
  have J2 : Hid (Below k1.heap.size k1 k2) := btrH' L2.out.2.2 hb
  have K2 : Hid (Below X9.heap.size X9 k2) := btrH' L2.out.1 hb
  have Q2 : Hid (∀ wx, Below k2.heap.size k2 wx → IsTold wx (1, []) r2) := fun wx hx => ht.keep (Below.keeps hx)
  clear ht hb
  go_wp2_with fail
  refine (three_own k2).mono ?_
  rintro e m3 ⟨d3, rfl, _, h5, hb⟩
  have L3 : Hid (Below X9.heap.size X9 m3 ∧ In5 m3 d3 three ∧ Below k2.heap.size k2 m3) := ⟨btrH' K2.out hb, h5, hb⟩
  clear h5 hb
  go_wp2_with fail
  refine (HE3.out m3 d3 (-1) 0 0 (1, []) L3.out.2.1 ends_threeM).mono ?_
  rintro e k3 ⟨r3, rfl, ht, hb⟩
  have J3 : Hid (Below k2.heap.size k2 k3) := btrH' L3.out.2.2 hb
  have K3 : Hid (Below X9.heap.size X9 k3) := btrH' L3.out.1 hb
  have Q3 : Hid (∀ wx, Below k3.heap.size k3 wx → IsTold wx (1, []) r3) := fun wx hx => ht.keep (Below.keeps hx)
  clear ht hb
  obtain ⟨a0, a1, a2, a3, a4⟩ := five_cells (G1.out k3 K3.out)
  go_wp2_with fail
  refine (HEA.out k3 K3.out).mono ?_
  rintro e k4 ⟨r4, rfl, ht, hb⟩
  have K4 : Hid (Below X9.heap.size X9 k4) := btrH' K3.out hb
  have J4 : Hid (Below k3.heap.size k3 k4) := hb
  have Q4 : Hid (∀ wx, Below k4.heap.size k4 wx → IsTold wx (8, [(4, 1)]) r4) := fun wx hx => ht.keep (Below.keeps hx)
  clear ht hb a0 a1 a2 a3 a4
  go_wp2_with fail
  refine (three_own k4).mono ?_
  rintro e m5 ⟨d5, rfl, _, h5, hb⟩
  have L5 : Hid (Below X9.heap.size X9 m5 ∧ In5 m5 d5 three ∧ Below k4.heap.size k4 m5) := ⟨btrH' K4.out hb, h5, hb⟩
  clear h5 hb
  go_wp2_with fail
  refine (HR3.out m5 d5 L5.out.2.1).mono ?_
  rintro e k5 ⟨io, ik, ic, rfl, hi, hb⟩
  have J5 : Hid (Below k4.heap.size k4 k5) := btrH' L5.out.2.2 hb
  have K5 : Hid (Below X9.heap.size X9 k5) := btrH' L5.out.1 hb
  have Q5 : Hid (∀ wx, Below k5.heap.size k5 wx → HasInts wx (.slice io ik ic) [1, 0, 2]) := fun wx hx => hi.keep hx
  clear hi hb
  go_wp2_with fail
  refine (three_own k5).mono ?_
  rintro e m6 ⟨d6, rfl, _, h5, hb⟩
  have L6 : Hid (Below X9.heap.size X9 m6 ∧ In5 m6 d6 three ∧ Below k5.heap.size k5 m6) := ⟨btrH' K5.out hb, h5, hb⟩
  clear h5 hb
  go_wp2_with fail
  refine (HT3.out m6 d6 L6.out.2.1).mono ?_
  rintro e k6 ⟨tv, rfl, hh, hb⟩
  have J6 : Hid (Below k5.heap.size k5 k6) := btrH' L6.out.2.2 hb
  have K6 : Hid (Below X9.heap.size X9 k6) := btrH' L6.out.1 hb
  obtain ⟨t5, t6, t7, t8, t9, j5, j6, j7, j8, j9⟩ := tv
  have eT : hvl ⟨t5, t6, t7, t8, t9, j5, j6, j7, j8, j9⟩ wantH = .agg #[.slice t5 3 j5, .slice t6 4 j6, .slice t7 1 j7, .slice t8 4 j8, .slice t9 2 j9] := rfl
  rw [eT]
  obtain ⟨pt, hpt⟩ : ∃ p, k6.heap.size = p := ⟨_, rfl⟩
  obtain ⟨V6, hV⟩ : ∃ V, k6.alloc (.cells #[.slice t5 3 j5, .slice t6 4 j6, .slice t7 1 j7, .slice t8 4 j8, .slice t9 2 j9] 31) = V := ⟨_, rfl⟩
  have HV : Hid (k6.alloc (.cells #[.slice t5 3 j5, .slice t6 4 j6, .slice t7 1 j7, .slice t8 4 j8, .slice t9 2 j9] 31) = V6) := hV
  have FV : Hid (∀ wx, Below V6.heap.size V6 wx → wx.heap[pt]? = some (.cells #[.slice t5 3 j5, .slice t6 4 j6, .slice t7 1 j7, .slice t8 4 j8, .slice t9 2 j9] 31) ∧ HasH wx ⟨t5, t6, t7, t8, t9, j5, j6, j7, j8, j9⟩ wantH ∧ Below k6.heap.size k6 wx) := fun wx hx => by
    have g1 : V6.heap[pt]? = some (.cells #[.slice t5 3 j5, .slice t6 4 j6, .slice t7 1 j7, .slice t8 4 j8, .slice t9 2 j9] 31) := by rw [← hV, ← hpt]; exact heap_newW _ _
    have g2 : Below k6.heap.size k6 V6 := by rw [← hV]; exact (Below.refl _ _).alloc (Nat.le_refl _) _
    have g3 := btrH' g2 hx
    exact ⟨(hx.block _ (some_lt g1)).trans g1, hh.keep g3, g3⟩
  clear hh hb hV eT
  go_upto_region 33 with fail
  rw [HV.out]
  clear HV hpt
  obtain ⟨q, hq⟩ : ∃ q, V6.heap.size = q := ⟨_, rfl⟩
  obtain ⟨W9, hW⟩ : ∃ W, (((((V6.alloc (.cells #[.int .u32 1, .int .u32 0, .int .u32 2] 34)).alloc (.cells #[.int .u32 0, .int .u32 1, .int .u32 1, .int .u32 1] 34)).alloc (.cells #[.int .u32 1, .int .u64 4, .int .u32 4294967295, .int .u32 4294967295] 36)).alloc (.cells #[.int .u32 0, .int .u32 1, .int .u32 2, .int .u32 2] 34)).alloc (.cells #[.int .u32 2, .int .u64 1, .int .u32 4294967295, .int .u32 4294967295, .int .u32 2, .int .u64 5, .int .u32 1, .int .u32 0] 36)).alloc (.cells #[.slice (some ⟨q, 0, none⟩) 3 3, .slice (some ⟨q + 1, 0, none⟩) 4 4, .slice (some ⟨q + 1 + 1, 0, none⟩) 1 1, .slice (some ⟨q + 1 + 1 + 1, 0, none⟩) 4 4, .slice (some ⟨q + 1 + 1 + 1 + 1, 0, none⟩) 2 2] 31) = W := ⟨_, rfl⟩
  have HW : Hid ((((((V6.alloc (.cells #[.int .u32 1, .int .u32 0, .int .u32 2] 34)).alloc (.cells #[.int .u32 0, .int .u32 1, .int .u32 1, .int .u32 1] 34)).alloc (.cells #[.int .u32 1, .int .u64 4, .int .u32 4294967295, .int .u32 4294967295] 36)).alloc (.cells #[.int .u32 0, .int .u32 1, .int .u32 2, .int .u32 2] 34)).alloc (.cells #[.int .u32 2, .int .u64 1, .int .u32 4294967295, .int .u32 4294967295, .int .u32 2, .int .u64 5, .int .u32 1, .int .u32 0] 36)).alloc (.cells #[.slice (some ⟨q, 0, none⟩) 3 3, .slice (some ⟨q + 1, 0, none⟩) 4 4, .slice (some ⟨q + 1 + 1, 0, none⟩) 1 1, .slice (some ⟨q + 1 + 1 + 1, 0, none⟩) 4 4, .slice (some ⟨q + 1 + 1 + 1 + 1, 0, none⟩) 2 2] 31) = W9) := hW
  have FW : Hid (∀ wx, Below W9.heap.size W9 wx → wx.heap[q + 1 + 1 + 1 + 1 + 1]? = some (.cells #[.slice (some ⟨q, 0, none⟩) 3 3, .slice (some ⟨q + 1, 0, none⟩) 4 4, .slice (some ⟨q + 1 + 1, 0, none⟩) 1 1, .slice (some ⟨q + 1 + 1 + 1, 0, none⟩) 4 4, .slice (some ⟨q + 1 + 1 + 1 + 1, 0, none⟩) 2 2] 31) ∧ HasH wx ⟨some ⟨q, 0, none⟩, some ⟨q + 1, 0, none⟩, some ⟨q + 1 + 1, 0, none⟩, some ⟨q + 1 + 1 + 1, 0, none⟩, some ⟨q + 1 + 1 + 1 + 1, 0, none⟩, 3, 4, 1, 4, 2⟩ wantH ∧ Below V6.heap.size V6 wx) := fun wx hx => by
    have hl := lays_get [(.cells (wvs wantH.node).toArray 34), (.cells (wvs wantH.upF).toArray 34), (.cells (lvs wantH.up).toArray 36), (.cells (wvs wantH.dnF).toArray 34), (.cells (lvs wantH.dn).toArray 36), (.cells #[.slice (some ⟨q, 0, none⟩) 3 3, .slice (some ⟨q + 1, 0, none⟩) 4 4, .slice (some ⟨q + 1 + 1, 0, none⟩) 1 1, .slice (some ⟨q + 1 + 1 + 1, 0, none⟩) 4 4, .slice (some ⟨q + 1 + 1 + 1 + 1, 0, none⟩) 2 2] 31)] V6
    have hbel := lays_below [(.cells (wvs wantH.node).toArray 34), (.cells (wvs wantH.upF).toArray 34), (.cells (lvs wantH.up).toArray 36), (.cells (wvs wantH.dnF).toArray 34), (.cells (lvs wantH.dn).toArray 36), (.cells #[.slice (some ⟨q, 0, none⟩) 3 3, .slice (some ⟨q + 1, 0, none⟩) 4 4, .slice (some ⟨q + 1 + 1, 0, none⟩) 1 1, .slice (some ⟨q + 1 + 1 + 1, 0, none⟩) 4 4, .slice (some ⟨q + 1 + 1 + 1 + 1, 0, none⟩) 2 2] 31)] V6
    have e : lays V6 [(.cells (wvs wantH.node).toArray 34), (.cells (wvs wantH.upF).toArray 34), (.cells (lvs wantH.up).toArray 36), (.cells (wvs wantH.dnF).toArray 34), (.cells (lvs wantH.dn).toArray 36), (.cells #[.slice (some ⟨q, 0, none⟩) 3 3, .slice (some ⟨q + 1, 0, none⟩) 4 4, .slice (some ⟨q + 1 + 1, 0, none⟩) 1 1, .slice (some ⟨q + 1 + 1 + 1, 0, none⟩) 4 4, .slice (some ⟨q + 1 + 1 + 1 + 1, 0, none⟩) 2 2] 31)] = W9 := hW
    rw [e] at hl hbel
    rw [hq] at hl
    have kp : ∀ {k : Nat} {o : Obj}, W9.heap[k]? = some o → wx.heap[k]? = some o := fun h => (hx.block _ (some_lt h)).trans h
    exact ⟨kp (hl 5 _ rfl), ⟨ws_new (xs := wantH.node) (kp (hl 0 _ rfl)) (by decide) (Nat.le_refl _), ws_new (xs := wantH.upF) (kp (hl 1 _ rfl)) (by decide) (Nat.le_refl _), ls_new (xs := wantH.up) (kp (hl 2 _ rfl)) (by unfold Lk.ok; decide) (Nat.le_refl _), ws_new (xs := wantH.dnF) (kp (hl 3 _ rfl)) (by decide) (Nat.le_refl _), ls_new (xs := wantH.dn) (kp (hl 4 _ rfl)) (by unfold Lk.ok; decide) (Nat.le_refl _)⟩, btrH' hbel hx⟩
  clear hW
  go_upto_region 34 with fail
  rw [HW.out]
  clear HW hq
  have UW : Hid (∀ wx, Below W9.heap.size W9 wx → Below k2.heap.size k2 wx ∧ Below k3.heap.size k3 wx ∧ Below k4.heap.size k4 wx ∧ Below k5.heap.size k5 wx ∧ Below X9.heap.size X9 wx ∧ Below w.heap.size w wx) := fun wx hx => by
    have a6 := (FV.out wx (FW.out wx hx).2.2).2.2
    have a5 := btrH' J6.out a6
    have a4 := btrH' J5.out a5
    have a3 := btrH' J4.out a4
    have a2 := btrH' J3.out a3
    have a9 := btrH' K6.out a6
    exact ⟨a2, a3, a4, a5, a9, (G0.out wx a9).2.2⟩
  have N0 : Hid (Below W9.heap.size W9 W9) := Below.refl _ _
  go_wp2_with fail
  refine (E_calls 1 W9).mono ?_
  rintro e n1 ⟨rfl, hb⟩
  have N1 : Hid (Below W9.heap.size W9 n1) := hb
  clear hb
  go_wp2_with fail
  refine (seen_told (1, []) r2 none 0 n1 (Q2.out n1 (UW.out n1 N1.out).1) (pl_nil9 _) (by decide) (HTY.out n1 (UW.out n1 N1.out).2.2.2.2.2)).mono ?_
  rintro e n2 ⟨rfl, hb⟩
  have N2 : Hid (Below W9.heap.size W9 n2) := btrH' N1.out hb
  clear hb
  go_wp2_with fail
  refine (E_calls 1 n2).mono ?_
  rintro e n3 ⟨rfl, hb⟩
  have N3 : Hid (Below W9.heap.size W9 n3) := btrH' N2.out hb
  clear hb
  go_wp2_with fail
  refine (seen_told (1, []) r3 none 0 n3 (Q3.out n3 (UW.out n3 N3.out).2.1) (pl_nil9 _) (by decide) (HTY.out n3 (UW.out n3 N3.out).2.2.2.2.2)).mono ?_
  rintro e n4 ⟨rfl, hb⟩
  have N4 : Hid (Below W9.heap.size W9 n4) := btrH' N3.out hb
  clear hb
  obtain ⟨c0, c1, _, _⟩ := cell_two (G0.out n4 (UW.out n4 N4.out).2.2.2.2.1).2.1
  go_wp2_with fail
  refine (refAt_calls 4 1 8 n4).mono ?_
  rintro e n5 ⟨g5, rfl, hg, hb⟩
  have N5 : Hid (Below W9.heap.size W9 n5) := btrH' N4.out hb
  have P5 : Hid (HasPlaces n5 (.slice (some ⟨g5, 0, none⟩) 1 1) [(4, 1)]) := pl_one9 hg
  clear hb hg c0 c1
  go_wp2_with fail
  refine (seen_told (8, [(4, 1)]) r4 (some ⟨g5, 0, none⟩) 1 n5 (Q4.out n5 (UW.out n5 N5.out).2.2.1) P5.out (by decide) (HTY.out n5 (UW.out n5 N5.out).2.2.2.2.2)).mono ?_
  rintro e n6 ⟨rfl, hb⟩
  have N6 : Hid (Below W9.heap.size W9 n6) := btrH' N5.out hb
  clear hb
  obtain ⟨v6, hv6⟩ : ∃ v, n6.heap.size = v := ⟨_, rfl⟩
  obtain ⟨M6, hM⟩ : ∃ M, n6.alloc (.cells #[.int .i64 1, .int .i64 0, .int .i64 2] 3) = M := ⟨_, rfl⟩
  have HM : Hid (n6.alloc (.cells #[.int .i64 1, .int .i64 0, .int .i64 2] 3) = M6) := hM
  have FM : Hid (HasInts M6 (.slice (some ⟨v6, 0, none⟩) 3 3) [1, 0, 2] ∧ Below W9.heap.size W9 M6) := by
    have g1 : M6.heap[v6]? = some (.cells #[.int .i64 1, .int .i64 0, .int .i64 2] 3) := by rw [← hM, ← hv6]; exact heap_newW _ _
    have g2 : Below n6.heap.size n6 M6 := by rw [← hM]; exact (Below.refl _ _).alloc (Nat.le_refl _) _
    refine ⟨⟨_, 3, rfl, fun j a hj => ⟨v6, 0, rfl, some_lt g1, ?_⟩⟩, btrH' N6.out g2⟩
    rcases j with _ | _ | _ | j
    · cases hj; simp [World.cell?, g1]
    · cases hj; simp [World.cell?, g1]
    · cases hj; simp [World.cell?, g1]
    · simp at hj
  clear hM
  go_wp2_with fail
  rw [HM.out]
  clear HM hv6
  refine (sameInts_yes (.slice io ik ic) (.slice (some ⟨v6, 0, none⟩) 3 3) [1, 0, 2] M6 (Q5.out M6 (UW.out M6 FM.out.2).2.2.2.1) FM.out.1 (by decide)).mono ?_
  rintro e n7 ⟨rfl, hb⟩
  have N7 : Hid (Below W9.heap.size W9 n7) := btrH' FM.out.2 hb
  clear hb
  obtain ⟨a0, a1, a2, a3, a4⟩ := five_cells (FV.out n7 (FW.out n7 N7.out).2.2).1
  obtain ⟨b0, b1', b2', b3', b4'⟩ := five_cells (FW.out n7 N7.out).1
  have HTS : Hid (Calls Tryd.prog 15 #[.agg #[.slice t5 3 j5, .slice t6 4 j6, .slice t7 1 j7, .slice t8 4 j8, .slice t9 2 j9], .agg #[.slice (some ⟨q, 0, none⟩) 3 3, .slice (some ⟨q + 1, 0, none⟩) 4 4, .slice (some ⟨q + 1 + 1, 0, none⟩) 1 1, .slice (some ⟨q + 1 + 1 + 1, 0, none⟩) 4 4, .slice (some ⟨q + 1 + 1 + 1 + 1, 0, none⟩) 2 2]] n7 fun e w' => e = .returned (.bool true) ∧ Below n7.heap.size n7 w') := by
    have g := tSame_calls ⟨t5, t6, t7, t8, t9, j5, j6, j7, j8, j9⟩ ⟨some ⟨q, 0, none⟩, some ⟨q + 1, 0, none⟩, some ⟨q + 1 + 1, 0, none⟩, some ⟨q + 1 + 1 + 1, 0, none⟩, some ⟨q + 1 + 1 + 1 + 1, 0, none⟩, 3, 4, 1, 4, 2⟩ wantH wantH n7 (FV.out n7 (FW.out n7 N7.out).2.2).2.1 (FW.out n7 N7.out).2.1 short_want
    rw [decide_eq_true (rfl : wantH = wantH)] at g
    exact g
  go_wp2_with fail
  refine HTS.out.mono ?_
  rintro e n8 ⟨rfl, hb⟩
  have N8 : Hid (Below w.heap.size w n8) := (UW.out n8 (btrH' N7.out hb)).2.2.2.2.2
  clear hb
  go_wp2
  go_ret
  exact ⟨rfl, N8.out⟩
end Go.Proofs.YtlhblkahnenjcaaDoor.Hi
