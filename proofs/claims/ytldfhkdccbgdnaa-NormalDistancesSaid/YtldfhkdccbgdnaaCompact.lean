/- slices.CompactFunc with normal's closure at three arcs, the first two of which are parallel. -/
import Derived.Test.YtldfhkdccbgdnaaSort
import Derived.Deep.RegionHeld
namespace Go.Proofs.Ytldfhkdccbgdnaa
open Go.RowKit Go.Extern Go.Sort Go.Shelf

attribute [local go_sem] Oper.semAt_some

/-- three arcs lie at a block's head. -/
def Three (w : World) (b : Nat) (x y z : Int × Int × Int) : Prop :=
  w.cell? ⟨b, 0, none⟩ = some (.int .i64 x.1) ∧ w.cell? ⟨b, 1, none⟩ = some (.int .i64 x.2.1) ∧ w.cell? ⟨b, 2, none⟩ = some (.int .i64 x.2.2) ∧
  w.cell? ⟨b, 3, none⟩ = some (.int .i64 y.1) ∧ w.cell? ⟨b, 4, none⟩ = some (.int .i64 y.2.1) ∧ w.cell? ⟨b, 5, none⟩ = some (.int .i64 y.2.2) ∧
  w.cell? ⟨b, 6, none⟩ = some (.int .i64 z.1) ∧ w.cell? ⟨b, 7, none⟩ = some (.int .i64 z.2.1) ∧ w.cell? ⟨b, 8, none⟩ = some (.int .i64 z.2.2)
theorem Three.keep {w w' : World} {b : Nat} {x y z : Int × Int × Int} (h : Three w b x y z) (hl : Laid w w') (hb : b < w.heap.size) : Three w' b x y z := by
  have hc : ∀ o, w'.cell? ⟨b, o, none⟩ = w.cell? ⟨b, o, none⟩ := fun o => hl.below.cell (p := ⟨b, o, none⟩) hb
  simp only [Three, hc]
  exact h

/-- the third arc of a row, wiped. -/
theorem clear_one (b : Nat) (W : World) (u0 u1 u2 : Value) (h0 : W.cell? ⟨b, 6, none⟩ = some u0) (h1 : W.cell? ⟨b, 7, none⟩ = some u1) (h2 : W.cell? ⟨b, 8, none⟩ = some u2) (f0 : W.frozen? ⟨b, 6, none⟩ = false) (f1 : W.frozen? ⟨b, 7, none⟩ = false) (f2 : W.frozen? ⟨b, 8, none⟩ = false) :
    (Builtin.clear_ #[22] 0 #[.slice (some ⟨b, 6, none⟩) 1 2]).run Try.prog W = .ok (.tuple #[]) (((W.setCell ⟨b, 6, none⟩ (.int .i64 0)).setCell ⟨b, 7, none⟩ (.int .i64 0)).setCell ⟨b, 8, none⟩ (.int .i64 0)) := by
  have hz := Try.zeroValue39
  have hzc : (Builtin.zeroCells #[Value.int .i64 0, Value.int .i64 0, Value.int .i64 0] 1).toList = [.int .i64 0, .int .i64 0, .int .i64 0] := by kernel_rfl
  have g1 : (W.setCell ⟨b, 6, none⟩ (.int .i64 0)).cell? ⟨b, 7, none⟩ = some u1 := (World.cell?_setCell_other _ _ _ _ (by simp)).trans h1
  have g2 : ((W.setCell ⟨b, 6, none⟩ (.int .i64 0)).setCell ⟨b, 7, none⟩ (.int .i64 0)).cell? ⟨b, 8, none⟩ = some u2 := (World.cell?_setCell_other _ _ _ _ (by simp)).trans ((World.cell?_setCell_other _ _ _ _ (by simp)).trans h2)
  simp [Builtin.clear_, underlying, Try.underlying22, Result.andThen, hz, Value.cells, hzc]
  simp [storeCells, Addr.add, Result.andThen]
  rw [run_store Try.prog W ⟨b, 6, none⟩ _ _ (by rfl)]
  simp [h0, f0]
  rw [run_store Try.prog _ ⟨b, 7, none⟩ _ _ (by rfl)]
  simp [g1, f1]
  rw [run_store Try.prog _ ⟨b, 8, none⟩ _ _ (by rfl)]
  simp [g2, f2]

set_option maxRecDepth 100000 in
set_option maxHeartbeats 4000000 in
theorem compact3 (x y z : Int × Int × Int) (b : Nat) (w : World) (h3 : Three w b x y z) (hf : ∀ o, o < 9 → w.frozen? ⟨b, o, none⟩ = false) (hb : b < w.heap.size) (e1 : endsI y x = 0) (e2 : endsI z y ≠ 0) :
    Calls Try.prog 26 #[.slice (some ⟨b, 0, none⟩) 3 4, .func (.func 27) #[] #[]] w fun e w' => e = .returned (.slice (some ⟨b, 0, none⟩) 2 4) ∧ HasArcs w' (.slice (some ⟨b, 0, none⟩) 2 4) [x, z] ∧ Touch b w w' := by
  have HYX : Hid (∀ wx, Calls Try.prog 27 #[arcV y, arcV x] wx fun e w' => e = .returned (.bool true) ∧ Laid wx w') := fun wx => by
    have h := compactEq_calls y x wx
    rw [e1] at h
    exact h
  have HZY : Hid (∀ wx, Calls Try.prog 27 #[arcV z, arcV y] wx fun e w' => e = .returned (.bool false) ∧ Laid wx w') := fun wx => by
    have h := compactEq_calls z y wx
    rw [show (endsI z y == 0) = false by simpa using e2] at h
    exact h
  have H3 : Hid (∀ wx, Laid w wx → Three wx b x y z ∧ (∀ o, o < 9 → wx.frozen? ⟨b, o, none⟩ = false) ∧ b < wx.heap.size) := fun wx h => by
    refine ⟨h3.keep h hb, fun o ho => ?_, Nat.lt_of_lt_of_le hb h.size⟩
    have hbk := h.block hb
    have := hf o ho
    simp only [World.frozen?, hbk] at *
    exact this
  obtain ⟨x0, x1, x2⟩ := x
  obtain ⟨y0, y1, y2⟩ := y
  obtain ⟨z0, z1, z2⟩ := z
  unfold arcV at HYX HZY
  unfold Three at H3
  simp only at *
  clear h3 hf e1 e2
  obtain ⟨⟨a0, a1, a2, a3, a4, a5, a6, a7, a8⟩, _, _⟩ := H3.out w (Laid.refl w)
  go_enter Try.func26, Try.ntmps26
  go_wp2_with fail
  refine wp_loop_rounds 1 ?_
  rw [rounds_succ]
  go_wp2_with fail
  go_region_held (fun w' => w'.cell? ⟨b, 0, none⟩ = some (.int .i64 x0) ∧ w'.cell? ⟨b, 1, none⟩ = some (.int .i64 x1) ∧ w'.cell? ⟨b, 2, none⟩ = some (.int .i64 x2) ∧ w'.cell? ⟨b, 3, none⟩ = some (.int .i64 y0) ∧ w'.cell? ⟨b, 4, none⟩ = some (.int .i64 y1) ∧ w'.cell? ⟨b, 5, none⟩ = some (.int .i64 y2) ∧ w'.cell? ⟨b, 6, none⟩ = some (.int .i64 z0) ∧ w'.cell? ⟨b, 7, none⟩ = some (.int .i64 z1) ∧ w'.cell? ⟨b, 8, none⟩ = some (.int .i64 z2)) (go_keep) (first
    | (go_at_call 27; refine (HYX.out _).mono ?_; rintro e w1 ⟨rfl, hL1⟩; have HL1 : Hid (Laid w w1) := (Laid.refl w).drew.trans hL1; obtain ⟨⟨d0, d1, d2, d3, d4, d5, d6, d7, d8⟩, _, hs1⟩ := H3.out w1 HL1.out; clear hL1))
  go_wp2_with fail
  refine wp_loop_rounds 2 ?_
  rw [rounds_succ]
  go_wp2_with fail
  go_region_held (fun w' => w'.cell? ⟨b, 0, none⟩ = some (.int .i64 x0) ∧ w'.cell? ⟨b, 1, none⟩ = some (.int .i64 x1) ∧ w'.cell? ⟨b, 2, none⟩ = some (.int .i64 x2) ∧ w'.cell? ⟨b, 3, none⟩ = some (.int .i64 y0) ∧ w'.cell? ⟨b, 4, none⟩ = some (.int .i64 y1) ∧ w'.cell? ⟨b, 5, none⟩ = some (.int .i64 y2) ∧ w'.cell? ⟨b, 6, none⟩ = some (.int .i64 z0) ∧ w'.cell? ⟨b, 7, none⟩ = some (.int .i64 z1) ∧ w'.cell? ⟨b, 8, none⟩ = some (.int .i64 z2)) (go_keep) (first
    | (go_at_call 27; refine (HZY.out _).mono ?_; rintro e w2 ⟨rfl, hL2⟩; have HL2 : Hid (Laid w w2) := HL1.out.drew.trans hL2; obtain ⟨⟨f0, f1, f2, f3, f4, f5, f6, f7, f8⟩, hfz, hs2⟩ := H3.out w2 HL2.out; have z3 := hfz 3 (by decide); have z4 := hfz 4 (by decide); have z5 := hfz 5 (by decide); have z6 := hfz 6 (by decide); have z7 := hfz 7 (by decide); have z8 := hfz 8 (by decide); clear hL2 hfz))
  go_wp2_with fail
  rw [rounds_succ]
  obtain ⟨W2, hW2⟩ : ∃ W2, ((w2.setCell ⟨b, 3, none⟩ (.int .i64 z0)).setCell ⟨b, 4, none⟩ (.int .i64 z1)).setCell ⟨b, 5, none⟩ (.int .i64 z2) = W2 := ⟨_, rfl⟩
  have g4 : (w2.setCell ⟨b, 3, none⟩ (.int .i64 z0)).cell? ⟨b, 4, none⟩ = some (.int .i64 y1) := (World.cell?_setCell_other _ _ _ _ (by simp)).trans f4
  have g5 : ((w2.setCell ⟨b, 3, none⟩ (.int .i64 z0)).setCell ⟨b, 4, none⟩ (.int .i64 z1)).cell? ⟨b, 5, none⟩ = some (.int .i64 y2) := by
    rw [World.cell?_setCell_other _ _ _ _ (by simp), World.cell?_setCell_other _ _ _ _ (by simp)]; exact f5
  have t0 : W2.cell? ⟨b, 0, none⟩ = some (.int .i64 x0) := by
    rw [← hW2, World.cell?_setCell_other _ _ _ _ (by simp), World.cell?_setCell_other _ _ _ _ (by simp), World.cell?_setCell_other _ _ _ _ (by simp)]; exact f0
  have t1 : W2.cell? ⟨b, 1, none⟩ = some (.int .i64 x1) := by
    rw [← hW2, World.cell?_setCell_other _ _ _ _ (by simp), World.cell?_setCell_other _ _ _ _ (by simp), World.cell?_setCell_other _ _ _ _ (by simp)]; exact f1
  have t2 : W2.cell? ⟨b, 2, none⟩ = some (.int .i64 x2) := by
    rw [← hW2, World.cell?_setCell_other _ _ _ _ (by simp), World.cell?_setCell_other _ _ _ _ (by simp), World.cell?_setCell_other _ _ _ _ (by simp)]; exact f2
  have t3 : W2.cell? ⟨b, 3, none⟩ = some (.int .i64 z0) := by
    rw [← hW2, World.cell?_setCell_other _ _ _ _ (by simp), World.cell?_setCell_other _ _ _ _ (by simp), World.cell?_setCell_same _ _ _ f3]
  have t4 : W2.cell? ⟨b, 4, none⟩ = some (.int .i64 z1) := by
    rw [← hW2, World.cell?_setCell_other _ _ _ _ (by simp), World.cell?_setCell_same _ _ _ g4]
  have t5 : W2.cell? ⟨b, 5, none⟩ = some (.int .i64 z2) := by
    rw [← hW2, World.cell?_setCell_same _ _ _ g5]
  have t6 : W2.cell? ⟨b, 6, none⟩ = some (.int .i64 z0) := by
    rw [← hW2, World.cell?_setCell_other _ _ _ _ (by simp), World.cell?_setCell_other _ _ _ _ (by simp), World.cell?_setCell_other _ _ _ _ (by simp)]; exact f6
  have t7 : W2.cell? ⟨b, 7, none⟩ = some (.int .i64 z1) := by
    rw [← hW2, World.cell?_setCell_other _ _ _ _ (by simp), World.cell?_setCell_other _ _ _ _ (by simp), World.cell?_setCell_other _ _ _ _ (by simp)]; exact f7
  have t8 : W2.cell? ⟨b, 8, none⟩ = some (.int .i64 z2) := by
    rw [← hW2, World.cell?_setCell_other _ _ _ _ (by simp), World.cell?_setCell_other _ _ _ _ (by simp), World.cell?_setCell_other _ _ _ _ (by simp)]; exact f8
  have hsz2 : b < W2.heap.size := by rw [← hW2]; simp; exact hs2
  have HTO : Hid (Touch b w W2) := by
    have hB := HL2.out.below
    refine ⟨?_, ?_, ?_, ?_, fun k hk hne => ?_⟩
    · rw [← hW2]; exact hB.os
    · rw [← hW2]; exact hB.tape
    · rw [← hW2]; exact hB.output
    · rw [← hW2]; simp; exact hB.size
    · rw [← hW2, heap_setCell_other _ _ _ _ hne, heap_setCell_other _ _ _ _ hne, heap_setCell_other _ _ _ _ hne]; exact hB.block k hk
  have hcl := clear_one b W2 _ _ _ t6 t7 t8 (by rw [← hW2]; simp; exact z6) (by rw [← hW2]; simp; exact z7) (by rw [← hW2]; simp; exact z8)
  have HT : Hid (W2.cell? ⟨b, 0, none⟩ = some (.int .i64 x0) ∧ W2.cell? ⟨b, 1, none⟩ = some (.int .i64 x1) ∧ W2.cell? ⟨b, 2, none⟩ = some (.int .i64 x2) ∧ W2.cell? ⟨b, 3, none⟩ = some (.int .i64 z0) ∧ W2.cell? ⟨b, 4, none⟩ = some (.int .i64 z1) ∧ W2.cell? ⟨b, 5, none⟩ = some (.int .i64 z2)) := ⟨t0, t1, t2, t3, t4, t5⟩
  clear t0 t1 t2 t3 t4 t5 t6 t7 t8 g4 g5 d0 d1 d2 d3 d4 d5 d6 d7 d8 a0 a1 a2 a3 a4 a5 a6 a7 a8
  rw [hW2]
  clear f0 f1 f2 f3 f4 f5 f6 f7 f8 z3 z4 z5 z6 z7 z8
  go_wp2
  go_ret
  have hk : ∀ o, o ≤ 5 → (((W2.setCell ⟨b, 6, none⟩ (.int .i64 0)).setCell ⟨b, 7, none⟩ (.int .i64 0)).setCell ⟨b, 8, none⟩ (.int .i64 0)).cell? ⟨b, o, none⟩ = W2.cell? ⟨b, o, none⟩ := fun o ho => by
    rw [World.cell?_setCell_other _ _ _ _ (by intro e; injection e with _ e; omega), World.cell?_setCell_other _ _ _ _ (by intro e; injection e with _ e; omega), World.cell?_setCell_other _ _ _ _ (by intro e; injection e with _ e; omega)]
  obtain ⟨t0, t1, t2, t3, t4, t5⟩ := HT.out
  refine ⟨rfl, ⟨_, _, rfl, fun j a hj => ?_⟩, ?_⟩
  · rcases j with _ | _ | j
    · simp at hj; subst hj
      exact ⟨b, 0, rfl, by simp; exact hsz2, (hk 0 (by omega)).trans t0, (hk 1 (by omega)).trans t1, (hk 2 (by omega)).trans t2⟩
    · simp at hj; subst hj
      exact ⟨b, 0, rfl, by simp; exact hsz2, (hk 3 (by omega)).trans t3, (hk 4 (by omega)).trans t4, (hk 5 (by omega)).trans t5⟩
    · simp at hj
  · have hT := HTO.out
    refine ⟨hT.os, hT.tape, hT.output, by simp; exact hT.size, fun k hk' hne => ?_⟩
    rw [heap_setCell_other _ _ _ _ hne, heap_setCell_other _ _ _ _ hne, heap_setCell_other _ _ _ _ hne]; exact hT.block k hk' hne
end Go.Proofs.Ytldfhkdccbgdnaa
