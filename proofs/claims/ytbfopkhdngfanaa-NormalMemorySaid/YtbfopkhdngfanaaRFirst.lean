/- viaductref01.First at two errors; places that stay where a box is written. -/
import Derived.Test.YtbfopkhdngfanaaFirstP
import Derived.Test.YtbfopkhdngfanaaDocRev
namespace Go.Proofs.Ytbfopkhdngfanaa
open Go.RowKit Go.Extern

attribute [local go_sem] Oper.semAt_some

theorem HasPlaces.lay2 {W : World} {v : Value} {l : List (Int × Int)} (h : HasPlaces W v l) {R : Nat} {x0 : Value} {so : Option Addr} {sl sc : Nat} {t : TypeId} (h1 : W.heap[R]? = some (.cells #[x0, .slice so sl sc] t)) (c0 c1 : Value) : HasPlaces ((W.setCell ⟨R, 0, none⟩ c0).setCell ⟨R, 1, none⟩ c1) v l := by
  obtain ⟨ao, cap, e, hc⟩ := h
  refine ⟨ao, cap, e, fun j a hj => ?_⟩
  obtain ⟨b, off, ea, hl, q0, q1⟩ := hc j a hj
  have n1 : b ≠ R := fun e => by
    subst e
    simp only [World.cell?, h1] at q1
    rw [if_neg (by simp)] at q1
    rcases (show off + j * 2 = 0 ∨ 2 ≤ off + j * 2 + 1 by omega) with h | h
    · rw [h] at q1; simp at q1
    · rw [Array.getElem?_eq_none (by simpa using h)] at q1; cases q1
  refine ⟨b, off, ea, by simp; exact hl, ?_, ?_⟩
  · rw [World.cell?_setCell_other _ _ _ _ (fun e => n1 (congrArg Addr.block e).symm), World.cell?_setCell_other _ _ _ _ (fun e => n1 (congrArg Addr.block e).symm)]
    exact q0
  · rw [World.cell?_setCell_other _ _ _ _ (fun e => n1 (congrArg Addr.block e).symm), World.cell?_setCell_other _ _ _ _ (fun e => n1 (congrArg Addr.block e).symm)]
    exact q1

theorem badB (C : Int) (ps : List (Int × Int)) : (C != 0 || decide (0 < ps.length)) = !decide (C = 0 ∧ ps = []) := by
  cases ps <;> by_cases h : C = 0 <;> simp [h]

set_option maxRecDepth 100000 in
set_option maxHeartbeats 2000000 in
theorem refFirst2_calls (b : Nat) (C0 C1 : Int) (l0 l1 : List (Int × Int)) (o0 o1 : Option Addr) (k0 k1 : Nat) (w : World) (h0 : w.cell? ⟨b, 0, none⟩ = some (.int .i64 C0)) (h1 : w.cell? ⟨b, 1, none⟩ = some (.slice o0 l0.length k0)) (h2 : w.cell? ⟨b, 2, none⟩ = some (.int .i64 C1)) (h3 : w.cell? ⟨b, 3, none⟩ = some (.slice o1 l1.length k1)) :
    Calls Try.prog 33 #[.slice (some ⟨b, 0, none⟩) 2 2] w fun e w' => ((C0 = 0 ∧ l0 = []) ∧ (C1 = 0 ∧ l1 = []) ∧ e = .returned (.agg #[.int .i64 0, .slice none 0 0]) ∨ (C0 = 0 ∧ l0 = []) ∧ ¬ (C1 = 0 ∧ l1 = []) ∧ e = .returned (.agg #[.int .i64 C1, .slice o1 l1.length k1]) ∨ ¬ (C0 = 0 ∧ l0 = []) ∧ e = .returned (.agg #[.int .i64 C0, .slice o0 l0.length k0])) ∧ Below w.heap.size w w' := by
  have HBD : Hid (∀ wx C lo l lc, Calls Try.prog 30 #[.agg #[.int .i64 C, .slice lo l lc]] wx fun e w' => e = .returned (.bool (C != 0 || decide (0 < l))) ∧ Below wx.heap.size wx w') := fun wx C lo l lc => bad_calls C lo l lc wx
  have hlb : b < w.heap.size := by
    rcases Nat.lt_or_ge b w.heap.size with h | h
    · exact h
    · simp [World.cell?, Array.getElem?_eq_none h] at h0
  obtain ⟨W0, hW0⟩ : ∃ W0, w.alloc (.cells #[.int .i64 0, .slice none 0 0] 45) = W0 := ⟨_, rfl⟩
  have hB0 : Below w.heap.size w W0 := by rw [← hW0]; exact (Below.refl _ w).alloc (Nat.le_refl _) _
  have kk : W0.heap[w.heap.size]? = some (.cells #[.int .i64 0, .slice none 0 0] 45) := by rw [← hW0]; exact heap_new _ _
  have HW0 : Hid (w.alloc (.cells #[.int .i64 0, .slice none 0 0] 45) = W0) := hW0
  have HK : Hid (∀ wx, Below W0.heap.size W0 wx → (wx.cell? ⟨b, 0, none⟩ = some (.int .i64 C0) ∧ wx.cell? ⟨b, 1, none⟩ = some (.slice o0 l0.length k0) ∧ wx.cell? ⟨b, 2, none⟩ = some (.int .i64 C1) ∧ wx.cell? ⟨b, 3, none⟩ = some (.slice o1 l1.length k1)) ∧ (wx.cell? ⟨w.heap.size, 0, none⟩ = some (.int .i64 0) ∧ wx.cell? ⟨w.heap.size, 1, none⟩ = some (.slice none 0 0) ∧ wx.frozen? ⟨w.heap.size, 0, none⟩ = false ∧ wx.frozen? ⟨w.heap.size, 1, none⟩ = false) ∧ w.heap.size < wx.heap.size ∧ Below w.heap.size w wx) := fun wx h => by
    have hb := hB0.trans (h.mono hB0.size)
    have g := (h.block _ (lt_of_get kk)).trans kk
    exact ⟨⟨(hb.cell (p := ⟨b, 0, none⟩) hlb).trans h0, (hb.cell (p := ⟨b, 1, none⟩) hlb).trans h1, (hb.cell (p := ⟨b, 2, none⟩) hlb).trans h2, (hb.cell (p := ⟨b, 3, none⟩) hlb).trans h3⟩, cell_two g, lt_of_get g, hb⟩
  clear h0 h1 h2 h3 hB0 kk hW0
  go_enter Try.func33, Try.ntmps33
  go_wp2_with fail
  rw [HW0.out]
  go_loopw [7] (fun i wr => Below W0.heap.size W0 wr ∧ (i = .int .i64 0 ∨ (i = .int .i64 1 ∧ (C0 = 0 ∧ l0 = [])) ∨ (i = .int .i64 2 ∧ (C0 = 0 ∧ l0 = []) ∧ (C1 = 0 ∧ l1 = [])))) (fun i _ => 2 - (intOf i).toNat)
  case atStart => exact ⟨Below.refl _ _, Or.inl rfl⟩
  case round =>
    obtain ⟨hb, hrel⟩ := hrel
    have HB : Hid (Below W0.heap.size W0 wr) := hb
    obtain ⟨⟨c0, c1, c2, c3⟩, _, hlr, _⟩ := HK.out wr hb
    clear hb
    rcases hrel with rfl | ⟨rfl, hz⟩ | ⟨rfl, hz⟩
    · have HN : Hid ((wr.alloc (.cells #[.int .i64 C0, .slice o0 l0.length k0] 45)).heap[wr.heap.size]? = some (.cells #[.int .i64 C0, .slice o0 l0.length k0] 45)) := heap_new _ _
      have HBA : Hid (Below wr.heap.size wr (wr.alloc (.cells #[.int .i64 C0, .slice o0 l0.length k0] 45))) := (Below.refl _ wr).alloc (Nat.le_refl _) _
      go_wp2_with fail
      refine (HBD.out _ _ _ _ _).mono ?_
      rintro e w2 ⟨rfl, hb2⟩
      have HB2 : Hid (Below W0.heap.size W0 w2) := HB.out.trans ((HBA.out.trans (hb2.mono HBA.out.size)).mono HB.out.size)
      have hN2 := (hb2.block _ (lt_of_get HN.out)).trans HN.out
      obtain ⟨d0, d1, _, _⟩ := cell_two hN2
      have hl2 : wr.heap.size < w2.heap.size := lt_of_get hN2
      obtain ⟨_, ⟨r0, r1, y0, y1⟩, hw2, hBw⟩ := HK.out w2 HB2.out
      have HBw : Hid (Below w.heap.size w w2) := hBw
      have n1 : ¬ w.heap.size = wr.heap.size := by omega
      have n2 : ¬ wr.heap.size = w.heap.size := by omega
      rw [badB]
      clear hb2 hN2 hBw c0 c1 c2 c3
      by_cases hz : C0 = 0 ∧ l0 = []
      · rw [decide_eq_true hz]
        go_wp2
        go_roundw
        case rel => exact ⟨HB2.out, Or.inr (Or.inl ⟨rfl, hz⟩)⟩
        case measure => simp [intOf]
      · rw [decide_eq_false hz]
        go_wp2
        refine bodyPost_ret (v := .agg #[.int .i64 C0, .slice o0 l0.length k0]) (by simp [results, Try.results33, go_sem, r0, r1]) rfl ⟨Or.inr (Or.inr ⟨hz, rfl⟩), ?_⟩
        exact (HBw.out.setCell (p := ⟨w.heap.size, 0, none⟩) (by simp) _).setCell (p := ⟨w.heap.size, 1, none⟩) (by simp) _
    · have HN : Hid ((wr.alloc (.cells #[.int .i64 C1, .slice o1 l1.length k1] 45)).heap[wr.heap.size]? = some (.cells #[.int .i64 C1, .slice o1 l1.length k1] 45)) := heap_new _ _
      have HBA : Hid (Below wr.heap.size wr (wr.alloc (.cells #[.int .i64 C1, .slice o1 l1.length k1] 45))) := (Below.refl _ wr).alloc (Nat.le_refl _) _
      have HZ : Hid (C0 = 0 ∧ l0 = []) := hz
      clear hz
      go_wp2_with fail
      refine (HBD.out _ _ _ _ _).mono ?_
      rintro e w2 ⟨rfl, hb2⟩
      have HB2 : Hid (Below W0.heap.size W0 w2) := HB.out.trans ((HBA.out.trans (hb2.mono HBA.out.size)).mono HB.out.size)
      have hN2 := (hb2.block _ (lt_of_get HN.out)).trans HN.out
      obtain ⟨d0, d1, _, _⟩ := cell_two hN2
      have hl2 : wr.heap.size < w2.heap.size := lt_of_get hN2
      obtain ⟨_, ⟨r0, r1, y0, y1⟩, hw2, hBw⟩ := HK.out w2 HB2.out
      have HBw : Hid (Below w.heap.size w w2) := hBw
      have n1 : ¬ w.heap.size = wr.heap.size := by omega
      have n2 : ¬ wr.heap.size = w.heap.size := by omega
      rw [badB]
      clear hb2 hN2 hBw c0 c1 c2 c3
      by_cases hz : C1 = 0 ∧ l1 = []
      · rw [decide_eq_true hz]
        go_wp2
        go_roundw
        case rel => exact ⟨HB2.out, Or.inr (Or.inr ⟨rfl, HZ.out, hz⟩)⟩
        case measure => simp [intOf]
      · rw [decide_eq_false hz]
        go_wp2
        refine bodyPost_ret (v := .agg #[.int .i64 C1, .slice o1 l1.length k1]) (by simp [results, Try.results33, go_sem, r0, r1]) rfl ⟨Or.inr (Or.inl ⟨HZ.out, hz, rfl⟩), ?_⟩
        exact (HBw.out.setCell (p := ⟨w.heap.size, 0, none⟩) (by simp) _).setCell (p := ⟨w.heap.size, 1, none⟩) (by simp) _
    · have HZ : Hid ((C0 = 0 ∧ l0 = []) ∧ (C1 = 0 ∧ l1 = [])) := hz
      obtain ⟨_, ⟨r0, r1, y0, y1⟩, hw2, hBw⟩ := HK.out wr HB.out
      have HBw : Hid (Below w.heap.size w wr) := hBw
      clear hz hBw c0 c1 c2 c3
      go_wp2
      refine bodyPost_ret (v := .agg #[.int .i64 0, .slice none 0 0]) (by simp [results, Try.results33, go_sem, r0, r1]) rfl ⟨Or.inl ⟨HZ.out.1, HZ.out.2, rfl⟩, ?_⟩
      exact (HBw.out.setCell (p := ⟨w.heap.size, 0, none⟩) (by simp) _).setCell (p := ⟨w.heap.size, 1, none⟩) (by simp) _
end Go.Proofs.Ytbfopkhdngfanaa
