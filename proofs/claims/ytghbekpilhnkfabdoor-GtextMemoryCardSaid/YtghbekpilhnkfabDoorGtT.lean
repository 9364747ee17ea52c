/- the reference's lacks, walked. -/
import Derived.Test.YtghbekpilhnkfabDoorGtR
namespace Go.Proofs.YtghbekpilhnkfabDoor.Gt
open Go Go.Lib Go.RowKit Go.Extern Hi

attribute [local go_sem] Oper.semAt_some

/-- the cells of a row, the rows in memory. -/
theorem rowR_cells {w : World} {B rc : Nat} {ro : Option Addr} {Q : List Rr} (h : w.ownsRow B 103 2 (.slice ro Q.length rc) Q.length (rcsR Q)) {k : Nat} {q : Rr} (hq : Q[k]? = some q) : ∃ g, ro = some ⟨g, 0, none⟩ ∧ g < w.heap.size ∧ Q.length ≤ rc ∧ w.cell? ⟨g, k * 2, none⟩ = some (.int .i64 (q.1 : Int)) ∧ w.cell? ⟨g, k * 2 + 1, none⟩ = some (.slice (some ⟨q.2.1, 0, none⟩) q.2.2.2.length q.2.2.1) := by
  have hlt := (List.getElem?_eq_some_iff.1 hq).1
  obtain ⟨g0, g1⟩ := rcsR_get _ k _ hq
  rcases h.2 with ⟨e, h0⟩ | ⟨g, cap, cur, e, _, hh, hc, _⟩
  · omega
  · cases e
    exact ⟨g, rfl, (Array.getElem?_eq_some_iff.1 hh).1, hc, (h.cellAt (k * 2) (by omega)).trans g0, (h.cellAt (k * 2 + 1) (by omega)).trans g1⟩
theorem lacks_res {W : World} {z : Nat} {x0 x1 : Value} {tmps : Array Value} (h1 : W.heap[z]? = some (.cells #[x0, x1] 35)) (t2 : tmps[2]?.getD undef = .pointer (some ⟨z, 0, none⟩)) :
    (results Tryd.f39 tmps).run Tryd.prog W = .ok (.agg #[x0, x1]) W := by
  have c0 : W.cell? ⟨z, 0, none⟩ = some x0 := by simp [World.cell?, h1]
  have c1 : W.cell? ⟨z, 1, none⟩ = some x1 := by simp [World.cell?, h1]
  simp [results, Tryd.results39, go_sem, t2, c0, c1]
/-- an error at a line, told. -/
theorem ref_at {w W1 Y : World} {c n : Int} {z g : Nat} {cz : Array Value} (hw : Below w.heap.size w W1) (hb : Below W1.heap.size W1 Y) (hz : Y.heap[z]? = some (.cells cz 35)) (hzw : w.heap.size ≤ z) (hpg : Y.heap[g]? = some (.cells #[.int .i64 1, .int .i64 n] 77)) :
    IsRef ((Y.setCell ⟨z, 0, none⟩ (.int .i64 c)).setCell ⟨z, 1, none⟩ (.slice (some ⟨g, 0, none⟩) 1 1)) (c, [(1, n)]) (.agg #[.int .i64 c, .slice (some ⟨g, 0, none⟩) 1 1]) ∧ Below w.heap.size w ((Y.setCell ⟨z, 0, none⟩ (.int .i64 c)).setCell ⟨z, 1, none⟩ (.slice (some ⟨g, 0, none⟩) 1 1)) := by
  obtain ⟨g1, g2⟩ := set_far (hw.trans (hb.mono hw.size)) hzw (.int .i64 c) (.slice (some ⟨g, 0, none⟩) 1 1)
  exact ⟨⟨some ⟨g, 0, none⟩, 1, rfl, place_one ((g2 g (at_ne hpg hz rr_ne.2.2.2)).trans hpg)⟩, g1⟩

set_option maxRecDepth 100000 in
set_option maxHeartbeats 2000000 in
theorem lacks_calls (w : World) (B rc : Nat) (ro : Option Addr) (Q : List Rr) (hO : w.ownsRow B 103 2 (.slice ro Q.length rc) Q.length (rcsR Q)) (hQ : Q.length ≤ 1048577) :
    Calls Tryd.prog 39 #[.slice ro Q.length rc] w fun e w' => ∃ v, e = .returned v ∧ IsRef w' (5, [(1, (lnK (Q.map rowOfR) Q.length : Int))]) v ∧ Below w.heap.size w w' := by
  obtain ⟨z, hz⟩ : ∃ z, w.heap.size = z := ⟨_, rfl⟩
  obtain ⟨W1, hW1⟩ : ∃ W1, w.alloc (.cells #[.int .i64 0, .slice none 0 0] 35) = W1 := ⟨_, rfl⟩
  have HW1 : Hid (w.alloc (.cells #[.int .i64 0, .slice none 0 0] 35) = W1) := hW1
  have n0 : W1.heap[z]? = some (.cells #[.int .i64 0, .slice none 0 0] 35) := by rw [← hW1, ← hz]; exact heap_newG _ _
  have hb1 : Below w.heap.size w W1 := by rw [← hW1]; exact (Below.refl _ _).alloc (Nat.le_refl _) _
  have H1 : Hid (Below w.heap.size w W1 ∧ W1.heap[z]? = some (.cells #[.int .i64 0, .slice none 0 0] 35) ∧ w.heap.size ≤ z ∧ z < W1.heap.size) := ⟨hb1, n0, by omega, (Array.getElem?_eq_some_iff.1 n0).1⟩
  have HZ : Hid (∀ Y, Below W1.heap.size W1 Y → Y.heap[z]? = some (.cells #[.int .i64 0, .slice none 0 0] 35)) := fun Y hY => (hY.block _ H1.out.2.2.2).trans H1.out.2.1
  have HCL : Hid (∀ Y, Below W1.heap.size W1 Y → Y.cell? ⟨z, 0, none⟩ = some (.int .i64 0) ∧ Y.cell? ⟨z, 1, none⟩ = some (.slice none 0 0) ∧ Y.frozen? ⟨z, 0, none⟩ = false ∧ Y.frozen? ⟨z, 1, none⟩ = false) := fun Y hY => by
    have g := HZ.out Y hY
    exact ⟨by simp [World.cell?, g], by simp [World.cell?, g], by simp [World.frozen?, g], by simp [World.frozen?, g]⟩
  rcases Nat.eq_zero_or_pos Q.length with h0 | h0
  · have HL : Hid (lnK (Q.map rowOfR) Q.length = 0) := by show _ = _; rw [h0]; rfl
    rw [h0]
    rw [h0] at HL
    clear hW1 n0 hb1 hO
    go_enter Tryd.func39, Tryd.ntmps39
    go_upto_region 4 with fail
    rw [HW1.out]
    go_wp2_with fail
    refine (E_calls 5 W1).mono ?_
    rintro e9 y5 ⟨rfl, hy5⟩
    go_wp2_with fail
    refine (refAt_calls 1 0 5 y5).mono ?_
    rintro e9 y6 ⟨pg, rfl, hpg, hy6⟩
    have hb6 : Below W1.heap.size W1 y6 := btrG hy5 hy6
    obtain ⟨c0, c1, f0, f1⟩ := HCL.out y6 hb6
    have HPG : Hid (y6.heap[pg]? = some (.cells #[.int .i64 1, .int .i64 0] 77) ∧ Below W1.heap.size W1 y6) := ⟨hpg, hb6⟩
    clear hpg hb6 hy5 hy6
    go_wp2
    refine bodyPost_ret (lacks_res (set_twoG (HZ.out y6 HPG.out.2) _ _) rfl) rfl ?_
    rw [HL.out]
    obtain ⟨g1, g2⟩ := ref_at (c := 5) H1.out.1 HPG.out.2 (HZ.out y6 HPG.out.2) H1.out.2.2.1 HPG.out.1
    exact ⟨_, rfl, g1, g2⟩
  · obtain ⟨n, hn⟩ : ∃ n, Q.length = n + 1 := ⟨Q.length - 1, by omega⟩
    obtain ⟨q, hq⟩ : ∃ q, Q[n]? = some q := ⟨_, List.getElem?_eq_getElem (by omega)⟩
    obtain ⟨g, rfl, hgl, hrc, k0, _⟩ := rowR_cells hO hq
    have HL : Hid (lnK (Q.map rowOfR) Q.length = q.1) := by
      show _ = _
      rw [hn]
      show ((Q.map rowOfR).getD n (0, [])).1 = q.1
      rw [List.getD_eq_getElem?_getD, List.getElem?_map, hq]
      rfl
    have e0 : W1.cell? ⟨g, n * 2, none⟩ = some (.int .i64 (q.1 : Int)) := (hb1.cell (p := ⟨g, n * 2, none⟩) hgl).trans k0
    rw [hn] at HL ⊢
    have i1 : decide (((n : Int) + 1) > 0) = true := decide_eq_true (by omega)
    have i2 : wrap64 (n : Int) = (n : Int) := by unfold wrap64; omega
    have i3 : (0 : Int) ≤ (n : Int) := by omega
    have i4 : (n : Int) < (n : Int) + 1 := by omega
    have gl : g < W1.heap.size := Nat.lt_of_lt_of_le hgl hb1.size
    clear hW1 n0 hb1 hO hn hq k0 hrc h0
    go_enter Tryd.func39, Tryd.ntmps39
    go_upto_region 2 with fail
    rw [HW1.out]
    go_wp2_with fail
    refine (E_calls 5 W1).mono ?_
    rintro e9 y5 ⟨rfl, hy5⟩
    go_wp2_with fail
    refine (refAt_calls 1 (q.1 : Int) 5 y5).mono ?_
    rintro e9 y6 ⟨pg, rfl, hpg, hy6⟩
    have hb6 : Below W1.heap.size W1 y6 := btrG hy5 hy6
    obtain ⟨c0, c1, f0, f1⟩ := HCL.out y6 hb6
    have HPG : Hid (y6.heap[pg]? = some (.cells #[.int .i64 1, .int .i64 (q.1 : Int)] 77) ∧ Below W1.heap.size W1 y6) := ⟨hpg, hb6⟩
    clear hpg hb6 hy5 hy6
    go_wp2
    refine bodyPost_ret (lacks_res (set_twoG (HZ.out y6 HPG.out.2) _ _) rfl) rfl ?_
    rw [HL.out]
    obtain ⟨g1, g2⟩ := ref_at (c := 5) H1.out.1 HPG.out.2 (HZ.out y6 HPG.out.2) H1.out.2.2.1 HPG.out.1
    exact ⟨_, rfl, g1, g2⟩
end Go.Proofs.YtghbekpilhnkfabDoor.Gt
