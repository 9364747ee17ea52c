/- query.ends. -/
import Derived.Test.YtepkogijignmlabQyM
import Derived.Test.YtepkogijignmlabHtC
namespace Go.Proofs.Ytepkogijignmlab.Qy
open Go.RowKit Go.Extern Go.Shelf Hi Cb

attribute [local go_sem] Oper.semAt_some

/-- two nodes of a hierarchy in form. -/
def Nodes (h : Hr) (s t : Int) : Prop := chk h = (0, []) ∧ (0 ≤ s ∧ s < (h.node.length : Int)) ∧ (0 ≤ t ∧ t < (h.node.length : Int))
set_option maxRecDepth 100000 in
set_option maxHeartbeats 4000000 in
theorem ends_ok (v : HV) (h : Hr) (s t : Nat) (w : World) (hH : HasH w v h) (hc : chk h = (0, [])) (hs : s < h.node.length) (ht : t < h.node.length) :
    Calls Try.prog 25 #[hvl v h, .int .i64 (s : Int), .int .i64 (t : Int)] w fun e w' => e = .returned (.tuple #[.int .i64 (rankOf h s : Int), .int .i64 (rankOf h t : Int), .nilIface]) ∧ Below w.heap.size w w' := by
  obtain ⟨k1, k2, k3, k4, k5, k6, k7, k8⟩ := chk_ok hc
  obtain ⟨z, hz⟩ : ∃ z, w.heap.size = z := ⟨_, rfl⟩
  obtain ⟨W0, hW0⟩ : ∃ W0, w.alloc (.cells (cellsH v h) 25) = W0 := ⟨_, rfl⟩
  have hB0 : Below w.heap.size w W0 := by rw [← hW0]; exact (Below.refl _ _).alloc (Nat.le_refl _) _
  have h0 : W0.heap[z]? = some (.cells (cellsH v h) 25) := by rw [← hW0, ← hz]; exact heap_newW _ _
  obtain ⟨c0, c1, c2, c3, c4⟩ := five_cells h0
  have HRK : Hid (Calls Try.prog 33 #[hvl v h] W0 fun e w' => ∃ lo c, e = .returned (.tuple #[.slice lo h.node.length c, .nilIface]) ∧ HasInts w' (.slice lo h.node.length c) (intsL (rkM h.node)) ∧ Below W0.heap.size W0 w') := ranks_ok (hH.keep hB0) hc
  have HW0 : Hid (w.alloc (.cells (cellsH v h) 25) = W0) := hW0
  have HB0 : Hid (Below w.heap.size w W0) := hB0
  have e1 := (rank_node hc hs).2
  have e2 := (rank_node hc ht).2
  have HE : Hid ((intsL (rkM h.node))[s]? = some (rankOf h s : Int) ∧ (intsL (rkM h.node))[t]? = some (rankOf h t : Int)) := by
    unfold intsL
    rw [List.getElem?_map, List.getElem?_map, e1, e2]
    exact ⟨rfl, rfl⟩
  obtain ⟨n, hn⟩ : ∃ n, h.node.length = n := ⟨_, rfl⟩
  clear hW0 h0 hB0 hH hc e1 e2 k2 k3 k4 k5 k6 k7 k8
  unfold cellsH at HW0
  unfold hvl at HRK ⊢
  rw [hn] at HRK HW0 c0 hs ht k1 ⊢
  clear hn
  generalize rankOf h s = rs at *
  generalize rankOf h t = rt at *
  go_enter Try.func25, Try.ntmps25
  go_wp2_with fail
  rw [HW0.out]
  refine HRK.out.mono ?_
  rintro e w1 ⟨lo, lc, rfl, hI, hb1⟩
  have H1 : Hid (∀ wx, Below w1.heap.size w1 wx → HasInts wx (.slice lo n lc) (intsL (rkM h.node)) ∧ Below w.heap.size w wx) := fun wx hx => ⟨hI.keep hx, HB0.out.trans ((hb1.trans (hx.mono hb1.size)).mono HB0.out.size)⟩
  clear hI hb1 c0 c1 c2 c3 c4
  go_wp2_with fail
  obtain ⟨y, hy⟩ : ∃ y, w1.heap.size = y := ⟨_, rfl⟩
  obtain ⟨W2, hW2⟩ : ∃ W2, w1.alloc (.cells #[.int .i64 (s : Int), .int .i64 (t : Int)] 3) = W2 := ⟨_, rfl⟩
  have H2 : Hid (W2.heap[y]? = some (.cells #[.int .i64 (s : Int), .int .i64 (t : Int)] 3) ∧ Below w1.heap.size w1 W2) := by
    constructor
    · rw [← hW2, ← hy]; exact heap_newW _ _
    · rw [← hW2]; exact (Below.refl _ _).alloc (Nat.le_refl _) _
  rw [hW2, hy]
  clear hy hW2
  obtain ⟨⟨d0, d1⟩, _⟩ : (W2.cell? ⟨y, 0, none⟩ = some (.int .i64 (s : Int)) ∧ W2.cell? ⟨y, 1, none⟩ = some (.int .i64 (t : Int))) ∧ True := by simp [World.cell?, H2.out.1]
  go_loopw [25] (fun iv wr => ∃ j : Nat, j ≤ 2 ∧ iv = .int .i64 j ∧ wr = W2) (fun iv _ => 2 - (intOf iv).toNat)
  case atStart => exact ⟨0, by omega, rfl, rfl⟩
  case round =>
    obtain ⟨j, hj, rfl, rfl⟩ := hrel
    rcases (show j = 0 ∨ j = 1 ∨ j = 2 by omega) with rfl | rfl | rfl
    · have i1 : decide ((s : Int) < 0) = false := by simp
      have i2 : decide ((n : Int) ≤ (s : Int)) = false := by simp; omega
      go_wp2
      go_roundw
      case rel => exact ⟨1, by omega, by go_num, by first | rfl | trivial⟩
      case measure => simp [intOf]
    · have i1 : decide ((t : Int) < 0) = false := by simp
      have i2 : decide ((n : Int) ≤ (t : Int)) = false := by simp; omega
      go_wp2
      go_roundw
      case rel => exact ⟨2, by omega, by go_num, by first | rfl | trivial⟩
      case measure => simp [intOf]
    · obtain ⟨b1, o1, e1, _, g1⟩ := (H1.out wr H2.out.2).1.at HE.out.1
      obtain ⟨b2, o2, e2, _, g2⟩ := (H1.out wr H2.out.2).1.at HE.out.2
      subst e1
      cases e2
      have i1 : (s : Int) < (n : Int) := by omega
      have i2 : (0 : Int) ≤ (s : Int) := by omega
      have i3 : (t : Int) < (n : Int) := by omega
      have i4 : (0 : Int) ≤ (t : Int) := by omega
      go_wp2_with fail
      go_quiet (fail)
      go_wp2
      go_ret3
      have g := (H1.out wr H2.out.2).2
      exact ⟨rfl, ⟨g.os, g.tape, g.output, g.size, g.block⟩⟩

set_option maxRecDepth 100000 in
set_option maxHeartbeats 4000000 in
theorem ends_bad (v : HV) (h : Hr) (s t : Int) (w : World) (hH : HasH w v h) (hb1 : h.up.length ≤ 1152921504606846976) (hb2 : h.dn.length ≤ 1152921504606846976) (hb3 : h.node.length ≤ 1152921504606846976) (hno : ¬ Nodes h s t) :
    Calls Try.prog 25 #[hvl v h, .int .i64 s, .int .i64 t] w fun e w' => ∃ T x, e = .returned (.tuple #[.int .i64 0, .int .i64 0, .iface T x]) ∧ Below w.heap.size w w' := by
  obtain ⟨z, hz⟩ : ∃ z, w.heap.size = z := ⟨_, rfl⟩
  obtain ⟨W0, hW0⟩ : ∃ W0, w.alloc (.cells (cellsH v h) 25) = W0 := ⟨_, rfl⟩
  have hB0 : Below w.heap.size w W0 := by rw [← hW0]; exact (Below.refl _ _).alloc (Nat.le_refl _) _
  have h0 : W0.heap[z]? = some (.cells (cellsH v h) 25) := by rw [← hW0, ← hz]; exact heap_newW _ _
  obtain ⟨c0, c1, c2, c3, c4⟩ := five_cells h0
  have HRK := ranks_calls v h W0 (hH.keep hB0) hb1 hb2 hb3
  have HRK' : Hid (type_of% HRK) := HRK
  have HW0 : Hid (w.alloc (.cells (cellsH v h) 25) = W0) := hW0
  have HB0 : Hid (Below w.heap.size w W0) := hB0
  have HNO : Hid (¬ Nodes h s t) := hno
  clear HRK hW0 h0 hB0 hH hno
  unfold cellsH at HW0
  unfold hvl at HRK' ⊢
  go_enter Try.func25, Try.ntmps25
  go_wp2_with fail
  rw [HW0.out]
  refine HRK'.out.mono ?_
  rintro e w1 ⟨lo, kk, lc, u, R, rfl, hb, hI, _, hh⟩
  have H1 : Hid (Below w.heap.size w w1) := HB0.out.trans (hb.mono HB0.out.size)
  clear c0 c1 c2 c3 c4 hb
  rcases hh with ⟨hc, rfl, rfl⟩ | ⟨hc, rfl, ht⟩
  · have hkk : kk = h.node.length := by
      obtain ⟨_, _, e, _⟩ := hI
      injection e with _ e _
      rw [e]
      unfold intsL
      rw [List.length_map, rkM_len]
    subst hkk
    obtain ⟨n, hn⟩ : ∃ n, h.node.length = n := ⟨_, rfl⟩
    have hno2 : ¬ ((0 ≤ s ∧ s < (n : Int)) ∧ (0 ≤ t ∧ t < (n : Int))) := fun g => HNO.out ⟨hc, by rw [hn]; exact g⟩
    rw [hn]
    clear hI hc hn HNO HRK'
    go_wp2_with fail
    obtain ⟨y, hy⟩ : ∃ y, w1.heap.size = y := ⟨_, rfl⟩
    obtain ⟨W2, hW2⟩ : ∃ W2, w1.alloc (.cells #[.int .i64 s, .int .i64 t] 3) = W2 := ⟨_, rfl⟩
    have H2 : Hid (W2.heap[y]? = some (.cells #[.int .i64 s, .int .i64 t] 3) ∧ Below w1.heap.size w1 W2) := by
      constructor
      · rw [← hW2, ← hy]; exact heap_newW _ _
      · rw [← hW2]; exact (Below.refl _ _).alloc (Nat.le_refl _) _
    rw [hW2, hy]
    clear hy hW2
    obtain ⟨⟨d0, d1⟩, _⟩ : (W2.cell? ⟨y, 0, none⟩ = some (.int .i64 s) ∧ W2.cell? ⟨y, 1, none⟩ = some (.int .i64 t)) ∧ True := by simp [World.cell?, H2.out.1]
    have HEND : Hid (∀ wx, Below W2.heap.size W2 wx → Below w.heap.size w wx) := fun wx hx => H1.out.trans ((H2.out.2.trans (hx.mono H2.out.2.size)).mono H1.out.size)
    go_loopw [25] (fun iv wr => ∃ j : Nat, j ≤ 1 ∧ iv = .int .i64 j ∧ wr = W2 ∧ (j = 1 → 0 ≤ s ∧ s < (n : Int))) (fun iv _ => 2 - (intOf iv).toNat)
    case atStart => exact ⟨0, by omega, rfl, rfl, fun e => by omega⟩
    case round =>
      obtain ⟨j, hj, rfl, rfl, hjs⟩ := hrel
      rcases (show j = 0 ∨ j = 1 by omega) with rfl | rfl
      · by_cases g : 0 ≤ s ∧ s < (n : Int)
        · have i1 : decide (s < 0) = false := by simp; omega
          have i2 : decide ((n : Int) ≤ s) = false := by simp; omega
          go_wp2
          go_roundw
          case rel => exact ⟨1, by omega, by go_num, by first | rfl | trivial, fun _ => g⟩
          case measure => simp [intOf]
        · by_cases g0 : s < 0
          · have i1 : decide (s < 0) = true := by simpa using g0
            go_wp2_with (go_at_call 21; refine (at_some _ _ _ _ _).mono ?_; rintro e w3 ⟨rfl, hw3⟩; have H3 : Hid (Below wr.heap.size wr w3) := (by rw [hw3]; exact (Below.refl _ _).alloc (Nat.le_refl _) _); clear hw3)
            go_ret3
            exact ⟨_, _, rfl, HEND.out _ H3.out⟩
          · have i1 : decide (s < 0) = false := by simpa using g0
            have i2 : decide ((n : Int) ≤ s) = true := by simp; omega
            go_wp2_with (go_at_call 21; refine (at_some _ _ _ _ _).mono ?_; rintro e w3 ⟨rfl, hw3⟩; have H3 : Hid (Below wr.heap.size wr w3) := (by rw [hw3]; exact (Below.refl _ _).alloc (Nat.le_refl _) _); clear hw3)
            go_ret3
            exact ⟨_, _, rfl, HEND.out _ H3.out⟩
      · have g : ¬ (0 ≤ t ∧ t < (n : Int)) := fun g => hno2 ⟨hjs rfl, g⟩
        by_cases g0 : t < 0
        · have i1 : decide (t < 0) = true := by simpa using g0
          go_wp2_with (go_at_call 21; refine (at_some _ _ _ _ _).mono ?_; rintro e w3 ⟨rfl, hw3⟩; have H3 : Hid (Below wr.heap.size wr w3) := (by rw [hw3]; exact (Below.refl _ _).alloc (Nat.le_refl _) _); clear hw3)
          go_ret3
          exact ⟨_, _, rfl, HEND.out _ H3.out⟩
        · have i1 : decide (t < 0) = false := by simpa using g0
          have i2 : decide ((n : Int) ≤ t) = true := by simp; omega
          go_wp2_with (go_at_call 21; refine (at_some _ _ _ _ _).mono ?_; rintro e w3 ⟨rfl, hw3⟩; have H3 : Hid (Below wr.heap.size wr w3) := (by rw [hw3]; exact (Below.refl _ _).alloc (Nat.le_refl _) _); clear hw3)
          go_ret3
          exact ⟨_, _, rfl, HEND.out _ H3.out⟩
  · obtain ⟨tt, xx, hu1, _⟩ := isTold_some ht hc
    subst hu1
    clear ht hI
    go_wp2
    go_ret3
    exact ⟨tt, xx, rfl, H1.out⟩
end Go.Proofs.Ytepkogijignmlab.Qy
