/- viaductref05.Row and Node at right arrays. -/
import Derived.Test.YtnkfggccahohpaaDoorSrB
import Derived.Test.YtnkfggccahohpaaDoorCsrDc
namespace Go.Proofs.YtnkfggccahohpaaDoor
open Go.RowKit Go.Extern

attribute [local go_sem] Oper.semAt_some

set_option maxRecDepth 100000 in
set_option maxHeartbeats 4000000 in
theorem rRow_calls (n : Nat) (zs : List (Int × Int × Int)) (fo to wo : Option Addr) (fc tc wc : Nat) (w : World) (hz : Fine n zs) (h : CsrIn w n zs fo to wo fc tc wc) (v : Nat) (hv : v < n) :
    Calls Tryd.prog 35 #[.agg #[.slice fo (n + 1) fc, .slice to zs.length tc, .slice wo zs.length wc], .int .i64 v] w fun e w' => ∃ lo lc, e = .returned (.slice lo (theRow zs v).length lc) ∧ w'.ownsRow w.heap.size 95 3 (.slice lo (theRow zs v).length lc) (theRow zs v).length (flatC (theRow zs v)) ∧ Below w.heap.size w w' := by
  unfold theRow
  obtain ⟨fb, fof, rfl, hl, hc⟩ := h.first
  have hN := hz.few
  have hM := hz.short
  obtain ⟨W0, hW0⟩ : ∃ W0, w.alloc (.cells #[.slice (some ⟨fb, fof, none⟩) (n + 1) fc, .slice to zs.length tc, .slice wo zs.length wc] 24) = W0 := ⟨_, rfl⟩
  have HW0 : Hid (w.alloc (.cells #[.slice (some ⟨fb, fof, none⟩) (n + 1) fc, .slice to zs.length tc, .slice wo zs.length wc] 24) = W0) := hW0
  have hB0 : Below w.heap.size w W0 := by rw [← hW0]; exact (Below.refl _ w).alloc (Nat.le_refl _) _
  have HBX : Hid (W0.heap[w.heap.size]? = some (.cells #[.slice (some ⟨fb, fof, none⟩) (n + 1) fc, .slice to zs.length tc, .slice wo zs.length wc] 24)) := by rw [← hW0]; exact heap_new _ _
  have HB : Hid (Below w.heap.size w W0) := hB0
  have HK : Hid (∀ wx, Below w.heap.size w wx → wx.heap[w.heap.size]? = some (.cells #[.slice (some ⟨fb, fof, none⟩) (n + 1) fc, .slice to zs.length tc, .slice wo zs.length wc] 24) → (wx.cell? ⟨w.heap.size, 0, none⟩ = some (.slice (some ⟨fb, fof, none⟩) (n + 1) fc) ∧ wx.cell? ⟨w.heap.size, 1, none⟩ = some (.slice to zs.length tc) ∧ wx.cell? ⟨w.heap.size, 2, none⟩ = some (.slice wo zs.length wc)) ∧ w.heap.size < wx.heap.size ∧ fb < wx.heap.size ∧ (∀ v, v ≤ n → wx.cell? ⟨fb, fof + v, none⟩ = some (.int .i64 (firstAt zs v)))) := fun wx hx hg =>
    ⟨box3 hg, lt_of_get hg, Nat.lt_of_lt_of_le hl hx.size, fun v hv => (hx.cell (p := ⟨fb, _, none⟩) hl).trans (hc v hv)⟩
  have HAR : Hid (∀ (i : Nat) (a : Int × Int × Int), zs[i]? = some a → ∃ tb tof wb wof, to = some ⟨tb, tof, none⟩ ∧ wo = some ⟨wb, wof, none⟩ ∧ ∀ wx, Below w.heap.size w wx → tb < wx.heap.size ∧ wb < wx.heap.size ∧ wx.cell? ⟨tb, tof + i, none⟩ = some (.int .i64 a.2.1) ∧ wx.cell? ⟨wb, wof + i, none⟩ = some (.int .i64 a.2.2)) := fun i a ha => by
    obtain ⟨tb, tof, wb, wof, e1, e2, ht, hw, hA⟩ := h.arc (by have := (List.getElem?_eq_some_iff.1 ha).1; omega)
    exact ⟨tb, tof, wb, wof, e1, e2, fun wx hx => ⟨Nat.lt_of_lt_of_le ht hx.size, Nat.lt_of_lt_of_le hw hx.size, (hx.cell (p := ⟨tb, _, none⟩) ht).trans (hA i a ha).1, (hx.cell (p := ⟨wb, _, none⟩) hw).trans (hA i a ha).2⟩⟩
  have HZ : Hid (Fine n zs) := hz
  have hxy : firstAt zs v ≤ firstAt zs (v + 1) := firstAt_mono zs (by omega)
  have hyl : firstAt zs (v + 1) ≤ zs.length := firstAt_le _ _
  have HFX : Hid (rowOf zs v (firstAt zs v) = []) := rowOf_none zs v
  obtain ⟨x, hx⟩ : ∃ x, firstAt zs v = x := ⟨_, rfl⟩
  obtain ⟨y, hy⟩ : ∃ y, firstAt zs (v + 1) = y := ⟨_, rfl⟩
  have HX : Hid (firstAt zs v = x ∧ firstAt zs (v + 1) = y) := ⟨hx, hy⟩
  rw [hx, hy] at hxy
  rw [hy] at hyl
  rw [hy]
  rw [hx] at HFX
  have e1 : (v : Int) < (n : Int) + 1 := by omega
  have e2 : (v : Int) + 1 < (n : Int) + 1 := by omega
  have e3 : (0 : Int) ≤ (v : Int) := by omega
  have e4 : (0 : Int) ≤ (v : Int) + 1 := by omega
  have e5 : IntKind.i64.wrap ((v : Int) + 1) = (v : Int) + 1 := by rw [IntKind.wrap_i64] <;> omega
  have q0 : w.cell? ⟨fb, fof + v, none⟩ = some (.int .i64 x) := by rw [← hx]; exact hc v (by omega)
  have ql : fb < w.heap.size := hl
  clear hB0 hW0 h hc hz hl hx hy
  go_enter Tryd.func35, Tryd.ntmps35
  go_wp2_with fail
  rw [HW0.out]
  go_loopw [5, 6] (fun av iv wr => ∃ (i : Nat) (so : Option Addr) (sc : Nat), x ≤ i ∧ i ≤ y ∧ iv = .int .i64 i ∧ av = .slice so (rowOf zs v i).length sc ∧ wr.ownsRow w.heap.size 95 3 (.slice so (rowOf zs v i).length sc) (rowOf zs v i).length (flatC (rowOf zs v i)) ∧ Below w.heap.size w wr ∧ wr.heap[w.heap.size]? = some (.cells #[.slice (some ⟨fb, fof, none⟩) (n + 1) fc, .slice to zs.length tc, .slice wo zs.length wc] 24)) (fun _ iv _ => y - (intOf iv).toNat)
  case atStart =>
    have h := HFX.out
    refine ⟨x, none, 0, Nat.le_refl _, hxy, rfl, ?_, ?_, HB.out, HBX.out⟩
    · rw [h]; rfl
    · rw [h]; exact World.ownsRow_nil _ _ _ _
  case round =>
    obtain ⟨i, so, sc, hi1, hi2, rfl, rfl, hO, hb, hbx⟩ := hrel
    have HOW : Hid (type_of% hO) := hO
    have HBW : Hid (Below w.heap.size w wr) := hb
    have HBB : Hid (type_of% hbx) := hbx
    obtain ⟨⟨c0, c1, c2⟩, cs, cf, hc⟩ := HK.out wr hb hbx
    have q1 := hc (v + 1) (by omega)
    rw [HX.out.2] at q1
    have HLL : Hid ((rowOf zs v i).length ≤ 524288) := by
      show _ ≤ _
      have := rowOf_len (zs := zs) v i
      omega
    clear hO hb hbx hc q0 ql
    by_cases hiy : i < y
    · obtain ⟨a, ha⟩ : ∃ a, zs[i]? = some a := ⟨zs[i], List.getElem?_eq_getElem (by omega)⟩
      obtain ⟨tb, tof, wb, wof, rfl, rfl, hA⟩ := HAR.out i a ha
      obtain ⟨lt, lw, t0, w0⟩ := hA wr HBW.out
      have HR : Hid (a.1 = (v : Int) ∧ rowOf zs v (i + 1) = rowOf zs v i ++ [a]) := ⟨HZ.out.row ha (by rw [HX.out.1]; exact hi1) (by rw [HX.out.2]; exact hiy), rowOf_next ha (by rw [HX.out.1]; exact hi1)⟩
      have i1 : (i : Int) < (zs.length : Int) := by omega
      have i2 : (0 : Int) ≤ (i : Int) := by omega
      obtain ⟨a0, a1, a2⟩ := a
      have hR := HR.out
      obtain ⟨hr0, hr1⟩ := hR
      simp only at hr0 t0 w0
      subst hr0
      have HR1 : Hid (rowOf zs v (i + 1) = rowOf zs v i ++ [((v : Int), a1, a2)]) := hr1
      clear HR hr1 hA ha
      obtain ⟨L, hL⟩ : ∃ L, rowOf zs v i = L := ⟨_, rfl⟩
      have HRL : Hid (rowOf zs v (i + 1) = L ++ [((v : Int), a1, a2)]) := by show _ = _; rw [HR1.out, ← hL]
      rw [hL] at HOW HLL ⊢
      clear hL HR1
      go_wp2_with fail
      go_region_law (first
        | (refine step_append_arcs rfl _ _ rfl w.heap.size (.slice so L.length sc) L rfl (rowC_keep HOW.out ((Below.refl _ wr).drew.alloc (Nat.le_refl _) _)) ⟨wr.heap.size, 0, none⟩ 1 [((v : Int), a1, a2)] rfl (arcs_one wr.drew ((v : Int), a1, a2) 95) (by have := HLL.out; simp only [List.length_cons, List.length_nil]; omega) (by have := HBW.out.size; simp; omega) ?_; intro v3 w3 hown3 hgr3; have HO3 : Hid (type_of% hown3) := hown3; have HG3 : Hid (type_of% hgr3) := hgr3; clear hown3 hgr3))
      all_goals
        obtain ⟨po, pc, hv3⟩ := rowC_slice HO3.out
        subst hv3
        have HN : Hid (w3.ownsRow w.heap.size 95 3 (.slice po (rowOf zs v (i + 1)).length pc) (rowOf zs v (i + 1)).length (flatC (rowOf zs v (i + 1))) ∧ Below w.heap.size w w3 ∧ w3.heap[w.heap.size]? = some (.cells #[.slice (some ⟨fb, fof, none⟩) (n + 1) fc, .slice (some ⟨tb, tof, none⟩) zs.length tc, .slice (some ⟨wb, wof, none⟩) zs.length wc] 24)) := by
          have hal : Below wr.heap.size wr (wr.drew.alloc (.cells #[.int .i64 v, .int .i64 a1, .int .i64 a2] 95)) := (Below.refl _ wr).drew.alloc (Nat.le_refl _) _
          have hbx2 := (hal.block _ (lt_of_get HBB.out)).trans HBB.out
          refine ⟨by rw [HRL.out]; exact HO3.out, below_grown (HBW.out.trans (hal.mono HBW.out.size)) (rowC_keep HOW.out hal) HG3.out (Nat.le_trans HBW.out.size hal.size), ?_⟩
          exact (HG3.out.block _ (lt_of_get hbx2) (own_not_box (rowC_keep HOW.out hal) hbx2 (by decide))).trans hbx2
        have HLE : Hid ((rowOf zs v (i + 1)).length = L.length + 1) := by show _ = _; rw [HRL.out, List.length_append]; rfl
        clear HO3 HG3
        go_wp2
        go_roundw
        case rel => exact ⟨i + 1, po, pc, by omega, by omega, by go_num, by rw [HLE.out], HN.out.1, HN.out.2.1, HN.out.2.2⟩
        case measure => simp [intOf]; omega
    · obtain rfl : i = y := by omega
      go_wp2
      go_ret
      exact ⟨_, _, rfl, HOW.out, HBW.out⟩

set_option maxHeartbeats 1000000 in
theorem rNode_calls (fo to wo : Option Addr) (n fc tl tc wl wc : Nat) (hn : n ≤ 4611686018427387904) (v : Int) (w : World) : Calls Tryd.prog 40 #[.agg #[.slice fo (n + 1) fc, .slice to tl tc, .slice wo wl wc], .int .i64 v] w fun e w' => e = .returned (.bool (decide (0 ≤ v ∧ v < (n : Int)))) ∧ Below w.heap.size w w' := by
  have HB : Hid (Below w.heap.size w (w.alloc (.cells #[.slice fo (n + 1) fc, .slice to tl tc, .slice wo wl wc] 24))) := (Below.refl _ w).alloc (Nat.le_refl _) _
  have hw : IntKind.i64.wrap (((n + 1 : Nat) : Int) - 1) = (n : Int) := by rw [IntKind.wrap_i64] <;> omega
  by_cases h0 : 0 ≤ v
  · rw [show decide (0 ≤ v ∧ v < (n : Int)) = decide (v < (n : Int)) by simp [h0]]
    go_enter Tryd.func40, Tryd.ntmps40
    go_wp2
    go_ret
    exact ⟨rfl, HB.out⟩
  · rw [decide_eq_false (fun h => h0 h.1)]
    go_enter Tryd.func40, Tryd.ntmps40
    go_wp2
    go_ret
    exact ⟨rfl, HB.out⟩
end Go.Proofs.YtnkfggccahohpaaDoor
