/- climb.Up and climb.Down; the law's great and of; the reference's Same. (gencg.py) -/
import Derived.Test.YtepkogijignmlabCbF
namespace Go.Proofs.Ytepkogijignmlab.Cb
open Go.RowKit Go.Extern Go.Shelf Hi

attribute [local go_sem] Oper.semAt_some

set_option maxRecDepth 100000 in
set_option maxHeartbeats 4000000 in
theorem up_ok (v : HV) (h : Hr) (s : Nat) (w : World) (hH : HasH w v h) (hc : chk h = (0, [])) (hs : s < h.node.length) :
    Calls Try.prog 26 #[hvl v h, .int .i64 (s : Int)] w fun e w' => ∃ (mo : Option Addr) (mc : Nat) (X : List (Nat × Int × Bool)), X = upL h s ∧ e = .returned (.tuple #[.slice mo X.length mc, .nilIface]) ∧ w'.ownsRow w.heap.size 91 3 (.slice mo X.length mc) X.length (snv X) ∧ Below w.heap.size w w' := by
  obtain ⟨z, hz⟩ : ∃ z, w.heap.size = z := ⟨_, rfl⟩
  obtain ⟨W0, hW0⟩ : ∃ W0, w.alloc (.cells (cellsH v h) 25) = W0 := ⟨_, rfl⟩
  have hB0 : Below w.heap.size w W0 := by rw [← hW0]; exact (Below.refl _ w).alloc (Nat.le_refl _) _
  have h0 : W0.heap[z]? = some (.cells (cellsH v h) 25) := by rw [← hW0, ← hz]; exact heap_newW _ _
  obtain ⟨c0, c1, c2, c3, c4⟩ := five_cells h0
  have HW0 : Hid (w.alloc (.cells (cellsH v h) 25) = W0) := hW0
  have HB0 : Hid (Below w.heap.size w W0) := hB0
  have HSE : Hid (Calls Try.prog 34 #[hvl v h, .int .i64 (s : Int), .agg #[.slice v.uo h.upF.length v.uc, .slice v.ul h.up.length v.ulc], .agg #[.slice v.wo h.dnF.length v.wc, .slice v.dl h.dn.length v.dlc]] W0 fun e w' => ∃ (mo : Option Addr) (mc : Nat) (X : List (Nat × Int × Bool)), X = upL h s ∧ e = .returned (.tuple #[.slice mo X.length mc, .nilIface]) ∧ w'.ownsRow W0.heap.size 91 3 (.slice mo X.length mc) X.length (snv X) ∧ Below W0.heap.size W0 w') := search_good v h s v.uo v.ul v.uc v.ulc h.upF h.up v.wo v.dl v.wc v.dlc h.dnF h.dn W0 (hH.keep hB0) hc hs (rows_up (hH.keep hB0) hc) (rows_dn (hH.keep hB0) hc)
  clear hW0 h0 hB0 hH
  unfold cellsH at HW0
  unfold hvl at HSE ⊢
  go_enter Try.func26, Try.ntmps26
  go_wp2_with fail
  rw [HW0.out]
  refine HSE.out.mono ?_
  rintro e w1 ⟨mo, mc, X, hX, rfl, ho, hb⟩
  have H1 : Hid (X = upL h s ∧ w1.ownsRow w.heap.size 91 3 (.slice mo X.length mc) X.length (snv X) ∧ Below w.heap.size w w1) := ⟨hX, own_mono ho HB0.out.size, HB0.out.trans (hb.mono HB0.out.size)⟩
  clear hX ho hb
  go_wp2
  go_ret2
  exact ⟨mo, mc, X, H1.out.1, rfl, H1.out.2.1, H1.out.2.2⟩

set_option maxRecDepth 100000 in
set_option maxHeartbeats 4000000 in
theorem up_bad (v : HV) (h : Hr) (s : Int) (w : World) (hH : HasH w v h) (hb1 : h.up.length ≤ 1152921504606846976) (hb2 : h.dn.length ≤ 1152921504606846976) (hb3 : h.node.length ≤ 1152921504606846976) (hr : Refuses h s) :
    Calls Try.prog 26 #[hvl v h, .int .i64 s] w fun e w' => ∃ T x, e = .returned (.tuple #[.slice none 0 0, .iface T x]) ∧ Below w.heap.size w w' := by
  obtain ⟨z, hz⟩ : ∃ z, w.heap.size = z := ⟨_, rfl⟩
  obtain ⟨W0, hW0⟩ : ∃ W0, w.alloc (.cells (cellsH v h) 25) = W0 := ⟨_, rfl⟩
  have hB0 : Below w.heap.size w W0 := by rw [← hW0]; exact (Below.refl _ w).alloc (Nat.le_refl _) _
  have h0 : W0.heap[z]? = some (.cells (cellsH v h) 25) := by rw [← hW0, ← hz]; exact heap_newW _ _
  obtain ⟨c0, c1, c2, c3, c4⟩ := five_cells h0
  have HW0 : Hid (w.alloc (.cells (cellsH v h) 25) = W0) := hW0
  have HB0 : Hid (Below w.heap.size w W0) := hB0
  have HSE : Hid (Calls Try.prog 34 #[hvl v h, .int .i64 s, .agg #[.slice v.uo h.upF.length v.uc, .slice v.ul h.up.length v.ulc], .agg #[.slice v.wo h.dnF.length v.wc, .slice v.dl h.dn.length v.dlc]] W0 fun e w' => ∃ T x, e = .returned (.tuple #[.slice none 0 0, .iface T x]) ∧ Below W0.heap.size W0 w') := search_bad v h s _ _ _ _ _ _ _ _ _ _ _ _ W0 (hH.keep hB0) hb1 hb2 hb3 hr
  clear hr
  clear hW0 h0 hB0 hH
  unfold cellsH at HW0
  unfold hvl at HSE ⊢
  go_enter Try.func26, Try.ntmps26
  go_wp2_with fail
  rw [HW0.out]
  refine HSE.out.mono ?_
  rintro e w1 ⟨T, x, rfl, hb⟩
  have H1 : Hid (Below w.heap.size w w1) := HB0.out.trans (hb.mono HB0.out.size)
  clear hb
  go_wp2
  go_ret2
  exact ⟨T, x, rfl, H1.out⟩

set_option maxRecDepth 100000 in
set_option maxHeartbeats 4000000 in
theorem down_ok (v : HV) (h : Hr) (s : Nat) (w : World) (hH : HasH w v h) (hc : chk h = (0, [])) (hs : s < h.node.length) :
    Calls Try.prog 27 #[hvl v h, .int .i64 (s : Int)] w fun e w' => ∃ (mo : Option Addr) (mc : Nat) (X : List (Nat × Int × Bool)), X = dnL h s ∧ e = .returned (.tuple #[.slice mo X.length mc, .nilIface]) ∧ w'.ownsRow w.heap.size 91 3 (.slice mo X.length mc) X.length (snv X) ∧ Below w.heap.size w w' := by
  obtain ⟨z, hz⟩ : ∃ z, w.heap.size = z := ⟨_, rfl⟩
  obtain ⟨W0, hW0⟩ : ∃ W0, w.alloc (.cells (cellsH v h) 25) = W0 := ⟨_, rfl⟩
  have hB0 : Below w.heap.size w W0 := by rw [← hW0]; exact (Below.refl _ w).alloc (Nat.le_refl _) _
  have h0 : W0.heap[z]? = some (.cells (cellsH v h) 25) := by rw [← hW0, ← hz]; exact heap_newW _ _
  obtain ⟨c0, c1, c2, c3, c4⟩ := five_cells h0
  have HW0 : Hid (w.alloc (.cells (cellsH v h) 25) = W0) := hW0
  have HB0 : Hid (Below w.heap.size w W0) := hB0
  have HSE : Hid (Calls Try.prog 34 #[hvl v h, .int .i64 (s : Int), .agg #[.slice v.wo h.dnF.length v.wc, .slice v.dl h.dn.length v.dlc], .agg #[.slice v.uo h.upF.length v.uc, .slice v.ul h.up.length v.ulc]] W0 fun e w' => ∃ (mo : Option Addr) (mc : Nat) (X : List (Nat × Int × Bool)), X = dnL h s ∧ e = .returned (.tuple #[.slice mo X.length mc, .nilIface]) ∧ w'.ownsRow W0.heap.size 91 3 (.slice mo X.length mc) X.length (snv X) ∧ Below W0.heap.size W0 w') := search_good v h s v.wo v.dl v.wc v.dlc h.dnF h.dn v.uo v.ul v.uc v.ulc h.upF h.up W0 (hH.keep hB0) hc hs (rows_dn (hH.keep hB0) hc) (rows_up (hH.keep hB0) hc)
  clear hW0 h0 hB0 hH
  unfold cellsH at HW0
  unfold hvl at HSE ⊢
  go_enter Try.func27, Try.ntmps27
  go_wp2_with fail
  rw [HW0.out]
  refine HSE.out.mono ?_
  rintro e w1 ⟨mo, mc, X, hX, rfl, ho, hb⟩
  have H1 : Hid (X = dnL h s ∧ w1.ownsRow w.heap.size 91 3 (.slice mo X.length mc) X.length (snv X) ∧ Below w.heap.size w w1) := ⟨hX, own_mono ho HB0.out.size, HB0.out.trans (hb.mono HB0.out.size)⟩
  clear hX ho hb
  go_wp2
  go_ret2
  exact ⟨mo, mc, X, H1.out.1, rfl, H1.out.2.1, H1.out.2.2⟩

set_option maxRecDepth 100000 in
set_option maxHeartbeats 4000000 in
theorem down_bad (v : HV) (h : Hr) (s : Int) (w : World) (hH : HasH w v h) (hb1 : h.up.length ≤ 1152921504606846976) (hb2 : h.dn.length ≤ 1152921504606846976) (hb3 : h.node.length ≤ 1152921504606846976) (hr : Refuses h s) :
    Calls Try.prog 27 #[hvl v h, .int .i64 s] w fun e w' => ∃ T x, e = .returned (.tuple #[.slice none 0 0, .iface T x]) ∧ Below w.heap.size w w' := by
  obtain ⟨z, hz⟩ : ∃ z, w.heap.size = z := ⟨_, rfl⟩
  obtain ⟨W0, hW0⟩ : ∃ W0, w.alloc (.cells (cellsH v h) 25) = W0 := ⟨_, rfl⟩
  have hB0 : Below w.heap.size w W0 := by rw [← hW0]; exact (Below.refl _ w).alloc (Nat.le_refl _) _
  have h0 : W0.heap[z]? = some (.cells (cellsH v h) 25) := by rw [← hW0, ← hz]; exact heap_newW _ _
  obtain ⟨c0, c1, c2, c3, c4⟩ := five_cells h0
  have HW0 : Hid (w.alloc (.cells (cellsH v h) 25) = W0) := hW0
  have HB0 : Hid (Below w.heap.size w W0) := hB0
  have HSE : Hid (Calls Try.prog 34 #[hvl v h, .int .i64 s, .agg #[.slice v.wo h.dnF.length v.wc, .slice v.dl h.dn.length v.dlc], .agg #[.slice v.uo h.upF.length v.uc, .slice v.ul h.up.length v.ulc]] W0 fun e w' => ∃ T x, e = .returned (.tuple #[.slice none 0 0, .iface T x]) ∧ Below W0.heap.size W0 w') := search_bad v h s _ _ _ _ _ _ _ _ _ _ _ _ W0 (hH.keep hB0) hb1 hb2 hb3 hr
  clear hr
  clear hW0 h0 hB0 hH
  unfold cellsH at HW0
  unfold hvl at HSE ⊢
  go_enter Try.func27, Try.ntmps27
  go_wp2_with fail
  rw [HW0.out]
  refine HSE.out.mono ?_
  rintro e w1 ⟨T, x, rfl, hb⟩
  have H1 : Hid (Below w.heap.size w w1) := HB0.out.trans (hb.mono HB0.out.size)
  clear hb
  go_wp2
  go_ret2
  exact ⟨T, x, rfl, H1.out⟩

end Go.Proofs.Ytepkogijignmlab.Cb
