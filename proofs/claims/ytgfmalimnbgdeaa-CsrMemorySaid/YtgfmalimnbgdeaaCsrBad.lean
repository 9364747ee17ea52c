/- csr's Check where the lengths are wrong; Graph, Row and Find where Check tells an error; Row at no node. -/
import Derived.Test.YtgfmalimnbgdeaaCsrLen
import Derived.Test.YtgfmalimnbgdeaaCsrFv
import Derived.Test.YtgfmalimnbgdeaaCsrRo
import Derived.Test.YtgfmalimnbgdeaaCsrBk
namespace Go.Proofs.Ytgfmalimnbgdeaa
open Go.RowKit Go.Extern

attribute [local go_sem] Oper.semAt_some

set_option maxRecDepth 100000 in
set_option maxHeartbeats 2000000 in
theorem check_len (fo uo wo : Option Addr) (fl fc tl tc wl wc : Nat) (w : World) (c : Int) (h : ∀ wx, Below w.heap.size w wx → Calls Try.prog 34 #[.agg #[.slice fo fl fc, .slice uo tl tc, .slice wo wl wc]] wx fun e w' => e = .returned (.iface 73 (.int .i64 c)) ∧ Below wx.heap.size wx w') :
    Calls Try.prog 11 #[.agg #[.slice fo fl fc, .slice uo tl tc, .slice wo wl wc]] w fun e w' => e = .returned (.iface 73 (.int .i64 c)) ∧ Below w.heap.size w w' := by
  obtain ⟨W0, hW0⟩ : ∃ W0, w.alloc (.cells #[.slice fo fl fc, .slice uo tl tc, .slice wo wl wc] 28) = W0 := ⟨_, rfl⟩
  have HW0 : Hid (w.alloc (.cells #[.slice fo fl fc, .slice uo tl tc, .slice wo wl wc] 28) = W0) := hW0
  have hB0 : Below w.heap.size w W0 := by rw [← hW0]; exact (Below.refl _ w).alloc (Nat.le_refl _) _
  have HL : Hid (type_of% (h W0 hB0)) := h W0 hB0
  have HB0 : Hid (Below w.heap.size w W0) := hB0
  clear h hW0 hB0
  go_enter Try.func11, Try.ntmps11
  go_wp2_with fail
  rw [HW0.out]
  refine HL.out.mono ?_
  rintro e w1 ⟨rfl, hb1⟩
  have HB1 : Hid (Below w.heap.size w w1) := HB0.out.trans (hb1.mono HB0.out.size)
  clear hb1
  go_wp2
  go_ret
  exact ⟨rfl, HB1.out⟩

set_option maxRecDepth 100000 in
set_option maxHeartbeats 2000000 in
theorem checkNodes_bad (fo uo wo : Option Addr) (fl fc tl tc wl wc : Nat) (w : World) (no : Option Addr) (nl nc : Nat) (E : Int × List (Int × Int)) (h : ∀ wx, Below w.heap.size w wx → Calls Try.prog 11 #[.agg #[.slice fo fl fc, .slice uo tl tc, .slice wo wl wc]] wx fun e w' => ∃ T x, e = .returned (.iface T x) ∧ IsTold w' E (.iface T x) ∧ Below wx.heap.size wx w') :
    Calls Try.prog 38 #[.agg #[.slice fo fl fc, .slice uo tl tc, .slice wo wl wc], .slice no nl nc] w fun e w' => ∃ T x, e = .returned (.iface T x) ∧ IsTold w' E (.iface T x) ∧ Below w.heap.size w w' := by
  obtain ⟨W0, hW0⟩ : ∃ W0, w.alloc (.cells #[.slice fo fl fc, .slice uo tl tc, .slice wo wl wc] 28) = W0 := ⟨_, rfl⟩
  have HW0 : Hid (w.alloc (.cells #[.slice fo fl fc, .slice uo tl tc, .slice wo wl wc] 28) = W0) := hW0
  have hB0 : Below w.heap.size w W0 := by rw [← hW0]; exact (Below.refl _ w).alloc (Nat.le_refl _) _
  have HL : Hid (type_of% (h W0 hB0)) := h W0 hB0
  have HB0 : Hid (Below w.heap.size w W0) := hB0
  clear h hW0 hB0
  go_enter Try.func38, Try.ntmps38
  go_wp2_with fail
  rw [HW0.out]
  refine HL.out.mono ?_
  rintro e w1 ⟨T, x, rfl, ht1, hb1⟩
  have HB1 : Hid (IsTold w1 E (.iface T x) ∧ Below w.heap.size w w1) := ⟨ht1, HB0.out.trans (hb1.mono HB0.out.size)⟩
  clear hb1 ht1
  go_wp2
  go_ret
  exact ⟨T, x, rfl, HB1.out⟩

set_option maxRecDepth 100000 in
set_option maxHeartbeats 2000000 in
theorem row_bad (fo uo wo : Option Addr) (fl fc tl tc wl wc : Nat) (w : World) (v : Int) (E : Int × List (Int × Int)) (h : ∀ wx, Below w.heap.size w wx → Calls Try.prog 11 #[.agg #[.slice fo fl fc, .slice uo tl tc, .slice wo wl wc]] wx fun e w' => ∃ T x, e = .returned (.iface T x) ∧ IsTold w' E (.iface T x) ∧ Below wx.heap.size wx w') :
    Calls Try.prog 15 #[.agg #[.slice fo fl fc, .slice uo tl tc, .slice wo wl wc], .int .i64 v] w fun e w' => ∃ T x, e = .returned (.tuple #[.slice none 0 0, .iface T x]) ∧ IsTold w' E (.iface T x) ∧ Below w.heap.size w w' := by
  obtain ⟨W0, hW0⟩ : ∃ W0, (w.alloc (.cells #[.slice fo fl fc, .slice uo tl tc, .slice wo wl wc] 28)).alloc (.cells #[.int .i64 v] 3) = W0 := ⟨_, rfl⟩
  have HW0 : Hid ((w.alloc (.cells #[.slice fo fl fc, .slice uo tl tc, .slice wo wl wc] 28)).alloc (.cells #[.int .i64 v] 3) = W0) := hW0
  have hB0 : Below w.heap.size w W0 := by rw [← hW0]; exact ((Below.refl _ w).alloc (Nat.le_refl _) _).alloc (by simp) _
  have HL : Hid (type_of% (checkNodes_bad fo uo wo fl fc tl tc wl wc W0 (some ⟨w.heap.size + 1, 0, none⟩) 1 1 E (fun wx hx => h wx (hB0.trans (hx.mono hB0.size))))) := checkNodes_bad fo uo wo fl fc tl tc wl wc W0 (some ⟨w.heap.size + 1, 0, none⟩) 1 1 E (fun wx hx => h wx (hB0.trans (hx.mono hB0.size)))
  have HB0 : Hid (Below w.heap.size w W0) := hB0
  clear h hW0 hB0
  go_enter Try.func15, Try.ntmps15
  go_wp2_with fail
  rw [HW0.out]
  refine HL.out.mono ?_
  rintro e w1 ⟨T, x, rfl, ht1, hb1⟩
  have HB1 : Hid (IsTold w1 E (.iface T x) ∧ Below w.heap.size w w1) := ⟨ht1, HB0.out.trans (hb1.mono HB0.out.size)⟩
  clear hb1 ht1
  go_wp2
  go_ret2
  exact ⟨T, x, rfl, HB1.out⟩

set_option maxRecDepth 100000 in
set_option maxHeartbeats 2000000 in
theorem find_bad (fo uo wo : Option Addr) (fl fc tl tc wl wc : Nat) (w : World) (v u : Int) (E : Int × List (Int × Int)) (h : ∀ wx, Below w.heap.size w wx → Calls Try.prog 11 #[.agg #[.slice fo fl fc, .slice uo tl tc, .slice wo wl wc]] wx fun e w' => ∃ T x, e = .returned (.iface T x) ∧ IsTold w' E (.iface T x) ∧ Below wx.heap.size wx w') :
    Calls Try.prog 22 #[.agg #[.slice fo fl fc, .slice uo tl tc, .slice wo wl wc], .int .i64 v, .int .i64 u] w fun e w' => ∃ T x, e = .returned (.tuple #[.int .i64 0, .iface T x]) ∧ IsTold w' E (.iface T x) ∧ Below w.heap.size w w' := by
  obtain ⟨W0, hW0⟩ : ∃ W0, (w.alloc (.cells #[.slice fo fl fc, .slice uo tl tc, .slice wo wl wc] 28)).alloc (.cells #[.int .i64 v, .int .i64 u] 3) = W0 := ⟨_, rfl⟩
  have HW0 : Hid ((w.alloc (.cells #[.slice fo fl fc, .slice uo tl tc, .slice wo wl wc] 28)).alloc (.cells #[.int .i64 v, .int .i64 u] 3) = W0) := hW0
  have hB0 : Below w.heap.size w W0 := by rw [← hW0]; exact ((Below.refl _ w).alloc (Nat.le_refl _) _).alloc (by simp) _
  have HL : Hid (type_of% (checkNodes_bad fo uo wo fl fc tl tc wl wc W0 (some ⟨w.heap.size + 1, 0, none⟩) 2 2 E (fun wx hx => h wx (hB0.trans (hx.mono hB0.size))))) := checkNodes_bad fo uo wo fl fc tl tc wl wc W0 (some ⟨w.heap.size + 1, 0, none⟩) 2 2 E (fun wx hx => h wx (hB0.trans (hx.mono hB0.size)))
  have HB0 : Hid (Below w.heap.size w W0) := hB0
  clear h hW0 hB0
  go_enter Try.func22, Try.ntmps22
  go_wp2_with fail
  rw [HW0.out]
  refine HL.out.mono ?_
  rintro e w1 ⟨T, x, rfl, ht1, hb1⟩
  have HB1 : Hid (IsTold w1 E (.iface T x) ∧ Below w.heap.size w w1) := ⟨ht1, HB0.out.trans (hb1.mono HB0.out.size)⟩
  clear hb1 ht1
  go_wp2
  go_ret2
  exact ⟨T, x, rfl, HB1.out⟩

set_option maxRecDepth 100000 in
set_option maxHeartbeats 2000000 in
theorem graph_bad (fo uo wo : Option Addr) (fl fc tl tc wl wc : Nat) (w : World) (E : Int × List (Int × Int)) (h : ∀ wx, Below w.heap.size w wx → Calls Try.prog 11 #[.agg #[.slice fo fl fc, .slice uo tl tc, .slice wo wl wc]] wx fun e w' => ∃ T x, e = .returned (.iface T x) ∧ IsTold w' E (.iface T x) ∧ Below wx.heap.size wx w') :
    Calls Try.prog 10 #[.agg #[.slice fo fl fc, .slice uo tl tc, .slice wo wl wc]] w fun e w' => ∃ T x, e = .returned (.tuple #[.agg #[.int .i64 0, .slice none 0 0], .iface T x]) ∧ IsTold w' E (.iface T x) ∧ Below w.heap.size w w' := by
  obtain ⟨W0, hW0⟩ : ∃ W0, (w.alloc (.cells #[.slice fo fl fc, .slice uo tl tc, .slice wo wl wc] 28)).alloc (.cells #[.int .i64 0, .slice none 0 0] 24) = W0 := ⟨_, rfl⟩
  have HW0 : Hid ((w.alloc (.cells #[.slice fo fl fc, .slice uo tl tc, .slice wo wl wc] 28)).alloc (.cells #[.int .i64 0, .slice none 0 0] 24) = W0) := hW0
  have hB0 : Below w.heap.size w W0 := by rw [← hW0]; exact ((Below.refl _ w).alloc (Nat.le_refl _) _).alloc (by simp) _
  have k1 : W0.heap[w.heap.size + 1]? = some (.cells #[.int .i64 0, .slice none 0 0] 24) := by
    have h := heap_new (w.alloc (.cells #[.slice fo fl fc, .slice uo tl tc, .slice wo wl wc] 28)) (.cells #[.int .i64 0, .slice none 0 0] 24)
    rw [hW0] at h
    simpa using h
  have HL : Hid (type_of% (h W0 hB0)) := h W0 hB0
  have HB0 : Hid (Below w.heap.size w W0) := hB0
  have HK1 : Hid (type_of% k1) := k1
  clear h hW0 hB0 k1
  go_enter Try.func10, Try.ntmps10
  go_wp2_with fail
  rw [HW0.out]
  refine HL.out.mono ?_
  rintro e w1 ⟨T, x, rfl, ht1, hb1⟩
  have g2 := (hb1.block _ (lt_of_get HK1.out)).trans HK1.out
  have HB1 : Hid (IsTold w1 E (.iface T x) ∧ Below w.heap.size w w1 ∧ w1.heap[w.heap.size + 1]? = some (.cells #[.int .i64 0, .slice none 0 0] 24)) := ⟨ht1, HB0.out.trans (hb1.mono HB0.out.size), g2⟩
  obtain ⟨b0, b1, y0, y1⟩ : w1.cell? ⟨w.heap.size + 1, 0, none⟩ = some (.int .i64 0) ∧ w1.cell? ⟨w.heap.size + 1, 1, none⟩ = some (.slice none 0 0) ∧ w1.frozen? ⟨w.heap.size + 1, 0, none⟩ = false ∧ w1.frozen? ⟨w.heap.size + 1, 1, none⟩ = false := by simp [World.cell?, World.frozen?, g2]
  have hs2 : w.heap.size + 1 < w1.heap.size := lt_of_get g2
  clear hb1 ht1 g2
  go_wp2
  refine bodyPost_ret (v := .tuple #[.agg #[.int .i64 0, .slice none 0 0], .iface T x]) (by simp [results, Try.results10, go_sem, b0, b1]) rfl ⟨T, x, rfl, ?_, ?_⟩
  · exact HB1.out.1.keep (keeps_box HB1.out.2.2 (by decide) (fun g hg => (heap_setCell_other _ _ _ _ hg).trans (heap_setCell_other _ _ _ _ hg)))
  · exact (HB1.out.2.1.setCell (p := ⟨w.heap.size + 1, 0, none⟩) (by simp) _).setCell (p := ⟨w.heap.size + 1, 1, none⟩) (by simp) _

set_option maxRecDepth 100000 in
set_option maxHeartbeats 2000000 in
theorem row_node (n : Nat) (zs : List (Int × Int × Int)) (fo uo wo : Option Addr) (fc tc wc : Nat) (w : World) (hz : Fine n zs) (h : CsrIn w n zs fo uo wo fc tc wc) (v : Int) (hv : ¬ (0 ≤ v ∧ v < (n : Int))) :
    Calls Try.prog 15 #[.agg #[.slice fo (n + 1) fc, .slice uo zs.length tc, .slice wo zs.length wc], .int .i64 v] w fun e w' => e = .returned (.tuple #[.slice none 0 0, .iface 73 (.int .i64 7)]) ∧ Below w.heap.size w w' := by
  obtain ⟨W0, hW0⟩ : ∃ W0, (w.alloc (.cells #[.slice fo (n + 1) fc, .slice uo zs.length tc, .slice wo zs.length wc] 28)).alloc (.cells #[.int .i64 v] 3) = W0 := ⟨_, rfl⟩
  have HW0 : Hid ((w.alloc (.cells #[.slice fo (n + 1) fc, .slice uo zs.length tc, .slice wo zs.length wc] 28)).alloc (.cells #[.int .i64 v] 3) = W0) := hW0
  have hB0 : Below w.heap.size w W0 := by rw [← hW0]; exact ((Below.refl _ w).alloc (Nat.le_refl _) _).alloc (by simp) _
  have k2 : W0.heap[w.heap.size + 1]? = some (.cells #[.int .i64 v] 3) := by
    have h := heap_new (w.alloc (.cells #[.slice fo (n + 1) fc, .slice uo zs.length tc, .slice wo zs.length wc] 28)) (.cells #[.int .i64 v] 3)
    rw [hW0] at h
    simpa using h
  have hV : HasInts W0 (.slice (some ⟨w.heap.size + 1, 0, none⟩) [v].length 1) [v] := by
    refine ⟨_, _, rfl, fun j a hj => ⟨_, 0, rfl, lt_of_get k2, ?_⟩⟩
    rcases j with _ | j
    · cases hj; simp [World.cell?, k2]
    · cases hj
  have HCN : Hid (Calls Try.prog 38 #[.agg #[.slice fo (n + 1) fc, .slice uo zs.length tc, .slice wo zs.length wc], .slice (some ⟨w.heap.size + 1, 0, none⟩) 1 1] W0 fun e w' => e = .returned (numV 7) ∧ Below W0.heap.size W0 w') := checkNodes_good n zs fo uo wo fc tc wc W0 hz (h.keep hB0) _ 1 [v] hV (by simp) 7 (Or.inr ⟨rfl, v, by simp, hv⟩)
  have HB0 : Hid (Below w.heap.size w W0) := hB0
  clear h hW0 hB0 k2 hV hz
  go_enter Try.func15, Try.ntmps15
  go_wp2_with fail
  rw [HW0.out]
  refine HCN.out.mono ?_
  rintro e w1 ⟨rfl, hb1⟩
  rw [show numV 7 = .iface 73 (.int .i64 7) from rfl]
  have HB1 : Hid (Below w.heap.size w w1) := HB0.out.trans (hb1.mono HB0.out.size)
  clear hb1
  go_wp2
  go_ret2
  exact ⟨rfl, HB1.out⟩
end Go.Proofs.Ytgfmalimnbgdeaa
