/- csr's Check where the lengths are wrong; Graph, Row and Find where Check tells an error; Row at no node. -/
import Derived.Test.YtnkfggccahohpaaDoorCsrLen
import Derived.Test.YtnkfggccahohpaaDoorCsrAbd
namespace Go.Proofs.YtnkfggccahohpaaDoor
open Go.RowKit Go.Extern

attribute [local go_sem] Oper.semAt_some

set_option maxRecDepth 100000 in
set_option maxHeartbeats 2000000 in
theorem check_len (fo uo wo : Option Addr) (fl fc tl tc wl wc : Nat) (w : World) (c : Int) (h : ∀ wx, Below w.heap.size w wx → Calls Tryd.prog 69 #[.agg #[.slice fo fl fc, .slice uo tl tc, .slice wo wl wc]] wx fun e w' => e = .returned (.iface 82 (.int .i64 c)) ∧ Below wx.heap.size wx w') :
    Calls Tryd.prog 44 #[.agg #[.slice fo fl fc, .slice uo tl tc, .slice wo wl wc]] w fun e w' => e = .returned (.iface 82 (.int .i64 c)) ∧ Below w.heap.size w w' := by
  obtain ⟨W0, hW0⟩ : ∃ W0, w.alloc (.cells #[.slice fo fl fc, .slice uo tl tc, .slice wo wl wc] 32) = W0 := ⟨_, rfl⟩
  have HW0 : Hid (w.alloc (.cells #[.slice fo fl fc, .slice uo tl tc, .slice wo wl wc] 32) = W0) := hW0
  have hB0 : Below w.heap.size w W0 := by rw [← hW0]; exact (Below.refl _ w).alloc (Nat.le_refl _) _
  have HL : Hid (type_of% (h W0 hB0)) := h W0 hB0
  have HB0 : Hid (Below w.heap.size w W0) := hB0
  clear h hW0 hB0
  go_enter Tryd.func44, Tryd.ntmps44
  go_wp2_with fail
  rw [HW0.out]
  refine HL.out.mono ?_
  rintro e w1 ⟨rfl, hb1⟩
  have HB1 : Hid (Below w.heap.size w w1) := HB0.out.trans (hb1.mono HB0.out.size)
  clear hb1
  go_wp2
  go_ret
  exact ⟨rfl, HB1.out⟩

end Go.Proofs.YtnkfggccahohpaaDoor
