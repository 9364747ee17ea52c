/- WitnessTrue, where laid says no; the law, whatever it is handed. -/
import Derived.Test.YtcfpkbmeblfhoaaGreatWz5
namespace Go.Proofs.YtcfpkbmeblfhoaaGreat.Wt
open Go Go.RowKit Go.Extern

attribute [local go_sem] Oper.semAt_some

set_option maxRecDepth 100000 in
set_option maxHeartbeats 8000000 in
theorem true_no (N : Int) (ao : Option Addr) (cap : Nat) (xs : List (Int × Int × Int)) (w : World) (hX : HasArcs w (.slice ao xs.length cap) xs) (hxl : xs.length ≤ maxLen) (oo : Option Addr) (oc lm : Nat) (hfar : fewB N xs 12 = false ∨ 60 < lm) (u skip mo hops se : Int) :
    Calls Tryz.prog 3 #[.agg #[.int .i64 N, .slice ao xs.length cap], .slice oo lm oc, .int .i64 u, .int .i64 skip, .int .u64 mo, .int .i64 hops, .int .i64 se] w fun e w' => e = .returned (.bool true) ∧ Below w.heap.size w w' := by
  obtain ⟨W0, hW0⟩ : ∃ W0, w.alloc (.cells #[.int .i64 N, .slice ao xs.length cap] 24) = W0 := ⟨_, rfl⟩
  have HW0 : Hid (w.alloc (.cells #[.int .i64 N, .slice ao xs.length cap] 24) = W0) := hW0
  have hB0 : Below w.heap.size w W0 := by rw [← hW0]; exact bel_one _ _
  have hbx : W0.heap[w.heap.size]? = some (.cells #[.int .i64 N, .slice ao xs.length cap] 24) := by rw [← hW0]; exact heap_new _ _
  have HG : Hid (∀ wx, Below W0.heap.size W0 wx → (wx.cell? ⟨w.heap.size, 0, none⟩ = some (.int .i64 N) ∧ wx.cell? ⟨w.heap.size, 1, none⟩ = some (.slice ao xs.length cap) ∧ w.heap.size < wx.heap.size) ∧ Below w.heap.size w wx) := fun wx hwx => by
    have hgg := (hwx.block _ (lt_of_get hbx)).trans hbx
    exact ⟨⟨(cell_two hgg).1, (cell_two hgg).2.1, lt_of_get hgg⟩, hB0.trans (hwx.mono hB0.size)⟩
  have HLA : Hid (∀ wx (hwx : Below W0.heap.size W0 wx), type_of% (laid_no N ao cap xs wx (hX.keep (HG.out wx hwx).2) hxl oo oc lm hfar)) := fun wx hwx => laid_no N ao cap xs wx (hX.keep (HG.out wx hwx).2) hxl oo oc lm hfar
  have HAW : Hid (type_of% (awake12_calls W0)) := awake12_calls W0
  clear hW0 hB0 hbx hX hfar
  go_enter Tryz.func3, Tryz.ntmps3
  go_wp2_with fail
  rw [HW0.out]
  refine HAW.out.mono ?_
  rintro e w1 ⟨rfl, hb1⟩
  have HB1 : Hid (Below W0.heap.size W0 w1) := hb1
  clear hb1 HAW
  obtain ⟨⟨g0, g1, gs⟩, _⟩ := HG.out w1 HB1.out
  go_wp2_with fail
  refine (HLA.out w1 HB1.out).mono ?_
  rintro e w2 ⟨rfl, hb2⟩
  have HZ : Hid (Below w.heap.size w (w2.alloc (.cells #[.slice none 0 0, .slice none 0 0] 32))) := (HG.out _ (btr HB1.out (btr hb2 (bel_one _ _)))).2
  clear hb2 g0 g1 gs
  go_wp2
  go_ret
  exact ⟨rfl, HZ.out⟩
/-- the law, whatever it is handed. -/
theorem true_calls (N : Int) (ao : Option Addr) (cap : Nat) (xs : List (Int × Int × Int)) (w : World) (hX : HasArcs w (.slice ao xs.length cap) xs) (hxl : xs.length ≤ maxLen) (oo : Option Addr) (oc : Nat) (ops : List Op5) (hO : HasOp5 w (.slice oo ops.length oc) ops) (hwt : ∀ q ∈ ops, 0 ≤ q.2.2.2.1) (u skip mo hops se : Int) :
    Calls Tryz.prog 3 #[.agg #[.int .i64 N, .slice ao xs.length cap], .slice oo ops.length oc, .int .i64 u, .int .i64 skip, .int .u64 mo, .int .i64 hops, .int .i64 se] w fun e w' => e = .returned (.bool true) ∧ Below w.heap.size w w' := by
  by_cases hfar : fewB N xs 12 = false ∨ 60 < ops.length
  · exact true_no N ao cap xs w hX hxl oo oc ops.length hfar u skip mo hops se
  · obtain ⟨h1, h2⟩ := not_or.1 hfar
    have hb : fewB N xs 12 = true := by simpa using h1
    obtain ⟨hg, hN, _⟩ := of_decide_eq_true hb
    have hN0 := ((good_iff _ _).1 hg).1
    obtain ⟨n, rfl⟩ : ∃ n : Nat, N = (n : Int) := ⟨N.toNat, by omega⟩
    exact true_yes n ao cap xs w hX hxl hb hg oo oc ops hO (by omega) hwt u skip mo hops se
end Go.Proofs.YtcfpkbmeblfhoaaGreat.Wt
