/- ShortsBounds, where laid says no; the law, whatever it is handed. -/
import Derived.Test.YtbkclhaonbjobaaGreatSh11
namespace Go.Proofs.YtbkclhaonbjobaaGreat.Wt
open Go Go.RowKit Go.Extern

attribute [local go_sem] Oper.semAt_some

set_option maxRecDepth 100000 in
set_option maxHeartbeats 8000000 in
theorem bounds_no (N : Int) (ao : Option Addr) (cap : Nat) (xs : List (Int × Int × Int)) (w : World) (hX : HasArcs w (.slice ao xs.length cap) xs) (hxl : xs.length ≤ maxLen) (oo : Option Addr) (oc lm : Nat) (hfar : fewB N xs 12 = false ∨ 60 < lm) (v o0 o1 o2 o3 o4 : Int) :
    Calls Tryz.prog 4 #[.agg #[.int .i64 N, .slice ao xs.length cap], .slice oo lm oc, .int .i64 v, .agg #[.int .i64 o0, .int .i64 o1, .int .i64 o2, .int .i64 o3, .int .i64 o4]] w fun e w' => e = .returned (.bool true) ∧ Below w.heap.size w w' := by
  obtain ⟨W0, hW0⟩ : ∃ W0, (w.alloc (.cells #[.int .i64 N, .slice ao xs.length cap] 24)).alloc (optObj o0 o1 o2 o3 o4) = W0 := ⟨_, rfl⟩
  obtain ⟨hbx, _, hB0⟩ := two_new w (.cells #[.int .i64 N, .slice ao xs.length cap] 24) (optObj o0 o1 o2 o3 o4)
  rw [hW0] at hbx hB0
  have HW0 : Hid ((w.alloc (.cells #[.int .i64 N, .slice ao xs.length cap] 24)).alloc (.cells #[.int .i64 o0, .int .i64 o1, .int .i64 o2, .int .i64 o3, .int .i64 o4] 27) = W0) := hW0
  have HG : Hid (∀ wx, Below W0.heap.size W0 wx → (wx.cell? ⟨w.heap.size, 0, none⟩ = some (.int .i64 N) ∧ wx.cell? ⟨w.heap.size, 1, none⟩ = some (.slice ao xs.length cap) ∧ w.heap.size < wx.heap.size) ∧ Below w.heap.size w wx) := fun wx hwx => by
    have hgg := (hwx.block _ (lt_of_get hbx)).trans hbx
    exact ⟨⟨(cell_two hgg).1, (cell_two hgg).2.1, lt_of_get hgg⟩, hB0.trans (hwx.mono hB0.size)⟩
  have HLA : Hid (∀ wx (hwx : Below W0.heap.size W0 wx), type_of% (laid_no N ao cap xs wx (hX.keep (HG.out wx hwx).2) hxl oo oc lm hfar)) := fun wx hwx => laid_no N ao cap xs wx (hX.keep (HG.out wx hwx).2) hxl oo oc lm hfar
  have HAW : Hid (type_of% (awake13_calls W0)) := awake13_calls W0
  clear hW0 hB0 hbx hX hfar
  go_enter Tryz.func4, Tryz.ntmps4
  go_wp2_with fail
  rw [HW0.out]
  refine HAW.out.mono ?_
  rintro e w1 ⟨rfl, hb1⟩
  have HB1 : Hid (Below W0.heap.size W0 w1) := hb1
  clear hb1 HAW
  obtain ⟨⟨g0, g1, gs⟩, _⟩ := HG.out w1 HB1.out
  go_wp2_with fail
  refine (HLA.out w1 HB1.out).mono ?_
  rintro e w2 ⟨rfl, hb2⟩
  have HZ : Hid (Below w.heap.size w (w2.alloc (.cells #[.slice none 0 0, .slice none 0 0] 44))) := (HG.out _ (btr HB1.out (btr hb2 (bel_one _ _)))).2
  clear hb2 g0 g1 gs
  go_wp2
  go_ret
  exact ⟨rfl, HZ.out⟩
/-- the law, whatever it is handed. -/
theorem bounds13_calls (N : Int) (ao : Option Addr) (cap : Nat) (xs : List (Int × Int × Int)) (w : World) (hX : HasArcs w (.slice ao xs.length cap) xs) (hxl : xs.length ≤ maxLen) (oo : Option Addr) (oc : Nat) (ops : List Op5) (hO : HasOp5 w (.slice oo ops.length oc) ops) (hwt : ∀ q ∈ ops, 0 ≤ q.2.2.2.1) (v o0 o1 o2 o3 o4 : Int) :
    Calls Tryz.prog 4 #[.agg #[.int .i64 N, .slice ao xs.length cap], .slice oo ops.length oc, .int .i64 v, .agg #[.int .i64 o0, .int .i64 o1, .int .i64 o2, .int .i64 o3, .int .i64 o4]] w fun e w' => e = .returned (.bool true) ∧ Below w.heap.size w w' := by
  by_cases hfar : fewB N xs 12 = false ∨ 60 < ops.length
  · exact bounds_no N ao cap xs w hX hxl oo oc ops.length hfar v o0 o1 o2 o3 o4
  · obtain ⟨h1, h2⟩ := not_or.1 hfar
    have hb : fewB N xs 12 = true := by simpa using h1
    obtain ⟨hg, hN, _⟩ := of_decide_eq_true hb
    have hN0 := ((good_iff _ _).1 hg).1
    obtain ⟨n, rfl⟩ : ∃ n : Nat, N = (n : Int) := ⟨N.toNat, by omega⟩
    exact bounds_yes n ao cap xs w hX hxl hb hg oo oc ops hO (by omega) hwt v o0 o1 o2 o3 o4
end Go.Proofs.YtbkclhaonbjobaaGreat.Wt
