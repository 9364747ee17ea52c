/- ShortsDistances, where the graph is wrong or large, or the list long; the law, whatever it is handed. -/
import Derived.Test.YtbkclhaonbjobaaGreatSd7
namespace Go.Proofs.YtbkclhaonbjobaaGreat.Wt
open Go Go.RowKit Go.Extern

attribute [local go_sem] Oper.semAt_some

set_option maxRecDepth 100000 in
set_option maxHeartbeats 8000000 in
theorem sdist_no (N : Int) (ao : Option Addr) (cap : Nat) (xs : List (Int × Int × Int)) (w : World) (hX : HasArcs w (.slice ao xs.length cap) xs) (hxl : xs.length ≤ maxLen) (io : Option Addr) (ic lm : Nat) (hfar : fewB N xs 12 = false ∨ 40 < lm) (o0 o1 o2 o3 o4 : Int) :
    Calls Tryz.prog 3 #[.agg #[.int .i64 N, .slice ao xs.length cap], .slice io lm ic, .agg #[.int .i64 o0, .int .i64 o1, .int .i64 o2, .int .i64 o3, .int .i64 o4]] w fun e w' => e = .returned (.bool true) ∧ Below w.heap.size w w' := by
  obtain ⟨W0, hW0⟩ : ∃ W0, (w.alloc (.cells #[.int .i64 N, .slice ao xs.length cap] 24)).alloc (optObj o0 o1 o2 o3 o4) = W0 := ⟨_, rfl⟩
  obtain ⟨hbx, _, hB0⟩ := two_new w (.cells #[.int .i64 N, .slice ao xs.length cap] 24) (optObj o0 o1 o2 o3 o4)
  rw [hW0] at hbx hB0
  have HW0 : Hid ((w.alloc (.cells #[.int .i64 N, .slice ao xs.length cap] 24)).alloc (.cells #[.int .i64 o0, .int .i64 o1, .int .i64 o2, .int .i64 o3, .int .i64 o4] 27) = W0) := hW0
  have HG : Hid (∀ wx, Below W0.heap.size W0 wx → (wx.cell? ⟨w.heap.size, 0, none⟩ = some (.int .i64 N) ∧ wx.cell? ⟨w.heap.size, 1, none⟩ = some (.slice ao xs.length cap) ∧ w.heap.size < wx.heap.size) ∧ Below w.heap.size w wx) := fun wx hwx => by
    have hgg := (hwx.block _ (lt_of_get hbx)).trans hbx
    exact ⟨⟨(cell_two hgg).1, (cell_two hgg).2.1, lt_of_get hgg⟩, hB0.trans (hwx.mono hB0.size)⟩
  have HFW : Hid (∀ wx (hwx : Below W0.heap.size W0 wx), type_of% (few_calls N ao cap xs 12 wx (hX.keep (HG.out wx hwx).2) hxl)) := fun wx hwx => few_calls N ao cap xs 12 wx (hX.keep (HG.out wx hwx).2) hxl
  have HF : Hid (fewB N xs 12 = false ∨ 40 < lm) := hfar
  have HAW : Hid (type_of% (awake13_calls W0)) := awake13_calls W0
  generalize fewB N xs 12 = fb at *
  clear hW0 hB0 hbx hX hfar
  go_enter Tryz.func3, Tryz.ntmps3
  go_wp2_with fail
  rw [HW0.out]
  refine HAW.out.mono ?_
  rintro e w1 ⟨rfl, hb1⟩
  have HB1 : Hid (Below W0.heap.size W0 w1) := hb1
  clear hb1 HAW
  obtain ⟨⟨g0, g1, gs⟩, _⟩ := HG.out w1 HB1.out
  go_wp2_with fail
  refine (HFW.out w1 HB1.out).mono ?_
  rintro e w2 ⟨rfl, hb2⟩
  have HZ : Hid (Below w.heap.size w w2) := (HG.out _ (btr HB1.out hb2)).2
  clear hb2 g0 g1 gs HFW
  cases fb with
  | false =>
    go_wp2
    go_ret
    exact ⟨rfl, HZ.out⟩
  | true =>
    have h60 : 40 < lm := HF.out.resolve_left (by simp)
    have h61 : (40 : Int) < (lm : Int) := by omega
    have h62 : decide ((40 : Int) < (lm : Int)) = true := decide_eq_true h61
    have h63 : decide (40 < lm) = true := decide_eq_true h60
    go_wp2
    go_ret
    exact ⟨rfl, HZ.out⟩
/-- the law, whatever it is handed. -/
theorem dist13_calls (N : Int) (ao : Option Addr) (cap : Nat) (xs : List (Int × Int × Int)) (w : World) (hX : HasArcs w (.slice ao xs.length cap) xs) (hxl : xs.length ≤ maxLen) (io : Option Addr) (ic : Nat) (ls : List Int) (hls : HasInts w (.slice io ls.length ic) ls) (o0 o1 o2 o3 o4 : Int) :
    Calls Tryz.prog 3 #[.agg #[.int .i64 N, .slice ao xs.length cap], .slice io ls.length ic, .agg #[.int .i64 o0, .int .i64 o1, .int .i64 o2, .int .i64 o3, .int .i64 o4]] w fun e w' => e = .returned (.bool true) ∧ Below w.heap.size w w' := by
  by_cases hfar : fewB N xs 12 = false ∨ 40 < ls.length
  · exact sdist_no N ao cap xs w hX hxl io ic ls.length hfar o0 o1 o2 o3 o4
  · obtain ⟨h1, h2⟩ := not_or.1 hfar
    have hb : fewB N xs 12 = true := by simpa using h1
    obtain ⟨hg, hN, _⟩ := of_decide_eq_true hb
    have hN0 := ((good_iff _ _).1 hg).1
    obtain ⟨n, rfl⟩ : ∃ n : Nat, N = (n : Int) := ⟨N.toNat, by omega⟩
    exact sdist_yes n ao cap xs w hX hxl hb hg io ic ls hls (by omega) o0 o1 o2 o3 o4
end Go.Proofs.YtbkclhaonbjobaaGreat.Wt
