/- OverlaySides holds: for every graph and every list of calls the law answers true and its arguments read as they did. No condition beside the row's own. -/
import Derived.Test.YtpaamcapopnhoaaOpen
import Derived.Test.YtpaamcapopnhoaaOwJ
import Derived.Test.YtpaamcapopnhoaaOxW
import Derived.SizedLaws
namespace Go.Proofs.Ytpaamcapopnhoaa
open Go.ChangeShapes Go.WideShapes Go.ChangeAt Go.RowKit Go.Deep Go.Extern

attribute [local go_sem] Oper.semAt_some

set_option maxRecDepth 100000 in
set_option maxHeartbeats 4000000 in
theorem sides_far (N : Int) (ao : Option Addr) (cap : Nat) (xs : List (Int × Int × Int)) (w : World) (hX : HasArcs w (.slice ao xs.length cap) xs) (hxl : xs.length ≤ maxLen) (oo : Option Addr) (oc lm : Nat) (hfar : fewB N xs 30 = false ∨ 300 < lm) :
    Calls Try.prog 3 #[.agg #[.int .i64 N, .slice ao xs.length cap], .slice oo lm oc] w fun e w' => e = .returned (.bool true) ∧ Below w.heap.size w w' := by
  obtain ⟨W0, hW0⟩ : ∃ W0, w.alloc (.cells #[.int .i64 N, .slice ao xs.length cap] 24) = W0 := ⟨_, rfl⟩
  have HW0 : Hid (w.alloc (.cells #[.int .i64 N, .slice ao xs.length cap] 24) = W0) := hW0
  have hB0 : Below w.heap.size w W0 := by rw [← hW0]; exact (Below.refl _ w).alloc (Nat.le_refl _) _
  have hbx : W0.heap[w.heap.size]? = some (.cells #[.int .i64 N, .slice ao xs.length cap] 24) := by rw [← hW0]; exact heap_new _ _
  have HG : Hid (∀ wx, Below W0.heap.size W0 wx → (wx.cell? ⟨w.heap.size, 0, none⟩ = some (.int .i64 N) ∧ wx.cell? ⟨w.heap.size, 1, none⟩ = some (.slice ao xs.length cap) ∧ w.heap.size < wx.heap.size) ∧ HasArcs wx (.slice ao xs.length cap) xs ∧ Below w.heap.size w wx) := fun wx hwx => by
    have hgg := (hwx.block _ (lt_of_get hbx)).trans hbx
    have hb := hB0.trans (hwx.mono hB0.size)
    exact ⟨⟨(cell_two hgg).1, (cell_two hgg).2.1, lt_of_get hgg⟩, hX.keep hb, hb⟩
  have HAW : Hid (type_of% (awake11_calls W0)) := awake11_calls W0
  have HFW : Hid (∀ wx, Below W0.heap.size W0 wx → Calls Try.prog 7 #[.agg #[.int .i64 N, .slice ao xs.length cap], .int .i64 30] wx fun e w' => e = .returned (.bool (fewB N xs 30)) ∧ Below wx.heap.size wx w') := fun wx hwx => few_calls N ao cap xs 30 wx (HG.out wx hwx).2.1 hxl
  have HF : Hid (fewB N xs 30 = false ∨ 300 < lm) := hfar
  generalize fewB N xs 30 = fb at *
  clear hW0 hB0 hbx hX hfar
  go_enter Try.func3, Try.ntmps3
  go_wp2_with fail
  rw [HW0.out]
  refine HAW.out.mono ?_
  rintro e w1 ⟨rfl, hb1⟩
  have HB1 : Hid (Below W0.heap.size W0 w1) := hb1
  obtain ⟨⟨g0, g1, gs⟩, _⟩ := HG.out w1 hb1
  clear hb1
  go_wp2_with fail
  refine (HFW.out w1 HB1.out).mono ?_
  rintro e w2 ⟨rfl, hb2⟩
  have HBZ : Hid (Below w.heap.size w w2) := (HG.out w2 (HB1.out.trans (hb2.mono HB1.out.size))).2.2
  clear hb2 g0 g1 gs
  cases fb with
  | false =>
    go_wp2
    go_ret
    exact ⟨rfl, HBZ.out⟩
  | true =>
    have h60 : 300 < lm := HF.out.resolve_left (by simp)
    have h61 : (300 : Int) < (lm : Int) := by omega
    have h62 : decide ((300 : Int) < (lm : Int)) = true := decide_eq_true h61
    have h63 : decide (300 < lm) = true := decide_eq_true h60
    go_wp2
    go_ret
    exact ⟨rfl, HBZ.out⟩
/-- the law, whatever the graph and the calls. -/
theorem sides_calls (N : Int) (ao : Option Addr) (cap : Nat) (xs : List (Int × Int × Int)) (oo : Option Addr) (oc : Nat) (ops : List Op5) (w : World) (hX : HasArcs w (.slice ao xs.length cap) xs) (hxl : xs.length ≤ maxLen) (hO : HasOp5 w (.slice oo ops.length oc) ops) :
    Calls Try.prog 3 #[.agg #[.int .i64 N, .slice ao xs.length cap], .slice oo ops.length oc] w fun e w' => e = .returned (.bool true) ∧ Below w.heap.size w w' := by
  by_cases hfar : fewB N xs 30 = false ∨ 300 < ops.length
  · exact sides_far N ao cap xs w hX hxl oo oc ops.length hfar
  · obtain ⟨h1, h2⟩ := not_or.1 hfar
    have hb : fewB N xs 30 = true := by simpa using h1
    obtain ⟨hg, hN, _⟩ := of_decide_eq_true hb
    have hN0 := ((good_iff _ _).1 hg).1
    obtain ⟨n, rfl⟩ : ∃ n : Nat, N = (n : Int) := ⟨N.toNat, by omega⟩
    exact sides_good n ao cap xs w hX hxl hb hg oo oc ops hO (by omega)

set_option maxRecDepth 100000 in
theorem sides_lifted (os : Os) (started : os.Started) (H : Type) (enc : TypeId × Value → H) :
    ReturnsInHanded {} Try.checked os 3 .any (Rows.overlaySidesSpec.pre6 enc Try.prog Try.f3 Rows.overlaySidesRow.domain false) (Rows.overlaySidesSpec.post enc Try.prog Try.f3 false true false false) := by
  refine returnsInHanded_of_change_sized (C := Try.checked) Try.own started (by kernel_rfl) Try.func3
    (ChangeSpec.witness6 (enc := enc) (C := Try.checked) false ⟨#[], #[.agg #[.int .i64 0, .slice none 0 0], .slice none 0 0], []⟩ 8 (by kernel_rfl) (by kernel_rfl) (by kernel_rfl) (by kernel_rfl)) ?_
  intro W base args ds gs before hval0 hW _ hsz0 _
  have hval : ∀ (j : Nat) t v, Try.f3.params[j]? = some t → args[j]? = some v → Value.okWide Try.prog W .any base t v := hval0
  have hW' := hW
  obtain ⟨p, q, hA0, hV, rfl, hfz, hnd⟩ := hW
  have hA : DataW.TrodAll enc Try.prog W 0 (fun _ => true) true Try.f3.params.toList args.toList ds p := hA0
  rw [Try.params3] at hA hval
  obtain ⟨v0, vs0, d0, ds0, p0, q0, hargs, rfl, rfl, hr0, r0⟩ := trodAll_cons hA
  obtain ⟨v1, vs1, d1, ds1, p1, q1, rfl, rfl, rfl, hr1, r1⟩ := trodAll_cons r0
  obtain ⟨rfl, rfl, rfl⟩ := trodAll_nil r1
  obtain rfl : args = #[v0, v1] := by cases args; simp at hargs; simp [hargs]
  obtain ⟨rfl, rfl⟩ := trodVars_none hV
  obtain ⟨N, bo, cap, xs, rfl, hX, hxl⟩ := graph_open (hval 0 24 v0 rfl rfl) hr0
  obtain ⟨ao, ac, ops, rfl, hO⟩ := ops5_open (hval 1 25 v1 rfl rfl) hr1
  refine (sides_calls N bo cap xs ao ac ops W hX hxl hO).mono fun e W' ⟨he, hw⟩ => ?_
  subst he
  exact ⟨_, rfl, post_of_law hW' rfl (by kernel_rfl) rfl (by rw [Try.params3]; intro t ht; simp at ht; rcases ht with rfl | rfl <;> exact ⟨by kernel_rfl, of_decide_eq_true (by kernel_rfl)⟩) hw⟩

theorem sides_holds : Rows.OverlaySidesSaid :=
  OpenClaim.holds_of_wide 3 Try.f3 rfl rfl rfl rfl rfl rfl rfl ⟨rfl, rfl, rfl, rfl, rfl⟩ rfl rfl rfl rfl rfl (by kernel_rfl) Try.func3 (by kernel_rfl)
    (of_decide_eq_true (by kernel_rfl)) (by unfold Func.isWrapper; rw [if_neg (of_decide_eq_false (by kernel_rfl))]; exact ⟨rfl, rfl⟩)
    (fun os started H enc _ => sides_lifted os started H enc)
#print axioms sides_holds
end Go.Proofs.Ytpaamcapopnhoaa
