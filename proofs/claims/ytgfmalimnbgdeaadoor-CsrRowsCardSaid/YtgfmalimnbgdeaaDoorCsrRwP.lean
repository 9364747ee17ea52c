/- CsrRows holds: for every graph the law answers true and its argument reads as it did, the listed variable tied to the program's text. No condition beside the row's own. -/
import Derived.Test.YtgfmalimnbgdeaaDoorOpen
import Derived.Test.YtgfmalimnbgdeaaDoorCsrRw
import Derived.Test.YtgfmalimnbgdeaaDoorTie
import Derived.Test.YtgfmalimnbgdeaaDoorCards
import Derived.SevenTiedAt
namespace Go.Proofs.YtgfmalimnbgdeaaDoor
open Go Go.ChangeShapes Go.WideShapes Go.RowKit

attribute [local go_sem] Oper.semAt_some
set_option maxRecDepth 100000 in
set_option maxHeartbeats 4000000 in
theorem rows_no (N : Int) (ao : Option Addr) (cap : Nat) (xs : List (Int × Int × Int)) (w : World) (hl : HasArcs w (.slice ao xs.length cap) xs) (hm : xs.length ≤ maxLen) (hno : fewB N xs 40 = false) : Calls Tryd.prog 5 #[.agg #[.int .i64 N, .slice ao xs.length cap]] w fun e w' => e = .returned (.bool true) ∧ Below w.heap.size w w' := by
  have HFW : Hid (∀ wx, HasArcs wx (.slice ao xs.length cap) xs → Calls Tryd.prog 27 #[.agg #[.int .i64 N, .slice ao xs.length cap], .int .i64 40] wx fun e w' => e = .returned (.bool false) ∧ Below wx.heap.size wx w') := fun wx h => by
    have := few_calls N ao cap xs 40 wx h hm
    rw [hno] at this
    exact this
  have HL : Hid (HasArcs w (.slice ao xs.length cap) xs) := hl
  clear hl hno
  go_enter Tryd.func5, Tryd.ntmps5
  go_wp2_with fail
  have HN0 : Hid ((w.alloc (.cells #[.int .i64 N, .slice ao xs.length cap] 24)).heap[w.heap.size]? = some (.cells #[.int .i64 N, .slice ao xs.length cap] 24)) := heap_new _ _
  have HB0 : Hid (Below w.heap.size w (w.alloc (.cells #[.int .i64 N, .slice ao xs.length cap] 24))) := below_newR w _
  generalize w.alloc (.cells #[.int .i64 N, .slice ao xs.length cap] 24) = W0 at *
  refine (awake_calls W0).mono ?_
  rintro e w1 ⟨rfl, h⟩
  have R1 : Hid (w1.heap[w.heap.size]? = some (.cells #[.int .i64 N, .slice ao xs.length cap] 24) ∧ Below w.heap.size w w1) := ⟨(h.block _ (lt_of_get HN0.out)).trans HN0.out, HB0.out.trans (h.mono HB0.out.size)⟩
  clear h
  obtain ⟨g0, g1, _, _⟩ := cell_two R1.out.1
  have gs := lt_of_get R1.out.1
  go_wp2_with fail
  refine (HFW.out w1 (HL.out.keep R1.out.2)).mono ?_
  rintro e w2 ⟨rfl, h⟩
  have R2 : Hid (Below w.heap.size w w2) := R1.out.2.trans (h.mono R1.out.2.size)
  clear h
  go_wp2
  go_ret
  exact ⟨rfl, R2.out⟩
theorem rows_calls (N : Int) (ao : Option Addr) (cap : Nat) (xs : List (Int × Int × Int)) (w : World) (hl : HasArcs w (.slice ao xs.length cap) xs) (hm : xs.length ≤ maxLen) (hty : HasType w) : Calls Tryd.prog 5 #[.agg #[.int .i64 N, .slice ao xs.length cap]] w fun e w' => e = .returned (.bool true) ∧ Below w.heap.size w w' := by
  by_cases h : graphErr N xs = (0, []) ∧ N ≤ 40 ∧ xs.length ≤ 2000
  · obtain ⟨n, rfl⟩ := good_nat h.1
    exact rows_good n ao cap xs w hl h.1 (by have := h.2.1; omega) h.2.2 hty
  · exact rows_no N ao cap xs w hl hm (decide_eq_false h)

set_option maxRecDepth 100000 in
theorem rows_lifted (os : Os) (started : os.Started) (H : Type) (enc : TypeId × Value → H) :
    ReturnsInHanded {} Tryd.checked os 5 .any (fun w args => (Rows.csrRowsSpec.pre enc Tryd.prog Tryd.f5 [] false w args ∧ laidMetH Tryd.prog laidAll w) ∧ sizedMet enc Tryd.prog Tryd.f5 (OpenSpec.ofChange Rows.csrRowsSpec) false w args)
      (Rows.csrRowsSpec.post enc Tryd.prog Tryd.f5 false true false false) := by
  refine returnsInHanded_of_change_and (C := Tryd.checked) (X := fun w _ => laidMetH Tryd.prog laidAll w) (fun _ _ _ hh h => h.of_heap hh) Tryd.own started (by kernel_rfl) Tryd.func5
    (ChangeSpec.witness_at (enc := enc) (C := Tryd.checked) (os := os) (X := fun w _ => laidMetH Tryd.prog laidAll w) false (laidHeap (World.holding Tryd.prog os ⟨#[], #[], []⟩)) #[.agg #[.int .i64 0, .slice none 0 0]] 8 rfl (by kernel_rfl) (by kernel_rfl) (by kernel_rfl) (by kernel_rfl) (by kernel_rfl) (laidHeap_met os _)) ?_
  intro W base args ds gs before hval0 hW _ _ hL _
  have hval : ∀ (j : Nat) t v, Tryd.f5.params[j]? = some t → args[j]? = some v → Value.okWide Tryd.prog W .any base t v := hval0
  have hW' := hW
  obtain ⟨p, q, hA0, hV0, rfl, hfz, hnd⟩ := hW
  have hA : DataW.TrodAll enc Tryd.prog W 0 (fun _ => true) true Tryd.f5.params.toList args.toList ds p := hA0
  have hV : DataW.TrodVars enc Tryd.prog W (fun _ => true) [] gs q := hV0
  rw [Tryd.params5] at hA hval
  obtain ⟨v0, vs0, d0, ds0, p0, q0, hargs, rfl, rfl, hr0, r0⟩ := trodAll_cons hA
  obtain ⟨rfl, rfl, rfl⟩ := trodAll_nil r0
  obtain rfl : args = #[v0] := by cases args; simp at hargs; simp [hargs]
  obtain ⟨rfl, rfl⟩ : gs = [] ∧ q = [] := by
    cases gs with
    | nil => exact ⟨rfl, hV⟩
    | cons g r => exact absurd hV (by intro h; cases h)
  obtain ⟨N, ao, ac, xs, rfl, hps, hm⟩ := graph_open (hval 0 24 v0 rfl rfl) hr0
  refine (rows_calls N ao ac xs W hps hm (hasType_of_laid hL)).mono fun e W' ⟨he, hw⟩ => ?_
  subst he
  exact ⟨_, rfl, post_of_law hW' rfl (by kernel_rfl) rfl (by rw [Tryd.params5]; intro t ht; simp at ht; rcases ht with rfl; exact ⟨by kernel_rfl, of_decide_eq_true (by kernel_rfl)⟩) hw⟩

theorem rows_row : Rows.CsrRowsSaid :=
  OpenClaim.holds_of_wide 5 Tryd.f5 rfl rfl rfl rfl rfl rfl rfl ⟨rfl, rfl, rfl, rfl, rfl⟩ rfl rfl rfl rfl rfl (by kernel_rfl) Tryd.func5 (by kernel_rfl)
    (of_decide_eq_true (by kernel_rfl)) (by unfold Func.isWrapper; rw [if_neg (of_decide_eq_false (by kernel_rfl))]; exact ⟨rfl, rfl⟩)
    (fun os started H enc _ => rows_lifted os started H enc)

theorem rows_card : Rows.CsrRowsCardSaid :=
  Claim7.holds_tied_plain_at .later [] [.handle] true (true, "203c04ad53ac8cdde1858ed638baef04a5bee417623f40d12345606139cca73e") true
    rows_row (fun _ h => by cases h) (by kernel_rfl) (fun _ h => by cases h) csrRows_row_tie rfl ⟨rfl, rfl⟩ (by kernel_rfl) rfl
    (fun f fn hf hfn => by
      obtain rfl : f = 5 := Option.some.inj ((show Tryd.prog.funcNamed "viaduct/viaductlaw05.CsrRows" = some 5 by kernel_rfl).symm.trans hf) |>.symm
      obtain rfl : fn = Tryd.f5 := (Option.some.inj (Tryd.func5.symm.trans hfn)).symm
      exact ⟨by kernel_rfl, fun j t ht => by
        rw [Tryd.params5] at ht
        rcases j with _ | j
        · obtain rfl : 24 = t := by simpa using ht
          exact (show Tryd.prog.wantsStandIn 24 = false by kernel_rfl)
        · simp at ht⟩)
    (by kernel_rfl)
#print axioms rows_card
end Go.Proofs.YtgfmalimnbgdeaaDoor
