/- HeapTwo holds: for every number and every two lists of calls the law answers true and its arguments read as they did, the listed variable tied to the program's text. No condition beside the row's own. -/
import Derived.Test.YtkeniogcjhmikaaDoorOpen
import Derived.Test.YtkeniogcjhmikaaDoorTwo
import Derived.Test.YtkeniogcjhmikaaDoorTie
import Derived.Test.YtkeniogcjhmikaaDoorCards
import Derived.SevenTiedAt
namespace Go.Proofs.YtkeniogcjhmikaaDoor
open Go Go.ChangeShapes Go.WideShapes Go.RowKit

theorem two_every (n : Int) (so to_ : Option Addr) (sc tc : Nat) (L L2 : List (Int × Nat × Int)) (w : World) (hg : HasType w) (ho : HasOps w (.slice so L.length sc) L) (ho2 : HasOps w (.slice to_ L2.length tc) L2) (hm : L.length ≤ maxLen) (hm2 : L2.length ≤ maxLen) : Calls Tryd.prog 4 #[.int .i64 n, .slice so L.length sc, .slice to_ L2.length tc] w fun e w' => e = .returned (.bool true) ∧ Below w.heap.size w w' := by
  by_cases hb : n < 0 ∨ 200 < n
  · exact two_far n hb _ _ w
  · obtain ⟨k, rfl⟩ : ∃ k : Nat, n = k := ⟨n.toNat, by omega⟩
    exact two_calls k (by omega) so to_ L.length sc L2.length tc L L2 w hg rfl rfl hm hm2 ho ho2

set_option maxRecDepth 100000 in
theorem two_lifted (os : Os) (started : os.Started) (H : Type) (enc : TypeId × Value → H) :
    ReturnsInHanded {} Tryd.checked os 4 .any (fun w args => (Rows.heapTwoSpec.pre enc Tryd.prog Tryd.f4 [] false w args ∧ laidMetH Tryd.prog laidAll w) ∧ sizedMet enc Tryd.prog Tryd.f4 (OpenSpec.ofChange Rows.heapTwoSpec) false w args)
      (Rows.heapTwoSpec.post enc Tryd.prog Tryd.f4 false true false false) := by
  refine returnsInHanded_of_change_and (C := Tryd.checked) (X := fun w _ => laidMetH Tryd.prog laidAll w) (fun _ _ _ hh h => h.of_heap hh) Tryd.own started (by kernel_rfl) Tryd.func4
    (ChangeSpec.witness_at (enc := enc) (C := Tryd.checked) (os := os) (X := fun w _ => laidMetH Tryd.prog laidAll w) false (laidHeap (World.holding Tryd.prog os ⟨#[], #[], []⟩)) #[.int .i64 0, .slice none 0 0, .slice none 0 0] 8 rfl (by kernel_rfl) (by kernel_rfl) (by kernel_rfl) (by kernel_rfl) (by kernel_rfl) (laidHeap_met os _)) ?_
  intro W base args ds gs before hval0 hW _ _ hL _
  have hval : ∀ (j : Nat) t v, Tryd.f4.params[j]? = some t → args[j]? = some v → Value.okWide Tryd.prog W .any base t v := hval0
  have hW' := hW
  obtain ⟨p, q, hA0, hV0, rfl, hfz, hnd⟩ := hW
  have hA : DataW.TrodAll enc Tryd.prog W 0 (fun _ => true) true Tryd.f4.params.toList args.toList ds p := hA0
  have hV : DataW.TrodVars enc Tryd.prog W (fun _ => true) [] gs q := hV0
  rw [Tryd.params4] at hA hval
  obtain ⟨v0, v1, v2, d0, d1, d2, p0, p1, p2, rfl, rfl, rfl, hr0, hr1, hr2⟩ := trodAll_three hA
  obtain ⟨rfl, rfl⟩ : gs = [] ∧ q = [] := by
    cases gs with
    | nil => exact ⟨rfl, hV⟩
    | cons g r => exact absurd hV (by intro h; cases h)
  obtain ⟨n, rfl, _, _, _⟩ := open_int Tryd.underlying3 (hval 0 3 v0 rfl rfl) hr0
  obtain ⟨so, sc, L, rfl, hO, hm, _⟩ := ops_open (hval 1 22 v1 rfl rfl) hr1
  obtain ⟨to_, tc, L2, rfl, hO2, hm2, _⟩ := ops_open (hval 2 22 v2 rfl rfl) hr2
  refine (two_every n so to_ sc tc L L2 W (hasType_of_laid hL) hO hO2 hm hm2).mono fun e W' ⟨he, hw⟩ => ?_
  subst he
  exact ⟨_, rfl, post_of_law hW' rfl (by kernel_rfl) rfl (by rw [Tryd.params4]; intro t ht; simp at ht; rcases ht with rfl | rfl | rfl <;> exact ⟨by kernel_rfl, of_decide_eq_true (by kernel_rfl)⟩) hw⟩

theorem two_row : Rows.HeapTwoSaid :=
  OpenClaim.holds_of_wide 4 Tryd.f4 rfl rfl rfl rfl rfl rfl rfl ⟨rfl, rfl, rfl, rfl, rfl⟩ rfl rfl rfl rfl rfl (by kernel_rfl) Tryd.func4 (by kernel_rfl)
    (of_decide_eq_true (by kernel_rfl)) (by unfold Func.isWrapper; rw [if_neg (of_decide_eq_false (by kernel_rfl))]; exact ⟨rfl, rfl⟩)
    (fun os started H enc _ => two_lifted os started H enc)

theorem two_card : Rows.HeapTwoCardSaid :=
  Claim7.holds_tied_plain_at .later [] [.handle] true (true, "48f205d1ecc2fc44bd382b817b81ad91eace39e6b66031a97f0fd4c6a4111de2") true
    two_row (fun _ h => by cases h) (by kernel_rfl) (fun _ h => by cases h) heapTwo_row_tie rfl ⟨rfl, rfl⟩ (by kernel_rfl) rfl
    (fun f fn hf hfn => by
      obtain rfl : f = 4 := Option.some.inj ((show Tryd.prog.funcNamed "viaduct/viaductlaw06.HeapTwo" = some 4 by kernel_rfl).symm.trans hf) |>.symm
      obtain rfl : fn = Tryd.f4 := (Option.some.inj (Tryd.func4.symm.trans hfn)).symm
      exact ⟨by kernel_rfl, fun j t ht => by
        rw [Tryd.params4] at ht
        rcases j with _ | _ | _ | j
        · obtain rfl : 3 = t := by simpa using ht
          exact (show Tryd.prog.wantsStandIn 3 = false by kernel_rfl)
        · obtain rfl : 22 = t := by simpa using ht
          exact (show Tryd.prog.wantsStandIn 22 = false by kernel_rfl)
        · obtain rfl : 22 = t := by simpa using ht
          exact (show Tryd.prog.wantsStandIn 22 = false by kernel_rfl)
        · simp at ht⟩)
    (by kernel_rfl)
#print axioms two_card
end Go.Proofs.YtkeniogcjhmikaaDoor
