/- SearchTurned holds: for every graph and all numbers s and t the law answers true and its arguments read as they did, the listed variable tied to the program's text. No condition beside the row's own. -/
import Derived.Test.YtbaahjppofbdlaaGreatDoorOpen
import Derived.Test.YtbaahjppofbdlaaGreatDoorSxW
import Derived.Test.YtbaahjppofbdlaaGreatDoorTie
import Derived.Test.YtbaahjppofbdlaaGreatDoorCards
import Derived.SevenTiedAt
import Derived.SizedLaws
namespace Go.Proofs.YtbaahjppofbdlaaGreatDoor
open Go Go.ChangeShapes Go.WideShapes Go.RowKit Go.Deep Go.Extern

attribute [local go_sem] Oper.semAt_some

set_option maxRecDepth 100000 in
set_option maxHeartbeats 4000000 in
theorem turned8_far (N : Int) (ao : Option Addr) (cap : Nat) (xs : List (Int × Int × Int)) (w : World) (hX : HasArcs w (.slice ao xs.length cap) xs) (hxl : xs.length ≤ maxLen) (s t : Int) (hfar : fewB N xs 12 = false ∨ s < 0 ∨ N ≤ s ∨ t < 0 ∨ N ≤ t) :
    Calls Tryz.prog 3 #[.agg #[.int .i64 N, .slice ao xs.length cap], .int .i64 s, .int .i64 t] w fun e w' => e = .returned (.bool true) ∧ Below w.heap.size w w' := by
  obtain ⟨W0, hW0⟩ : ∃ W0, w.alloc (.cells #[.int .i64 N, .slice ao xs.length cap] 24) = W0 := ⟨_, rfl⟩
  have HW0 : Hid (w.alloc (.cells #[.int .i64 N, .slice ao xs.length cap] 24) = W0) := hW0
  have hB0 : Below w.heap.size w W0 := by rw [← hW0]; exact (Below.refl _ w).alloc (Nat.le_refl _) _
  have hbx : W0.heap[w.heap.size]? = some (.cells #[.int .i64 N, .slice ao xs.length cap] 24) := by rw [← hW0]; exact heap_new _ _
  have HG : Hid (∀ wx, Below W0.heap.size W0 wx → (wx.cell? ⟨w.heap.size, 0, none⟩ = some (.int .i64 N) ∧ wx.cell? ⟨w.heap.size, 1, none⟩ = some (.slice ao xs.length cap) ∧ w.heap.size < wx.heap.size) ∧ HasArcs wx (.slice ao xs.length cap) xs ∧ Below w.heap.size w wx) := fun wx hwx => by
    have hgg := (hwx.block _ (lt_of_get hbx)).trans hbx
    have hb := hB0.trans (hwx.mono hB0.size)
    exact ⟨⟨(cell_two hgg).1, (cell_two hgg).2.1, lt_of_get hgg⟩, hX.keep hb, hb⟩
  have HFW : Hid (∀ wx, Below W0.heap.size W0 wx → Calls Tryz.prog 6 #[.agg #[.int .i64 N, .slice ao xs.length cap], .int .i64 12] wx fun e w' => e = .returned (.bool (fewB N xs 12)) ∧ Below wx.heap.size wx w') := fun wx hwx => few_calls N ao cap xs 12 wx (HG.out wx hwx).2.1 hxl
  have HF : Hid (fewB N xs 12 = false ∨ s < 0 ∨ N ≤ s ∨ t < 0 ∨ N ≤ t) := hfar
  generalize fewB N xs 12 = fb at *
  clear hW0 hB0 hbx hX hfar
  go_enter Tryz.func3, Tryz.ntmps3
  go_wp2_with fail
  rw [HW0.out]
  refine (awake8_calls W0).mono ?_
  rintro e w1 ⟨rfl, hb⟩
  have HB1 : Hid (Below W0.heap.size W0 w1) := hb
  clear hb
  obtain ⟨⟨g0, g1, gs⟩, _⟩ := HG.out w1 HB1.out
  go_wp2_with fail
  refine (HFW.out w1 HB1.out).mono ?_
  rintro e w2 ⟨rfl, hb⟩
  have HB2 : Hid (Below W0.heap.size W0 w2) := btr HB1.out hb
  have HBZ : Hid (Below w.heap.size w w2) := (HG.out w2 HB2.out).2.2
  clear hb HB1 g0 g1 gs
  obtain ⟨⟨g0, g1, gs⟩, _⟩ := HG.out w2 HB2.out
  cases fb with
  | false =>
    go_wp2
    go_ret
    exact ⟨rfl, HBZ.out⟩
  | true =>
    by_cases h1 : s < 0
    · go_wp2
      go_ret
      exact ⟨rfl, HBZ.out⟩
    · by_cases h2 : N ≤ s
      · have h2' : s ≥ N := h2
        go_wp2
        go_ret
        exact ⟨rfl, HBZ.out⟩
      · have h2' : ¬ s ≥ N := h2
        by_cases h3 : t < 0
        · go_wp2
          go_ret
          exact ⟨rfl, HBZ.out⟩
        · have h4 : N ≤ t := by
            rcases HF.out with h | h | h | h | h
            · cases h
            · exact absurd h h1
            · exact absurd h h2
            · exact absurd h h3
            · exact h
          have h4' : t ≥ N := h4
          go_wp2
          go_ret
          exact ⟨rfl, HBZ.out⟩
theorem turned8_calls (N : Int) (ao : Option Addr) (cap : Nat) (xs : List (Int × Int × Int)) (w : World) (hX : HasArcs w (.slice ao xs.length cap) xs) (hxl : xs.length ≤ maxLen) (s t : Int) (hty : HasType w) :
    Calls Tryz.prog 3 #[.agg #[.int .i64 N, .slice ao xs.length cap], .int .i64 s, .int .i64 t] w fun e w' => e = .returned (.bool true) ∧ Below w.heap.size w w' := by
  by_cases h : fewB N xs 12 = false ∨ s < 0 ∨ N ≤ s ∨ t < 0 ∨ N ≤ t
  · exact turned8_far N ao cap xs w hX hxl s t h
  · have hf : fewB N xs 12 = true := by
      cases hb : fewB N xs 12 with
      | false => exact absurd (Or.inl hb) h
      | true => rfl
    obtain ⟨h1, h2, h3⟩ := of_decide_eq_true hf
    have hN := ((good_iff _ _).1 h1).1
    obtain ⟨n, rfl⟩ : ∃ n : Nat, N = (n : Int) := ⟨N.toNat, by omega⟩
    have hs : 0 ≤ s ∧ s < (n : Int) := by omega
    have ht : 0 ≤ t ∧ t < (n : Int) := by omega
    obtain ⟨p, rfl⟩ : ∃ p : Nat, s = (p : Int) := ⟨s.toNat, by omega⟩
    obtain ⟨q, rfl⟩ : ∃ q : Nat, t = (q : Int) := ⟨t.toNat, by omega⟩
    exact turned8_near n ao cap xs w hX h1 (by omega) h3 p q (by omega) (by omega) hty

set_option maxRecDepth 100000 in
theorem turned_lifted (os : Os) (started : os.Started) (H : Type) (enc : TypeId × Value → H) :
    ReturnsInHanded {} Tryz.checked os 3 .any (fun w args => (Rows.searchTurnedSpec.pre enc Tryz.prog Tryz.f3 [] false w args ∧ laidMetH Tryz.prog laidAll w) ∧ sizedMet enc Tryz.prog Tryz.f3 (OpenSpec.ofChange Rows.searchTurnedSpec) false w args)
      (Rows.searchTurnedSpec.post enc Tryz.prog Tryz.f3 false true false false) := by
  refine returnsInHanded_of_change_and (C := Tryz.checked) (X := fun w _ => laidMetH Tryz.prog laidAll w) (fun _ _ _ hh h => h.of_heap hh) Tryz.own started (by kernel_rfl) Tryz.func3
    (ChangeSpec.witness_at (enc := enc) (C := Tryz.checked) (os := os) (X := fun w _ => laidMetH Tryz.prog laidAll w) false (laidHeap (World.holding Tryz.prog os ⟨#[], #[], []⟩)) #[.agg #[.int .i64 0, .slice none 0 0], .int .i64 0, .int .i64 0] 8 rfl (by kernel_rfl) (by kernel_rfl) (by kernel_rfl) (by kernel_rfl) (by kernel_rfl) (laidHeap_met os _)) ?_
  intro W base args ds gs before hval0 hW _ hsz0 hL _
  have hval : ∀ (j : Nat) t v, Tryz.f3.params[j]? = some t → args[j]? = some v → Value.okWide Tryz.prog W .any base t v := hval0
  have hW' := hW
  obtain ⟨p, q, hA0, hV0, rfl, hfz, hnd⟩ := hW
  have hA : DataW.TrodAll enc Tryz.prog W 0 (fun _ => true) true Tryz.f3.params.toList args.toList ds p := hA0
  have hV : DataW.TrodVars enc Tryz.prog W (fun _ => true) [] gs q := hV0
  rw [Tryz.params3] at hA hval
  obtain ⟨v0, vs0, d0, ds0, p0, q0, hargs, rfl, rfl, hr0, r0⟩ := trodAll_cons hA
  obtain ⟨v1, vs1, d1, ds1, p1, q1, rfl, rfl, rfl, hr1, r1⟩ := trodAll_cons r0
  obtain ⟨v2, vs2, d2, ds2, p2, q2, rfl, rfl, rfl, hr2, r2⟩ := trodAll_cons r1
  obtain ⟨rfl, rfl, rfl⟩ := trodAll_nil r2
  obtain rfl : args = #[v0, v1, v2] := by cases args; simp at hargs; simp [hargs]
  obtain ⟨rfl, rfl⟩ : gs = [] ∧ q = [] := by
    cases gs with
    | nil => exact ⟨rfl, hV⟩
    | cons g r => exact absurd hV (by intro h; cases h)
  obtain ⟨N, bo, cap, xs, rfl, hX, hxl⟩ := graph_open (hval 0 24 v0 rfl rfl) hr0
  obtain ⟨s, rfl, _, _, _⟩ := open_int Tryz.underlying3 (hval 1 3 v1 rfl rfl) hr1
  obtain ⟨t, rfl, _, _, _⟩ := open_int Tryz.underlying3 (hval 2 3 v2 rfl rfl) hr2
  refine (turned8_calls N bo cap xs W hX hxl s t (hasType_of_laid hL)).mono fun e W' ⟨he, hw⟩ => ?_
  subst he
  exact ⟨_, rfl, post_of_law hW' rfl (by kernel_rfl) rfl (by rw [Tryz.params3]; intro t ht; simp at ht; rcases ht with rfl | rfl <;> exact ⟨by kernel_rfl, of_decide_eq_true (by kernel_rfl)⟩) hw⟩

theorem turned_row : Rows.SearchTurnedSaid :=
  OpenClaim.holds_of_wide 3 Tryz.f3 rfl rfl rfl rfl rfl rfl rfl ⟨rfl, rfl, rfl, rfl, rfl⟩ rfl rfl rfl rfl rfl (by kernel_rfl) Tryz.func3 (by kernel_rfl)
    (of_decide_eq_true (by kernel_rfl)) (by unfold Func.isWrapper; rw [if_neg (of_decide_eq_false (by kernel_rfl))]; exact ⟨rfl, rfl⟩)
    (fun os started H enc _ => turned_lifted os started H enc)

theorem turned_card : Rows.SearchTurnedCardSaid :=
  Claim7.holds_tied_plain_at .later [] [.handle] true (true, "7a45442ed6a49279b4c795b5cb4a96212429283dd743be5dc06120b86e11daed") true
    turned_row (fun _ h => by cases h) (by kernel_rfl) (fun _ h => by cases h) searchTurned_row_tie rfl ⟨rfl, rfl⟩ (by kernel_rfl) rfl
    (fun f fn hf hfn => by
      obtain rfl : f = 3 := Option.some.inj ((show Tryz.prog.funcNamed "viaduct/viaductlaw08.SearchTurned" = some 3 by kernel_rfl).symm.trans hf) |>.symm
      obtain rfl : fn = Tryz.f3 := (Option.some.inj (Tryz.func3.symm.trans hfn)).symm
      exact ⟨by kernel_rfl, fun j t ht => by
        rw [Tryz.params3] at ht
        rcases j with _ | _ | _ | j
        · obtain rfl : 24 = t := by simpa using ht
          exact (show Tryz.prog.wantsStandIn 24 = false by kernel_rfl)
        · obtain rfl : 3 = t := by simpa using ht
          exact (show Tryz.prog.wantsStandIn 3 = false by kernel_rfl)
        · obtain rfl : 3 = t := by simpa using ht
          exact (show Tryz.prog.wantsStandIn 3 = false by kernel_rfl)
        · simp at ht⟩)
    (by kernel_rfl)
#print axioms turned_card
end Go.Proofs.YtbaahjppofbdlaaGreatDoor
