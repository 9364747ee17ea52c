/- SearchBounds holds: for all arrays and all numbers s, hops, settles and most the law answers true and its arguments read as they did, the listed variable tied to the program's text. No condition beside the row's own. -/
import Derived.Test.YtnkfggccahohpaaDoorWlO
import Derived.Test.YtnkfggccahohpaaDoorSdD
import Derived.Test.YtnkfggccahohpaaDoorTie
import Derived.Test.YtnkfggccahohpaaDoorCards
import Derived.SevenTiedAt
import Derived.SizedLaws
namespace Go.Proofs.YtnkfggccahohpaaDoor
open Go Go.ChangeShapes Go.WideShapes Go.RowKit Go.Deep

theorem Tryd.cellsC9 : Tryd.prog.cellsOf 24 = 3 := by kernel_rfl
theorem Tryd.cellsI9 : Tryd.prog.cellsOf 22 = 1 := by kernel_rfl
set_option maxRecDepth 100000 in
theorem csr_open {H : Type} {enc : TypeId × Value → H} {W : World} {base : Nat} {v : Value} {d : DataW H} {p : List MemPlace} (hv : Value.okWide Tryd.prog W .any base 24 v) (h : DataW.Trod enc Tryd.prog W 0 (fun _ => true) true 24 v d p) :
    ∃ (fo uo wo : Option Addr) (fc tc wc : Nat) (F T V : List Int), v = .agg #[.slice fo F.length fc, .slice uo T.length tc, .slice wo V.length wc] ∧ Arr W F T V fo uo wo fc tc wc ∧ ∃ d0 d1 d2, d = .agg [d0, d1, d2] ∧ ReadsI d0 F ∧ ReadsI d1 T ∧ ReadsI d2 V := by
  obtain ⟨cs, rfl, hsz⟩ := okWide_struct Tryd.underlying24 hv
  rw [Tryd.cellsC9] at hsz
  obtain ⟨g0, g1, g2, rfl⟩ : ∃ g0 g1 g2, cs = #[g0, g1, g2] := by
    obtain ⟨l⟩ := cs
    match l, hsz with
    | [g0, g1, g2], _ => exact ⟨g0, g1, g2, rfl⟩
  obtain ⟨fuel, hf⟩ := h
  have hf' : DataW.trod enc Tryd.prog W 0 (fun _ => true) true fuel 24 [g0, g1, g2] = some (d, p) := hf
  obtain ⟨y0, y1, y2, m, hd, _, t0, t1, t2⟩ := trod_struct3 Tryd.underlying24 hf'
  rw [Tryd.cellsI9] at t0 t1 t2
  simp at t0 t1 t2
  obtain ⟨fo, fc, F, rfl, h0, r0, _, _⟩ := ints_open t0
  obtain ⟨uo, tc, T, rfl, h1, r1, _, _⟩ := ints_open t1
  obtain ⟨wo, wc, V, rfl, h2, r2, _, _⟩ := ints_open t2
  have hdd : d = .agg [y0.1, y1.1, y2.1] := congrArg Prod.fst hd
  exact ⟨fo, uo, wo, fc, tc, wc, F, T, V, rfl, ⟨h0, h1, h2⟩, y0.1, y1.1, y2.1, hdd, r0, r1, r2⟩
/-- a list among the arrays takes no more than the form's reach. -/
theorem reach_of {H : Type} {ts : List TypeId} {r : List (DataW H)} {d0 d1 d2 : DataW H} (hsz : (DataW.weightsEach Tryd.prog (24 :: ts) (.agg [d0, d1, d2] :: r)).all (· ≤ reachBytes) = true) {l : List Int} {d : DataW H} (hd : d = d0 ∨ d = d1 ∨ d = d2) (hr : ReadsI d l) : l.length * 8 ≤ 140737488351232 := by
  rcases hr with rfl | ⟨el, sp, rfl, hl⟩
  · simp
  · have hm := List.all_eq_true.1 hsz _ (DataW.weights_mem_each (j := 0) (t := 24) (d := .agg [d0, d1, d2]) rfl rfl ((el.length + sp.length) * Tryd.prog.bytesOf 3) (by
      rcases hd with rfl | rfl | rfl <;> simp [DataW.weights, DataW.weightsEach, Tryd.underlying24, Tryd.underlying22]))
    have hm' : (el.length + sp.length) * Tryd.prog.bytesOf 3 ≤ reachBytes := by simpa using hm
    rw [Tryd.bytesI9] at hm'
    unfold reachBytes at hm'
    omega

set_option maxRecDepth 100000 in
theorem bounds_lifted (os : Os) (started : os.Started) (H : Type) (enc : TypeId × Value → H) :
    ReturnsInHanded {} Tryd.checked os 4 .any (fun w args => (Rows.searchBoundsSpec.pre enc Tryd.prog Tryd.f4 [] false w args ∧ laidMetH Tryd.prog laidAll w) ∧ sizedMet enc Tryd.prog Tryd.f4 (OpenSpec.ofChange Rows.searchBoundsSpec) false w args)
      (Rows.searchBoundsSpec.post enc Tryd.prog Tryd.f4 false true false false) := by
  refine returnsInHanded_of_change_and (C := Tryd.checked) (X := fun w _ => laidMetH Tryd.prog laidAll w) (fun _ _ _ hh h => h.of_heap hh) Tryd.own started (by kernel_rfl) Tryd.func4
    (ChangeSpec.witness_at (enc := enc) (C := Tryd.checked) (os := os) (X := fun w _ => laidMetH Tryd.prog laidAll w) false (laidHeap (World.holding Tryd.prog os ⟨#[], #[], []⟩)) #[.agg #[.slice none 0 0, .slice none 0 0, .slice none 0 0], .int .i64 0, .int .i64 0, .int .i64 0, .int .u64 0] 8 rfl (by kernel_rfl) (by kernel_rfl) (by kernel_rfl) (by kernel_rfl) (by kernel_rfl) (laidHeap_met os _)) ?_
  intro W base args ds gs before hval0 hW _ hsz0 hL _
  have hval : ∀ (j : Nat) t v, Tryd.f4.params[j]? = some t → args[j]? = some v → Value.okWide Tryd.prog W .any base t v := hval0
  have hW' := hW
  obtain ⟨p, q, hA0, hV0, rfl, hfz, hnd⟩ := hW
  have hA : DataW.TrodAll enc Tryd.prog W 0 (fun _ => true) true Tryd.f4.params.toList args.toList ds p := hA0
  have hV : DataW.TrodVars enc Tryd.prog W (fun _ => true) [] gs q := hV0
  have hsz : (DataW.weightsEach Tryd.prog (Tryd.f4.params.toList ++ Rows.searchBoundsSpec.plain.varTypes Tryd.prog) (ds ++ gs)).all (· ≤ reachBytes) = true := hsz0
  rw [Tryd.params4] at hA hval hsz
  obtain ⟨v0, vs0, d0, ds0, p0, q0, hargs, rfl, rfl, hr0, r0⟩ := trodAll_cons hA
  obtain ⟨v1, vs1, d1, ds1, p1, q1, rfl, rfl, rfl, hr1, r1⟩ := trodAll_cons r0
  obtain ⟨v2, vs2, d2, ds2, p2, q2, rfl, rfl, rfl, hr2, r2⟩ := trodAll_cons r1
  obtain ⟨v3, vs3, d3, ds3, p3, q3, rfl, rfl, rfl, hr3, r3⟩ := trodAll_cons r2
  obtain ⟨v4, vs4, d4, ds4, p4, q4, rfl, rfl, rfl, hr4, r4⟩ := trodAll_cons r3
  obtain ⟨rfl, rfl, rfl⟩ := trodAll_nil r4
  obtain rfl : args = #[v0, v1, v2, v3, v4] := by cases args; simp at hargs; simp [hargs]
  obtain ⟨rfl, rfl⟩ : gs = [] ∧ q = [] := by
    cases gs with
    | nil => exact ⟨rfl, hV⟩
    | cons g r => exact absurd hV (by intro h; cases h)
  obtain ⟨fo, uo, wo, fc, tc, wc, F, T, V, rfl, hR, e0, e1, e2, rfl, s0, s1, s2⟩ := csr_open (hval 0 24 v0 rfl rfl) hr0
  obtain ⟨s, rfl, _, _, _⟩ := open_int Tryd.underlying3 (hval 1 3 v1 rfl rfl) hr1
  obtain ⟨hp, rfl, _, _, _⟩ := open_int Tryd.underlying3 (hval 2 3 v2 rfl rfl) hr2
  obtain ⟨se, rfl, _, _, _⟩ := open_int Tryd.underlying3 (hval 3 3 v3 rfl rfl) hr3
  obtain ⟨mo, rfl, _, _, _⟩ := open_int Tryd.underlying48 (hval 4 48 v4 rfl rfl) hr4
  refine (bounds8_calls fo uo wo fc tc wc F T V (reach_of hsz (Or.inl rfl) s0) (reach_of hsz (Or.inr (Or.inl rfl)) s1) (reach_of hsz (Or.inr (Or.inr rfl)) s2) W hR s hp se mo (hasType_of_laid hL)).mono fun e W' ⟨he, hw⟩ => ?_
  subst he
  exact ⟨_, rfl, post_of_law hW' rfl (by kernel_rfl) rfl (by rw [Tryd.params4]; intro t ht; simp at ht; rcases ht with rfl | rfl | rfl <;> exact ⟨by kernel_rfl, of_decide_eq_true (by kernel_rfl)⟩) hw⟩

theorem bounds_row : Rows.SearchBoundsSaid :=
  OpenClaim.holds_of_wide 4 Tryd.f4 rfl rfl rfl rfl rfl rfl rfl ⟨rfl, rfl, rfl, rfl, rfl⟩ rfl rfl rfl rfl rfl (by kernel_rfl) Tryd.func4 (by kernel_rfl)
    (of_decide_eq_true (by kernel_rfl)) (by unfold Func.isWrapper; rw [if_neg (of_decide_eq_false (by kernel_rfl))]; exact ⟨rfl, rfl⟩)
    (fun os started H enc _ => bounds_lifted os started H enc)

theorem bounds_card : Rows.SearchBoundsCardSaid :=
  Claim7.holds_tied_plain_at .later [] [.handle] true (true, "921a543d14bd2c1a2401eb36fee292cfa48b80a842e9724ba3a71a9506823ac3") true
    bounds_row (fun _ h => by cases h) (by kernel_rfl) (fun _ h => by cases h) searchBounds_row_tie rfl ⟨rfl, rfl⟩ (by kernel_rfl) rfl
    (fun f fn hf hfn => by
      obtain rfl : f = 4 := Option.some.inj ((show Tryd.prog.funcNamed "viaduct/viaductlaw08.SearchBounds" = some 4 by kernel_rfl).symm.trans hf) |>.symm
      obtain rfl : fn = Tryd.f4 := (Option.some.inj (Tryd.func4.symm.trans hfn)).symm
      exact ⟨by kernel_rfl, fun j t ht => by
        rw [Tryd.params4] at ht
        rcases j with _ | _ | _ | _ | _ | j
        · obtain rfl : 24 = t := by simpa using ht
          exact (show Tryd.prog.wantsStandIn 24 = false by kernel_rfl)
        · obtain rfl : 3 = t := by simpa using ht
          exact (show Tryd.prog.wantsStandIn 3 = false by kernel_rfl)
        · obtain rfl : 3 = t := by simpa using ht
          exact (show Tryd.prog.wantsStandIn 3 = false by kernel_rfl)
        · obtain rfl : 3 = t := by simpa using ht
          exact (show Tryd.prog.wantsStandIn 3 = false by kernel_rfl)
        · obtain rfl : 48 = t := by simpa using ht
          exact (show Tryd.prog.wantsStandIn 48 = false by kernel_rfl)
        · simp at ht⟩)
    (by kernel_rfl)
#print axioms bounds_card
end Go.Proofs.YtnkfggccahohpaaDoor
