/- CsrChecks holds: for all arrays and all two numbers the law answers true and its arguments read as they did, the listed variable tied to the program's text. No condition beside the row's own. -/
import Derived.Test.YtgfmalimnbgdeaaDoorOpen
import Derived.Test.YtgfmalimnbgdeaaDoorCsrBw
import Derived.Test.YtgfmalimnbgdeaaDoorTie
import Derived.Test.YtgfmalimnbgdeaaDoorCards
import Derived.SevenTiedAt
import Derived.SizedLaws
namespace Go.Proofs.YtgfmalimnbgdeaaDoor
open Go Go.ChangeShapes Go.WideShapes Go.RowKit Go.Deep

theorem Tryd.cellsC : Tryd.prog.cellsOf 34 = 3 := by kernel_rfl
theorem Tryd.cellsI : Tryd.prog.cellsOf 27 = 1 := by kernel_rfl
theorem Tryd.bytesI : Tryd.prog.bytesOf 3 = 8 := by kernel_rfl
/-- how a list of numbers reads. -/
def ReadsI {H : Type} (d : DataW H) (l : List Int) : Prop := l = [] ∨ ∃ el sp, d = .slice el sp ∧ el.length = l.length
set_option maxRecDepth 100000 in
theorem ints_open {H : Type} {enc : TypeId × Value → H} {W : World} {fuel : Nat} {g : Value} {y : DataW H × List MemPlace} (t1 : DataW.trod enc Tryd.prog W 0 (fun _ => true) true fuel 27 [g] = some y) :
    ∃ (ao : Option Addr) (cap : Nat) (l : List Int), g = .slice ao l.length cap ∧ HasInts W (.slice ao l.length cap) l ∧ ReadsI y.1 l := by
  rcases open_slice1 Tryd.underlying27 Tryd.cells3 t1 with ⟨hcs, _⟩ | ⟨a, len', cap', m, n, V, D, Pl, hcs, _, hl, hm, hmm, rfl, hx⟩
  · have e : g = .slice none 0 0 := by simpa using hcs
    subst e
    exact ⟨none, 0, [], rfl, ⟨none, 0, rfl, fun j q hj => by simp at hj⟩, Or.inl rfl⟩
  · have e : g = .slice (some a) len' cap' := by simpa using hcs
    subst e
    simp at hmm
    subst hmm
    have hq : ∀ i, i < len' → ∃ q : Int, W.cell? (a.add i) = some (.int .i64 q) := fun i hi => by
      obtain ⟨h1, h2⟩ := hx i (by omega)
      obtain ⟨x0, e0, _, _⟩ := DataW.trod_int Tryd.underlying3 h2
      simp at e0
      rw [e0] at h1
      exact ⟨x0, h1⟩
    obtain ⟨q, hq'⟩ := choose_lt hq
    have hlen : ((List.range len').map q).length = len' := by rw [List.length_map, List.length_range]
    refine ⟨some a, m, (List.range len').map q, by rw [hlen], ⟨some a, m, rfl, fun j r hj => ?_⟩, Or.inr ⟨_, _, rfl, by rw [List.length_map, List.length_range, hlen]⟩⟩
    have hj' : j < len' := by
      have := (List.getElem?_eq_some_iff.1 hj).1
      rw [hlen] at this
      exact this
    have er : r = q j := by
      rw [List.getElem?_map, List.getElem?_range hj'] at hj
      exact (Option.some.inj hj).symm
    subst er
    have h0 := hq' j hj'
    obtain ⟨b, off, spot⟩ := a
    have hspot : spot = none := by
      have h00 := hq' 0 (by omega)
      simpa [Addr.add] using World.cell?_spot h00
    subst hspot
    have e1 : (Addr.mk b off none).add j = ⟨b, off + j, none⟩ := add_plain _ _ _
    rw [e1] at h0
    refine ⟨b, off, rfl, ?_, h0⟩
    unfold World.cell? at h0
    rcases Nat.lt_or_ge b W.heap.size with h | h
    · exact h
    · simp [Array.getElem?_eq_none h] at h0
set_option maxRecDepth 100000 in
theorem csr_open {H : Type} {enc : TypeId × Value → H} {W : World} {base : Nat} {v : Value} {d : DataW H} {p : List MemPlace} (hv : Value.okWide Tryd.prog W .any base 34 v) (h : DataW.Trod enc Tryd.prog W 0 (fun _ => true) true 34 v d p) :
    ∃ (fo uo wo : Option Addr) (fc tc wc : Nat) (F T V : List Int), v = .agg #[.slice fo F.length fc, .slice uo T.length tc, .slice wo V.length wc] ∧ Arr W F T V fo uo wo fc tc wc ∧ ∃ d0 d1 d2, d = .agg [d0, d1, d2] ∧ ReadsI d0 F ∧ ReadsI d1 T ∧ ReadsI d2 V := by
  obtain ⟨cs, rfl, hsz⟩ := okWide_struct Tryd.underlying34 hv
  rw [Tryd.cellsC] at hsz
  obtain ⟨g0, g1, g2, rfl⟩ : ∃ g0 g1 g2, cs = #[g0, g1, g2] := by
    obtain ⟨l⟩ := cs
    match l, hsz with
    | [g0, g1, g2], _ => exact ⟨g0, g1, g2, rfl⟩
  obtain ⟨fuel, hf⟩ := h
  have hf' : DataW.trod enc Tryd.prog W 0 (fun _ => true) true fuel 34 [g0, g1, g2] = some (d, p) := hf
  obtain ⟨y0, y1, y2, m, hd, _, t0, t1, t2⟩ := trod_struct3 Tryd.underlying34 hf'
  rw [Tryd.cellsI] at t0 t1 t2
  simp at t0 t1 t2
  obtain ⟨fo, fc, F, rfl, h0, r0⟩ := ints_open t0
  obtain ⟨uo, tc, T, rfl, h1, r1⟩ := ints_open t1
  obtain ⟨wo, wc, V, rfl, h2, r2⟩ := ints_open t2
  have hdd : d = .agg [y0.1, y1.1, y2.1] := congrArg Prod.fst hd
  exact ⟨fo, uo, wo, fc, tc, wc, F, T, V, rfl, ⟨h0, h1, h2⟩, y0.1, y1.1, y2.1, hdd, r0, r1, r2⟩
/-- a list among the arrays takes no more than the form's reach. -/
theorem reach_of {H : Type} {ts : List TypeId} {r : List (DataW H)} {d0 d1 d2 : DataW H} (hsz : (DataW.weightsEach Tryd.prog (34 :: ts) (.agg [d0, d1, d2] :: r)).all (· ≤ reachBytes) = true) {l : List Int} {d : DataW H} (hd : d = d0 ∨ d = d1 ∨ d = d2) (hr : ReadsI d l) : l.length * 8 ≤ 140737488351232 := by
  rcases hr with rfl | ⟨el, sp, rfl, hl⟩
  · simp
  · have hm := List.all_eq_true.1 hsz _ (DataW.weights_mem_each (j := 0) (t := 34) (d := .agg [d0, d1, d2]) rfl rfl ((el.length + sp.length) * Tryd.prog.bytesOf 3) (by
      rcases hd with rfl | rfl | rfl <;> simp [DataW.weights, DataW.weightsEach, Tryd.underlying34, Tryd.underlying27]))
    have hm' : (el.length + sp.length) * Tryd.prog.bytesOf 3 ≤ reachBytes := by simpa using hm
    rw [Tryd.bytesI] at hm'
    unfold reachBytes at hm'
    omega

set_option maxRecDepth 100000 in
theorem checks_lifted (os : Os) (started : os.Started) (H : Type) (enc : TypeId × Value → H) :
    ReturnsInHanded {} Tryd.checked os 4 .any (fun w args => (Rows.csrChecksSpec.pre enc Tryd.prog Tryd.f4 [] false w args ∧ laidMetH Tryd.prog laidAll w) ∧ sizedMet enc Tryd.prog Tryd.f4 (OpenSpec.ofChange Rows.csrChecksSpec) false w args)
      (Rows.csrChecksSpec.post enc Tryd.prog Tryd.f4 false true false false) := by
  refine returnsInHanded_of_change_and (C := Tryd.checked) (X := fun w _ => laidMetH Tryd.prog laidAll w) (fun _ _ _ hh h => h.of_heap hh) Tryd.own started (by kernel_rfl) Tryd.func4
    (ChangeSpec.witness_at (enc := enc) (C := Tryd.checked) (os := os) (X := fun w _ => laidMetH Tryd.prog laidAll w) false (laidHeap (World.holding Tryd.prog os ⟨#[], #[], []⟩)) #[.agg #[.slice none 0 0, .slice none 0 0, .slice none 0 0], .int .i64 0, .int .i64 0] 8 rfl (by kernel_rfl) (by kernel_rfl) (by kernel_rfl) (by kernel_rfl) (by kernel_rfl) (laidHeap_met os _)) ?_
  intro W base args ds gs before hval0 hW _ hsz0 hL _
  have hval : ∀ (j : Nat) t v, Tryd.f4.params[j]? = some t → args[j]? = some v → Value.okWide Tryd.prog W .any base t v := hval0
  have hW' := hW
  obtain ⟨p, q, hA0, hV0, rfl, hfz, hnd⟩ := hW
  have hA : DataW.TrodAll enc Tryd.prog W 0 (fun _ => true) true Tryd.f4.params.toList args.toList ds p := hA0
  have hV : DataW.TrodVars enc Tryd.prog W (fun _ => true) [] gs q := hV0
  have hsz : (DataW.weightsEach Tryd.prog (Tryd.f4.params.toList ++ Rows.csrChecksSpec.plain.varTypes Tryd.prog) (ds ++ gs)).all (· ≤ reachBytes) = true := hsz0
  rw [Tryd.params4] at hA hval hsz
  obtain ⟨v0, vs0, d0, ds0, p0, q0, hargs, rfl, rfl, hr0, r0⟩ := trodAll_cons hA
  obtain ⟨v1, vs1, d1, ds1, p1, q1, rfl, rfl, rfl, hr1, r1⟩ := trodAll_cons r0
  obtain ⟨v2, vs2, d2, ds2, p2, q2, rfl, rfl, rfl, hr2, r2⟩ := trodAll_cons r1
  obtain ⟨rfl, rfl, rfl⟩ := trodAll_nil r2
  obtain rfl : args = #[v0, v1, v2] := by cases args; simp at hargs; simp [hargs]
  obtain ⟨rfl, rfl⟩ : gs = [] ∧ q = [] := by
    cases gs with
    | nil => exact ⟨rfl, hV⟩
    | cons g r => exact absurd hV (by intro h; cases h)
  obtain ⟨fo, uo, wo, fc, tc, wc, F, T, V, rfl, hR, e0, e1, e2, rfl, s0, s1, s2⟩ := csr_open (hval 0 34 v0 rfl rfl) hr0
  obtain ⟨k, rfl, _⟩ := open_int Tryd.underlying3 (hval 1 3 v1 rfl rfl) hr1
  obtain ⟨a, rfl, _⟩ := open_int Tryd.underlying3 (hval 2 3 v2 rfl rfl) hr2
  refine (checks_calls fo uo wo fc tc wc F T V k a W hR (reach_of hsz (Or.inl rfl) s0) (reach_of hsz (Or.inr (Or.inl rfl)) s1) (reach_of hsz (Or.inr (Or.inr rfl)) s2) (hasType_of_laid hL)).mono fun e W' ⟨he, hw⟩ => ?_
  subst he
  exact ⟨_, rfl, post_of_law hW' rfl (by kernel_rfl) rfl (by rw [Tryd.params4]; intro t ht; simp at ht; rcases ht with rfl | rfl <;> exact ⟨by kernel_rfl, of_decide_eq_true (by kernel_rfl)⟩) hw⟩

theorem checks_row : Rows.CsrChecksSaid :=
  OpenClaim.holds_of_wide 4 Tryd.f4 rfl rfl rfl rfl rfl rfl rfl ⟨rfl, rfl, rfl, rfl, rfl⟩ rfl rfl rfl rfl rfl (by kernel_rfl) Tryd.func4 (by kernel_rfl)
    (of_decide_eq_true (by kernel_rfl)) (by unfold Func.isWrapper; rw [if_neg (of_decide_eq_false (by kernel_rfl))]; exact ⟨rfl, rfl⟩)
    (fun os started H enc _ => checks_lifted os started H enc)

theorem checks_card : Rows.CsrChecksCardSaid :=
  Claim7.holds_tied_plain_at .later [] [.handle] true (true, "203c04ad53ac8cdde1858ed638baef04a5bee417623f40d12345606139cca73e") true
    checks_row (fun _ h => by cases h) (by kernel_rfl) (fun _ h => by cases h) csrChecks_row_tie rfl ⟨rfl, rfl⟩ (by kernel_rfl) rfl
    (fun f fn hf hfn => by
      obtain rfl : f = 4 := Option.some.inj ((show Tryd.prog.funcNamed "viaduct/viaductlaw05.CsrChecks" = some 4 by kernel_rfl).symm.trans hf) |>.symm
      obtain rfl : fn = Tryd.f4 := (Option.some.inj (Tryd.func4.symm.trans hfn)).symm
      exact ⟨by kernel_rfl, fun j t ht => by
        rw [Tryd.params4] at ht
        rcases j with _ | _ | _ | j
        · obtain rfl : 34 = t := by simpa using ht
          exact (show Tryd.prog.wantsStandIn 34 = false by kernel_rfl)
        · obtain rfl : 3 = t := by simpa using ht
          exact (show Tryd.prog.wantsStandIn 3 = false by kernel_rfl)
        · obtain rfl : 3 = t := by simpa using ht
          exact (show Tryd.prog.wantsStandIn 3 = false by kernel_rfl)
        · simp at ht⟩)
    (by kernel_rfl)
#print axioms checks_card
end Go.Proofs.YtgfmalimnbgdeaaDoor
