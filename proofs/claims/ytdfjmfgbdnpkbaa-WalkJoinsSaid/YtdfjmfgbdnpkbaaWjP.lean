/- WalkJoins holds: for every graph, every list and every number the law answers true and its arguments read as they did. No condition beside the row's own. -/
import Derived.Test.YtdfjmfgbdnpkbaaOpen
import Derived.Test.YtdfjmfgbdnpkbaaWjA
import Derived.SizedLaws
namespace Go.Proofs.Ytdfjmfgbdnpkbaa
open Go.ChangeShapes Go.WideShapes Go.ChangeAt Go.RowKit Go.Deep Go.Extern

attribute [local go_sem] Oper.semAt_some

set_option maxRecDepth 100000 in
set_option maxHeartbeats 4000000 in
theorem joins9_far (N : Int) (ao : Option Addr) (cap : Nat) (xs : List (Int × Int × Int)) (no : Option Addr) (nc m : Nat) (k : Int) (w : World) (hX : HasArcs w (.slice ao xs.length cap) xs) (hxl : xs.length ≤ maxLen) (hm : m * 8 ≤ 140737488351232) (hfar : fewB N xs 25 = false ∨ 200 < m ∨ k < 0 ∨ (m : Int) ≤ k) :
    Calls Try.prog 4 #[.agg #[.int .i64 N, .slice ao xs.length cap], .slice no m nc, .int .i64 k] w fun e w' => e = .returned (.bool true) ∧ Below w.heap.size w w' := by
  obtain ⟨W0, hW0⟩ : ∃ W0, w.alloc (.cells #[.int .i64 N, .slice ao xs.length cap] 38) = W0 := ⟨_, rfl⟩
  have HW0 : Hid (w.alloc (.cells #[.int .i64 N, .slice ao xs.length cap] 38) = W0) := hW0
  have hB0 : Below w.heap.size w W0 := by rw [← hW0]; exact (Below.refl _ w).alloc (Nat.le_refl _) _
  have hbx : W0.heap[w.heap.size]? = some (.cells #[.int .i64 N, .slice ao xs.length cap] 38) := by rw [← hW0]; exact heap_new _ _
  have HG : Hid (∀ wx, Below W0.heap.size W0 wx → (wx.cell? ⟨w.heap.size, 0, none⟩ = some (.int .i64 N) ∧ wx.cell? ⟨w.heap.size, 1, none⟩ = some (.slice ao xs.length cap) ∧ w.heap.size < wx.heap.size) ∧ HasArcs wx (.slice ao xs.length cap) xs ∧ Below w.heap.size w wx) := fun wx hwx => by
    have hgg := (hwx.block _ (lt_of_get hbx)).trans hbx
    have hb := hB0.trans (hwx.mono hB0.size)
    exact ⟨⟨(cell_two hgg).1, (cell_two hgg).2.1, lt_of_get hgg⟩, hX.keep hb, hb⟩
  have HFW : Hid (∀ wx, Below W0.heap.size W0 wx → Calls Try.prog 12 #[.agg #[.int .i64 N, .slice ao xs.length cap], .int .i64 25] wx fun e w' => e = .returned (.bool (fewB N xs 25)) ∧ Below wx.heap.size wx w') := fun wx hwx => few_calls N ao cap xs 25 wx (HG.out wx hwx).2.1 hxl
  clear hW0 hB0 hbx hX
  generalize fewB N xs 25 = bb at *
  cases bb
  · clear hfar
    go_enter Try.func4, Try.ntmps4
    go_wp2_with fail
    rw [HW0.out]
    refine (awake9_calls W0).mono ?_
    rintro e w1 ⟨rfl, hb⟩
    have HB1 : Hid (Below W0.heap.size W0 w1) := hb
    clear hb
    obtain ⟨⟨g0, g1, gs⟩, _⟩ := HG.out w1 HB1.out
    go_wp2_with fail
    refine (HFW.out w1 HB1.out).mono ?_
    rintro e w2 ⟨rfl, hb⟩
    have HBZ : Hid (Below w.heap.size w w2) := (HG.out w2 (btr HB1.out hb)).2.2
    clear hb HB1 g0 g1 gs
    go_wp2
    go_ret
    exact ⟨rfl, HBZ.out⟩
  · have hfar2 : (200 : Int) < (m : Int) ∨ (¬ (200 : Int) < (m : Int) ∧ k < 0) ∨ (¬ (200 : Int) < (m : Int) ∧ ¬ k < 0 ∧ (m : Int) ≤ k) := by
      rcases hfar with h | h
      · cases h
      · omega
    clear hfar
    rcases hfar2 with h | ⟨h, h2⟩ | ⟨h, h2, h3⟩
    · go_enter Try.func4, Try.ntmps4
      go_wp2_with fail
      rw [HW0.out]
      refine (awake9_calls W0).mono ?_
      rintro e w1 ⟨rfl, hb⟩
      have HB1 : Hid (Below W0.heap.size W0 w1) := hb
      clear hb
      obtain ⟨⟨g0, g1, gs⟩, _⟩ := HG.out w1 HB1.out
      go_wp2_with fail
      refine (HFW.out w1 HB1.out).mono ?_
      rintro e w2 ⟨rfl, hb⟩
      have HBZ : Hid (Below w.heap.size w w2) := (HG.out w2 (btr HB1.out hb)).2.2
      clear hb HB1 g0 g1 gs
      go_wp2
      go_ret
      exact ⟨rfl, HBZ.out⟩
    · go_enter Try.func4, Try.ntmps4
      go_wp2_with fail
      rw [HW0.out]
      refine (awake9_calls W0).mono ?_
      rintro e w1 ⟨rfl, hb⟩
      have HB1 : Hid (Below W0.heap.size W0 w1) := hb
      clear hb
      obtain ⟨⟨g0, g1, gs⟩, _⟩ := HG.out w1 HB1.out
      go_wp2_with fail
      refine (HFW.out w1 HB1.out).mono ?_
      rintro e w2 ⟨rfl, hb⟩
      have HBZ : Hid (Below w.heap.size w w2) := (HG.out w2 (btr HB1.out hb)).2.2
      clear hb HB1 g0 g1 gs
      go_wp2
      go_ret
      exact ⟨rfl, HBZ.out⟩
    · go_enter Try.func4, Try.ntmps4
      go_wp2_with fail
      rw [HW0.out]
      refine (awake9_calls W0).mono ?_
      rintro e w1 ⟨rfl, hb⟩
      have HB1 : Hid (Below W0.heap.size W0 w1) := hb
      clear hb
      obtain ⟨⟨g0, g1, gs⟩, _⟩ := HG.out w1 HB1.out
      go_wp2_with fail
      refine (HFW.out w1 HB1.out).mono ?_
      rintro e w2 ⟨rfl, hb⟩
      have HBZ : Hid (Below w.heap.size w w2) := (HG.out w2 (btr HB1.out hb)).2.2
      clear hb HB1 g0 g1 gs
      go_wp2
      go_ret
      exact ⟨rfl, HBZ.out⟩
/-- the law, whatever the graph, the list and the number. -/
theorem joins9_calls (N : Int) (ao : Option Addr) (cap : Nat) (xs : List (Int × Int × Int)) (no : Option Addr) (nc : Nat) (l : List Int) (k : Int) (w : World) (hX : HasArcs w (.slice ao xs.length cap) xs) (hxl : xs.length ≤ maxLen) (hx : HasInts w (.slice no l.length nc) l) (hc : l.length ≤ nc) (hm : l.length * 8 ≤ 140737488351232) :
    Calls Try.prog 4 #[.agg #[.int .i64 N, .slice ao xs.length cap], .slice no l.length nc, .int .i64 k] w fun e w' => e = .returned (.bool true) ∧ Below w.heap.size w w' := by
  by_cases hfar : fewB N xs 25 = false ∨ 200 < l.length ∨ k < 0 ∨ (l.length : Int) ≤ k
  · exact joins9_far N ao cap xs no nc l.length k w hX hxl hm hfar
  · obtain ⟨h1, h2⟩ := not_or.1 hfar
    have hf : fewB N xs 25 = true := by simpa using h1
    obtain ⟨hg, hN, hx2⟩ := of_decide_eq_true hf
    obtain ⟨n, rfl⟩ := good_nat hg
    obtain ⟨j, rfl⟩ : ∃ j : Nat, k = (j : Int) := ⟨k.toNat, by omega⟩
    obtain ⟨q, hq⟩ : ∃ q, l.length = q + 1 := ⟨l.length - 1, by omega⟩
    obtain ⟨a, ha⟩ : ∃ a, l[0]? = some a := ⟨l[0], List.getElem?_eq_getElem (by omega)⟩
    obtain ⟨b, off, rfl, _, _⟩ := hx.at ha
    rw [hq] at hx hc h2 ⊢
    exact joins9_near n ao cap xs b off nc q j l w hX hg (by omega) hx2 hx hq hc (by omega) (by omega)

theorem Try.bytesI9 : Try.prog.bytesOf 3 = 8 := by kernel_rfl
/-- how a list of numbers reads. -/
def ReadsI {H : Type} (d : DataW H) (l : List Int) : Prop := l = [] ∨ ∃ el sp, d = .slice el sp ∧ el.length = l.length
set_option maxRecDepth 100000 in
theorem ints_open {H : Type} {enc : TypeId × Value → H} {W : World} {fuel : Nat} {g : Value} {y : DataW H × List MemPlace} (t1 : DataW.trod enc Try.prog W 0 (fun _ => true) true fuel 22 [g] = some y) :
    ∃ (ao : Option Addr) (cap : Nat) (l : List Int), g = .slice ao l.length cap ∧ HasInts W (.slice ao l.length cap) l ∧ ReadsI y.1 l ∧ l.length ≤ cap ∧ ∀ x ∈ l, (Lit.int .i64 x).wf = true := by
  rcases open_slice1 Try.underlying22 Try.cells3 t1 with ⟨hcs, _⟩ | ⟨a, len', cap', m, n, V, D, Pl, hcs, _, hl, hm, hmm, rfl, hx⟩
  · have e : g = .slice none 0 0 := by simpa using hcs
    subst e
    exact ⟨none, 0, [], rfl, ⟨none, 0, rfl, fun j q hj => by simp at hj⟩, Or.inl rfl, Nat.le_refl _, fun x hx => by cases hx⟩
  · have e : g = .slice (some a) len' cap' := by simpa using hcs
    subst e
    simp at hmm
    subst hmm
    have hq : ∀ i, i < len' → ∃ q : Int, W.cell? (a.add i) = some (.int .i64 q) ∧ (Lit.int .i64 q).wf = true := fun i hi => by
      obtain ⟨h1, h2⟩ := hx i (by omega)
      obtain ⟨x0, e0, _, e9⟩ := DataW.trod_int Try.underlying3 h2
      simp at e0
      rw [e0] at h1
      exact ⟨x0, h1, e9⟩
    obtain ⟨q, hq'⟩ := choose_lt hq
    have hlen : ((List.range len').map q).length = len' := by rw [List.length_map, List.length_range]
    refine ⟨some a, m, (List.range len').map q, by rw [hlen], ⟨some a, m, rfl, fun j r hj => ?_⟩, Or.inr ⟨_, _, rfl, by rw [List.length_map, List.length_range, hlen]⟩, by rw [hlen]; exact hl, fun x hx => by
      obtain ⟨j, hj, rfl⟩ := List.mem_map.1 hx
      exact (hq' j (List.mem_range.1 hj)).2⟩
    have hj' : j < len' := by
      have := (List.getElem?_eq_some_iff.1 hj).1
      rw [hlen] at this
      exact this
    have er : r = q j := by
      rw [List.getElem?_map, List.getElem?_range hj'] at hj
      exact (Option.some.inj hj).symm
    subst er
    have h0 := (hq' j hj').1
    obtain ⟨b, off, spot⟩ := a
    have hspot : spot = none := by
      have h00 := (hq' 0 (by omega)).1
      simpa [Addr.add] using World.cell?_spot h00
    subst hspot
    have e1 : (Addr.mk b off none).add j = ⟨b, off + j, none⟩ := add_plain _ _ _
    rw [e1] at h0
    refine ⟨b, off, rfl, ?_, h0⟩
    unfold World.cell? at h0
    rcases Nat.lt_or_ge b W.heap.size with h | h
    · exact h
    · simp [Array.getElem?_eq_none h] at h0
/-- a list takes no more than the form's reach. -/
theorem reach_ints {H : Type} {ts : List TypeId} {r : List (DataW H)} (hsz : (DataW.weightsEach Try.prog ts r).all (· ≤ reachBytes) = true) {j : Nat} {d : DataW H} {l : List Int} (ht : ts[j]? = some 22) (hd : r[j]? = some d) (hr : ReadsI d l) : l.length * 8 ≤ 140737488351232 := by
  rcases hr with rfl | ⟨el, sp, rfl, hl⟩
  · simp
  · have hm := List.all_eq_true.1 hsz _ (DataW.weights_mem_each (j := j) (t := 22) (d := .slice el sp) ht hd ((el.length + sp.length) * Try.prog.bytesOf 3) (by
      simp [DataW.weights, Try.underlying22]))
    have hm' : (el.length + sp.length) * Try.prog.bytesOf 3 ≤ reachBytes := by simpa using hm
    rw [Try.bytesI9] at hm'
    unfold reachBytes at hm'
    omega
set_option maxRecDepth 100000 in
theorem ints_open9 {H : Type} {enc : TypeId × Value → H} {W : World} {base : Nat} {v : Value} {d : DataW H} {p : List MemPlace} (hv : Value.okWide Try.prog W .any base 22 v) (h : DataW.Trod enc Try.prog W 0 (fun _ => true) true 22 v d p) :
    ∃ (ao : Option Addr) (cap : Nat) (l : List Int), v = .slice ao l.length cap ∧ HasInts W (.slice ao l.length cap) l ∧ ReadsI d l ∧ l.length ≤ cap ∧ ∀ x ∈ l, (Lit.int .i64 x).wf = true := by
  obtain ⟨a, len, cap, rfl⟩ := okWide_slice Try.underlying22 hv
  obtain ⟨fuel, hf⟩ := h
  have hf' : DataW.trod enc Try.prog W 0 (fun _ => true) true fuel 22 [.slice a len cap] = some (d, p) := hf
  exact ints_open hf'

set_option maxRecDepth 100000 in
theorem joins_lifted (os : Os) (started : os.Started) (H : Type) (enc : TypeId × Value → H) :
    ReturnsInHanded {} Try.checked os 4 .any (Rows.walkJoinsSpec.pre6 enc Try.prog Try.f4 Rows.walkJoinsRow.domain false) (Rows.walkJoinsSpec.post enc Try.prog Try.f4 false true false false) := by
  refine returnsInHanded_of_change_sized (C := Try.checked) Try.own started (by kernel_rfl) Try.func4
    (ChangeSpec.witness6 (enc := enc) (C := Try.checked) false ⟨#[], #[.agg #[.int .i64 0, .slice none 0 0], .slice none 0 0, .int .i64 0], []⟩ 8 (by kernel_rfl) (by kernel_rfl) (by kernel_rfl) (by kernel_rfl)) ?_
  intro W base args ds gs before hval0 hW _ hsz0 _
  have hval : ∀ (j : Nat) t v, Try.f4.params[j]? = some t → args[j]? = some v → Value.okWide Try.prog W .any base t v := hval0
  have hsz : (DataW.weightsEach Try.prog (Try.f4.params.toList ++ Rows.walkJoinsSpec.plain.varTypes Try.prog) (ds ++ gs)).all (· ≤ reachBytes) = true := hsz0
  have hW' := hW
  obtain ⟨p, q, hA0, hV, rfl, hfz, hnd⟩ := hW
  have hA : DataW.TrodAll enc Try.prog W 0 (fun _ => true) true Try.f4.params.toList args.toList ds p := hA0
  rw [Try.params4] at hA hval hsz
  obtain ⟨v0, vs0, d0, ds0, p0, q0, hargs, rfl, rfl, hr0, r0⟩ := trodAll_cons hA
  obtain ⟨v1, vs1, d1, ds1, p1, q1, rfl, rfl, rfl, hr1, r1⟩ := trodAll_cons r0
  obtain ⟨v2, vs2, d2, ds2, p2, q2, rfl, rfl, rfl, hr2, r2⟩ := trodAll_cons r1
  obtain ⟨rfl, rfl, rfl⟩ := trodAll_nil r2
  obtain rfl : args = #[v0, v1, v2] := by cases args; simp at hargs; simp [hargs]
  obtain ⟨rfl, rfl⟩ := trodVars_none hV
  obtain ⟨N, bo, cap, xs, rfl, hX, hxl⟩ := graph_open (hval 0 38 v0 rfl rfl) hr0
  obtain ⟨ao, ac, l, rfl, hx, rx, hc, _⟩ := ints_open9 (hval 1 22 v1 rfl rfl) hr1
  obtain ⟨k, rfl, _⟩ := open_int Try.underlying3 (hval 2 3 v2 rfl rfl) hr2
  refine (joins9_calls N bo cap xs ao ac l k W hX hxl hx hc (reach_ints hsz (j := 1) rfl rfl rx)).mono fun e W' ⟨he, hw⟩ => ?_
  subst he
  exact ⟨_, rfl, post_of_law hW' rfl (by kernel_rfl) rfl (by rw [Try.params4]; intro t ht; simp at ht; rcases ht with rfl | rfl | rfl <;> exact ⟨by kernel_rfl, of_decide_eq_true (by kernel_rfl)⟩) hw⟩

theorem joins_holds : Rows.WalkJoinsSaid :=
  OpenClaim.holds_of_wide 4 Try.f4 rfl rfl rfl rfl rfl rfl rfl ⟨rfl, rfl, rfl, rfl, rfl⟩ rfl rfl rfl rfl rfl (by kernel_rfl) Try.func4 (by kernel_rfl)
    (of_decide_eq_true (by kernel_rfl)) (by unfold Func.isWrapper; rw [if_neg (of_decide_eq_false (by kernel_rfl))]; exact ⟨rfl, rfl⟩)
    (fun os started H enc _ => joins_lifted os started H enc)
#print axioms joins_holds
end Go.Proofs.Ytdfjmfgbdnpkbaa
