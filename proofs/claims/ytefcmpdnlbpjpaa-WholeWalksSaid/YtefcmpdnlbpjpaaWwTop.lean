/- WholeWalks holds: for every graph, every list and all numbers s, m and t the law answers true and its arguments read as they did. No condition beside the row's own. -/
import Derived.Test.YtefcmpdnlbpjpaaOpen
import Derived.Test.YtefcmpdnlbpjpaaWwW
import Derived.SizedLaws
namespace Go.Proofs.Ytefcmpdnlbpjpaa
open Go.ChangeShapes Go.WideShapes Go.ChangeAt Go.RowKit Go.Deep Go.Extern

attribute [local go_sem] Oper.semAt_some

set_option maxRecDepth 100000 in
set_option maxHeartbeats 4000000 in
theorem walks_far (N : Int) (ao : Option Addr) (cap : Nat) (xs : List (Int × Int × Int)) (w : World) (hX : HasArcs w (.slice ao xs.length cap) xs) (hxl : xs.length ≤ maxLen) (lo : Option Addr) (lc lm : Nat) (s m t : Int) (hfar : (fewB N xs 10 && decide (xs.length ≤ 200)) = false ∨ 60 < lm) :
    Calls Try.prog 3 #[.agg #[.int .i64 N, .slice ao xs.length cap], .slice lo lm lc, .int .i64 s, .int .i64 m, .int .i64 t] w fun e w' => e = .returned (.bool true) ∧ Below w.heap.size w w' := by
  obtain ⟨W0, hW0⟩ : ∃ W0, w.alloc (.cells #[.int .i64 N, .slice ao xs.length cap] 24) = W0 := ⟨_, rfl⟩
  have HW0 : Hid (w.alloc (.cells #[.int .i64 N, .slice ao xs.length cap] 24) = W0) := hW0
  have hB0 : Below w.heap.size w W0 := by rw [← hW0]; exact (Below.refl _ w).alloc (Nat.le_refl _) _
  have hbx : W0.heap[w.heap.size]? = some (.cells #[.int .i64 N, .slice ao xs.length cap] 24) := by rw [← hW0]; exact heap_new _ _
  have HG : Hid (∀ wx, Below W0.heap.size W0 wx → (wx.cell? ⟨w.heap.size, 0, none⟩ = some (.int .i64 N) ∧ wx.cell? ⟨w.heap.size, 1, none⟩ = some (.slice ao xs.length cap) ∧ w.heap.size < wx.heap.size) ∧ HasArcs wx (.slice ao xs.length cap) xs ∧ Below w.heap.size w wx) := fun wx hwx => by
    have hgg := (hwx.block _ (lt_of_get hbx)).trans hbx
    have hb := hB0.trans (hwx.mono hB0.size)
    exact ⟨⟨(cell_two hgg).1, (cell_two hgg).2.1, lt_of_get hgg⟩, hX.keep hb, hb⟩
  have HSM : Hid (∀ wx, Below W0.heap.size W0 wx → Calls Try.prog 6 #[.agg #[.int .i64 N, .slice ao xs.length cap], .int .i64 10] wx fun e w' => e = .returned (.bool (fewB N xs 10 && decide (xs.length ≤ 200))) ∧ Below wx.heap.size wx w') := fun wx hwx => small_calls N ao cap xs wx (HG.out wx hwx).2.1 hxl
  have HF : Hid ((fewB N xs 10 && decide (xs.length ≤ 200)) = false ∨ 60 < lm) := hfar
  generalize (fewB N xs 10 && decide (xs.length ≤ 200)) = fb at *
  clear hW0 hB0 hbx hX hfar
  go_enter Try.func3, Try.ntmps3
  go_upto_region 1 with fail
  rw [HW0.out]
  have HTB : Hid (type_of% (two_build W0)) := two_build W0
  go_wp2_with fail
  refine HTB.out.mono ?_
  rintro e w1 ⟨F2, T2, V2, rfl, hC, hb⟩
  have hal := below1 w1 (.cells #[.slice (some ⟨F2, 0, none⟩) 3 3, .slice (some ⟨T2, 0, none⟩) 1 1, .slice (some ⟨V2, 0, none⟩) 1 1] 27)
  have H1 : Hid (Below W0.heap.size W0 (w1.alloc (.cells #[.slice (some ⟨F2, 0, none⟩) 3 3, .slice (some ⟨T2, 0, none⟩) 1 1, .slice (some ⟨V2, 0, none⟩) 1 1] 27)) ∧ CsrIn (w1.alloc (.cells #[.slice (some ⟨F2, 0, none⟩) 3 3, .slice (some ⟨T2, 0, none⟩) 1 1, .slice (some ⟨V2, 0, none⟩) 1 1] 27)) 2 Z2 (some ⟨F2, 0, none⟩) (some ⟨T2, 0, none⟩) (some ⟨V2, 0, none⟩) 3 1 1 ∧ (w1.alloc (.cells #[.slice (some ⟨F2, 0, none⟩) 3 3, .slice (some ⟨T2, 0, none⟩) 1 1, .slice (some ⟨V2, 0, none⟩) 1 1] 27)).heap[w1.heap.size]? = some (.cells #[.slice (some ⟨F2, 0, none⟩) 3 3, .slice (some ⟨T2, 0, none⟩) 1 1, .slice (some ⟨V2, 0, none⟩) 1 1] 27)) := ⟨btr hb hal, hC.keep hal, heap_new _ _⟩
  clear hb hC hal HTB
  go_upto_region 2 with fail
  generalize w1.alloc (.cells #[.slice (some ⟨F2, 0, none⟩) 3 3, .slice (some ⟨T2, 0, none⟩) 1 1, .slice (some ⟨V2, 0, none⟩) 1 1] 27) = w2 at *
  generalize w1.heap.size = tb at *
  obtain ⟨x0, x1, x2⟩ := box3 H1.out.2.2
  have xl := lt_of_get H1.out.2.2
  have HTL : Hid (type_of% (two_length F2 T2 V2 w2 H1.out.2.1)) := two_length F2 T2 V2 w2 H1.out.2.1
  go_wp2_with fail
  refine HTL.out.mono ?_
  rintro e w3 ⟨rfl, hb⟩
  have H3 : Hid (Below W0.heap.size W0 w3) := btr H1.out.1 hb
  clear hb x0 x1 x2 xl HTL H1
  obtain ⟨⟨g0, g1, gs⟩, _⟩ := HG.out w3 H3.out
  go_wp2_with fail
  refine (HSM.out w3 H3.out).mono ?_
  rintro e w4 ⟨rfl, hb⟩
  have HBZ : Hid (Below w.heap.size w w4) := (HG.out w4 (btr H3.out hb)).2.2
  clear hb g0 g1 gs
  cases fb with
  | false =>
    go_wp2
    go_ret
    exact ⟨rfl, HBZ.out⟩
  | true =>
    have h60 : 60 < lm := HF.out.resolve_left (by simp)
    have h61 : (60 : Int) < (lm : Int) := by omega
    have h62 : decide ((60 : Int) < (lm : Int)) = true := decide_eq_true h61
    have h63 : decide (60 < lm) = true := decide_eq_true h60
    go_wp2
    go_ret
    exact ⟨rfl, HBZ.out⟩
/-- the law, whatever the graph, the list and the numbers. -/
theorem walks_calls (N : Int) (ao : Option Addr) (cap : Nat) (xs : List (Int × Int × Int)) (lo : Option Addr) (lc : Nat) (l : List Int) (s m t : Int) (w : World) (hX : HasArcs w (.slice ao xs.length cap) xs) (hxl : xs.length ≤ maxLen) (hx : HasInts w (.slice lo l.length lc) l) (hno : lo = none → lc = 0) :
    Calls Try.prog 3 #[.agg #[.int .i64 N, .slice ao xs.length cap], .slice lo l.length lc, .int .i64 s, .int .i64 m, .int .i64 t] w fun e w' => e = .returned (.bool true) ∧ Below w.heap.size w w' := by
  by_cases hfar : (fewB N xs 10 && decide (xs.length ≤ 200)) = false ∨ 60 < l.length
  · exact walks_far N ao cap xs w hX hxl lo lc l.length s m t hfar
  · obtain ⟨h1, h2⟩ := not_or.1 hfar
    have hb : (fewB N xs 10 && decide (xs.length ≤ 200)) = true := by simpa using h1
    rw [Bool.and_eq_true] at hb
    obtain ⟨hg, hN, _⟩ := of_decide_eq_true hb.1
    have hx2 := of_decide_eq_true hb.2
    have hN0 := ((good_iff _ _).1 hg).1
    obtain ⟨n, rfl⟩ : ∃ n : Nat, N = (n : Int) := ⟨N.toNat, by omega⟩
    exact walks_near n ao cap xs w hX hg (by omega) hx2 lo lc l hx (by omega) hno s m t

theorem Try.bytesI9 : Try.prog.bytesOf 3 = 8 := by kernel_rfl
/-- how a list of numbers reads. -/
def ReadsI {H : Type} (d : DataW H) (l : List Int) : Prop := l = [] ∨ ∃ el sp, d = .slice el sp ∧ el.length = l.length
set_option maxRecDepth 100000 in
theorem ints_open {H : Type} {enc : TypeId × Value → H} {W : World} {fuel : Nat} {g : Value} {y : DataW H × List MemPlace} (t1 : DataW.trod enc Try.prog W 0 (fun _ => true) true fuel 25 [g] = some y) :
    ∃ (ao : Option Addr) (cap : Nat) (l : List Int), g = .slice ao l.length cap ∧ HasInts W (.slice ao l.length cap) l ∧ ReadsI y.1 l ∧ l.length ≤ cap ∧ (∀ x ∈ l, (Lit.int .i64 x).wf = true) ∧ (ao = none → cap = 0) := by
  rcases open_slice1 Try.underlying25 Try.cells3 t1 with ⟨hcs, _⟩ | ⟨a, len', cap', m, n, V, D, Pl, hcs, _, hl, hm, hmm, rfl, hx⟩
  · have e : g = .slice none 0 0 := by simpa using hcs
    subst e
    exact ⟨none, 0, [], rfl, ⟨none, 0, rfl, fun j q hj => by simp at hj⟩, Or.inl rfl, Nat.le_refl _, (fun x hx => by cases hx), fun _ => rfl⟩
  · have e : g = .slice (some a) len' cap' := by simpa using hcs
    subst e
    simp at hmm
    subst hmm
    have hq : ∀ i, i < len' → ∃ q : Int, W.cell? (a.add i) = some (.int .i64 q) ∧ (Lit.int .i64 q).wf = true := fun i hi => by
      obtain ⟨h1, h2⟩ := hx i (by omega)
      obtain ⟨x0, e0, _, e9⟩ := DataW.trod_int Try.underlying3 h2
      simp at e0
      rw [e0] at h1
      exact ⟨x0, h1, e9⟩
    obtain ⟨q, hq'⟩ := choose_lt hq
    have hlen : ((List.range len').map q).length = len' := by rw [List.length_map, List.length_range]
    refine ⟨some a, m, (List.range len').map q, by rw [hlen], ⟨some a, m, rfl, fun j r hj => ?_⟩, Or.inr ⟨_, _, rfl, by rw [List.length_map, List.length_range, hlen]⟩, by rw [hlen]; exact hl, (fun x hx => by
      obtain ⟨j, hj, rfl⟩ := List.mem_map.1 hx
      exact (hq' j (List.mem_range.1 hj)).2), fun h => by cases h⟩
    have hj' : j < len' := by
      have := (List.getElem?_eq_some_iff.1 hj).1
      rw [hlen] at this
      exact this
    have er : r = q j := by
      rw [List.getElem?_map, List.getElem?_range hj'] at hj
      exact (Option.some.inj hj).symm
    subst er
    have h0 := (hq' j hj').1
    obtain ⟨b, off, spot⟩ := a
    have hspot : spot = none := by
      have h00 := (hq' 0 (by omega)).1
      simpa [Addr.add] using World.cell?_spot h00
    subst hspot
    have e1 : (Addr.mk b off none).add j = ⟨b, off + j, none⟩ := add_plain _ _ _
    rw [e1] at h0
    refine ⟨b, off, rfl, ?_, h0⟩
    unfold World.cell? at h0
    rcases Nat.lt_or_ge b W.heap.size with h | h
    · exact h
    · simp [Array.getElem?_eq_none h] at h0
/-- a list takes no more than the form's reach. -/
theorem reach_ints {H : Type} {ts : List TypeId} {r : List (DataW H)} (hsz : (DataW.weightsEach Try.prog ts r).all (· ≤ reachBytes) = true) {j : Nat} {d : DataW H} {l : List Int} (ht : ts[j]? = some 25) (hd : r[j]? = some d) (hr : ReadsI d l) : l.length * 8 ≤ 140737488351232 := by
  rcases hr with rfl | ⟨el, sp, rfl, hl⟩
  · simp
  · have hm := List.all_eq_true.1 hsz _ (DataW.weights_mem_each (j := j) (t := 25) (d := .slice el sp) ht hd ((el.length + sp.length) * Try.prog.bytesOf 3) (by
      simp [DataW.weights, Try.underlying25]))
    have hm' : (el.length + sp.length) * Try.prog.bytesOf 3 ≤ reachBytes := by simpa using hm
    rw [Try.bytesI9] at hm'
    unfold reachBytes at hm'
    omega
set_option maxRecDepth 100000 in
theorem ints_open9 {H : Type} {enc : TypeId × Value → H} {W : World} {base : Nat} {v : Value} {d : DataW H} {p : List MemPlace} (hv : Value.okWide Try.prog W .any base 25 v) (h : DataW.Trod enc Try.prog W 0 (fun _ => true) true 25 v d p) :
    ∃ (ao : Option Addr) (cap : Nat) (l : List Int), v = .slice ao l.length cap ∧ HasInts W (.slice ao l.length cap) l ∧ ReadsI d l ∧ l.length ≤ cap ∧ (∀ x ∈ l, (Lit.int .i64 x).wf = true) ∧ (ao = none → cap = 0) := by
  obtain ⟨a, len, cap, rfl⟩ := okWide_slice Try.underlying25 hv
  obtain ⟨fuel, hf⟩ := h
  have hf' : DataW.trod enc Try.prog W 0 (fun _ => true) true fuel 25 [.slice a len cap] = some (d, p) := hf
  exact ints_open hf'

set_option maxRecDepth 100000 in
theorem walks_lifted (os : Os) (started : os.Started) (H : Type) (enc : TypeId × Value → H) :
    ReturnsInHanded {} Try.checked os 3 .any (Rows.wholeWalksSpec.pre6 enc Try.prog Try.f3 Rows.wholeWalksRow.domain false) (Rows.wholeWalksSpec.post enc Try.prog Try.f3 false true false false) := by
  refine returnsInHanded_of_change_sized (C := Try.checked) Try.own started (by kernel_rfl) Try.func3
    (ChangeSpec.witness6 (enc := enc) (C := Try.checked) false ⟨#[], #[.agg #[.int .i64 0, .slice none 0 0], .slice none 0 0, .int .i64 0, .int .i64 0, .int .i64 0], []⟩ 8 (by kernel_rfl) (by kernel_rfl) (by kernel_rfl) (by kernel_rfl)) ?_
  intro W base args ds gs before hval0 hW _ hsz0 _
  have hval : ∀ (j : Nat) t v, Try.f3.params[j]? = some t → args[j]? = some v → Value.okWide Try.prog W .any base t v := hval0
  have hW' := hW
  obtain ⟨p, q, hA0, hV, rfl, hfz, hnd⟩ := hW
  have hA : DataW.TrodAll enc Try.prog W 0 (fun _ => true) true Try.f3.params.toList args.toList ds p := hA0
  rw [Try.params3] at hA hval
  obtain ⟨v0, vs0, d0, ds0, p0, q0, hargs, rfl, rfl, hr0, r0⟩ := trodAll_cons hA
  obtain ⟨v1, vs1, d1, ds1, p1, q1, rfl, rfl, rfl, hr1, r1⟩ := trodAll_cons r0
  obtain ⟨v2, vs2, d2, ds2, p2, q2, rfl, rfl, rfl, hr2, r2⟩ := trodAll_cons r1
  obtain ⟨v3, vs3, d3, ds3, p3, q3, rfl, rfl, rfl, hr3, r3⟩ := trodAll_cons r2
  obtain ⟨v4, vs4, d4, ds4, p4, q4, rfl, rfl, rfl, hr4, r4⟩ := trodAll_cons r3
  obtain ⟨rfl, rfl, rfl⟩ := trodAll_nil r4
  obtain rfl : args = #[v0, v1, v2, v3, v4] := by cases args; simp at hargs; simp [hargs]
  obtain ⟨rfl, rfl⟩ := trodVars_none hV
  obtain ⟨N, bo, cap, xs, rfl, hX, hxl⟩ := graph_open (hval 0 24 v0 rfl rfl) hr0
  obtain ⟨ao, ac, l, rfl, hx, _, _, _, hno⟩ := ints_open9 (hval 1 25 v1 rfl rfl) hr1
  obtain ⟨s, rfl, _⟩ := open_int Try.underlying3 (hval 2 3 v2 rfl rfl) hr2
  obtain ⟨m, rfl, _⟩ := open_int Try.underlying3 (hval 3 3 v3 rfl rfl) hr3
  obtain ⟨t, rfl, _⟩ := open_int Try.underlying3 (hval 4 3 v4 rfl rfl) hr4
  refine (walks_calls N bo cap xs ao ac l s m t W hX hxl hx hno).mono fun e W' ⟨he, hw⟩ => ?_
  subst he
  exact ⟨_, rfl, post_of_law hW' rfl (by kernel_rfl) rfl (by rw [Try.params3]; intro t ht; simp at ht; rcases ht with rfl | rfl | rfl <;> exact ⟨by kernel_rfl, of_decide_eq_true (by kernel_rfl)⟩) hw⟩

theorem walks_holds : Rows.WholeWalksSaid :=
  OpenClaim.holds_of_wide 3 Try.f3 rfl rfl rfl rfl rfl rfl rfl ⟨rfl, rfl, rfl, rfl, rfl⟩ rfl rfl rfl rfl rfl (by kernel_rfl) Try.func3 (by kernel_rfl)
    (of_decide_eq_true (by kernel_rfl)) (by unfold Func.isWrapper; rw [if_neg (of_decide_eq_false (by kernel_rfl))]; exact ⟨rfl, rfl⟩)
    (fun os started H enc _ => walks_lifted os started H enc)
#print axioms walks_holds
end Go.Proofs.Ytefcmpdnlbpjpaa
