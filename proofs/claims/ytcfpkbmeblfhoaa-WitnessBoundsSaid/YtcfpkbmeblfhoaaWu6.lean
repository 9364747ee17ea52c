/- Bounds, both; the law. -/
import Derived.Test.YtcfpkbmeblfhoaaWu5
import Derived.Test.YtcfpkbmeblfhoaaOpen
import Derived.SizedLaws
import Derived.BigQuiet
namespace Go.Proofs.Ytcfpkbmeblfhoaa.Wt
open Go Go.ChangeShapes Go.WideShapes Go.ChangeAt Go.RowKit Go.Deep Go.Extern

attribute [local go_sem] Oper.semAt_some

set_option maxHeartbeats 1000000 in
theorem wbound_calls (n : Int) (w : World) : Calls Try.prog 11 #[.int .i64 n] w fun e w' => e = .returned (.int .i64 (min (max n 0) 1048576)) ∧ w' = w := by
  go_enter Try.func11, Try.ntmps11
  go_wp2
  go_ret
  exact ⟨rfl, rfl⟩
set_option maxHeartbeats 1000000 in
theorem rbound_calls (n : Int) (w : World) : Calls Try.prog 12 #[.int .i64 n] w fun e w' => e = .returned (.int .i64 (min (max n 0) 1048576)) ∧ w' = w := by
  go_enter Try.func12, Try.ntmps12
  go_wp2
  go_ret
  exact ⟨rfl, rfl⟩
/-- options in a box. -/
def optObj (a b c d e : Int) : Obj := .cells #[.int .i64 a, .int .i64 b, .int .i64 c, .int .i64 d, .int .i64 e] 23 (0, 0)
theorem opt_cells {w : World} {X : Nat} {a b c d e : Int} (h : w.heap[X]? = some (optObj a b c d e)) : w.cell? ⟨X, 0, none⟩ = some (.int .i64 a) ∧ w.cell? ⟨X, 1, none⟩ = some (.int .i64 b) ∧ X < w.heap.size := by
  have hl := lt_of_get h
  unfold optObj at h
  refine ⟨?_, ?_, hl⟩ <;> simp [World.cell?, h]
theorem opt_all {w : World} {X : Nat} {a b c d e : Int} (h : w.heap[X]? = some (optObj a b c d e)) : w.cell? ⟨X, 2, none⟩ = some (.int .i64 c) ∧ w.cell? ⟨X, 3, none⟩ = some (.int .i64 d) ∧ w.cell? ⟨X, 4, none⟩ = some (.int .i64 e) := by
  unfold optObj at h
  refine ⟨?_, ?_, ?_⟩ <;> simp [World.cell?, h]

set_option maxRecDepth 100000 in
set_option maxHeartbeats 2000000 in
theorem wbounds_calls (a b c d e : Int) (w : World) : Calls Try.prog 5 #[.agg #[.int .i64 a, .int .i64 b, .int .i64 c, .int .i64 d, .int .i64 e]] w fun en w' => en = .returned (.tuple #[.int .i64 (min (max a 0) 1048576), .int .i64 (min (max b 0) 1048576)]) ∧ Below w.heap.size w w' := by
  obtain ⟨W0, hW0⟩ : ∃ W0, w.alloc (optObj a b c d e) = W0 := ⟨_, rfl⟩
  have HW0 : Hid (w.alloc (.cells #[.int .i64 a, .int .i64 b, .int .i64 c, .int .i64 d, .int .i64 e] 23) = W0) := hW0
  have hB0 : Below w.heap.size w W0 := by rw [← hW0]; exact (Below.refl _ w).alloc (Nat.le_refl _) _
  have k1 : W0.heap[w.heap.size]? = some (optObj a b c d e) := by rw [← hW0]; exact heap_new _ _
  obtain ⟨c0, c1, cs⟩ := opt_cells k1
  have HB : Hid (Below w.heap.size w W0) := hB0
  have HA : Hid (∀ wx, Calls Try.prog 11 #[.int .i64 a] wx fun e w' => e = .returned (.int .i64 (min (max a 0) 1048576)) ∧ w' = wx) := fun wx => wbound_calls a wx
  have HC : Hid (∀ wx, Calls Try.prog 11 #[.int .i64 b] wx fun e w' => e = .returned (.int .i64 (min (max b 0) 1048576)) ∧ w' = wx) := fun wx => wbound_calls b wx
  generalize min (max a 0) 1048576 = a1 at *
  generalize min (max b 0) 1048576 = b1 at *
  clear hW0 hB0 k1
  go_enter Try.func5, Try.ntmps5
  go_wp2_with fail
  rw [HW0.out]
  go_quiet (first | (go_at_call 11; exact Calls.quiet_of_same (HA.out _)) | (go_at_call 11; exact Calls.quiet_of_same (HC.out _)))
  have HZ : Hid (Below w.heap.size w (W0.drewN nq)) := below_drewN HB.out nq
  go_wp2
  go_ret2
  exact ⟨rfl, HZ.out⟩

set_option maxRecDepth 100000 in
set_option maxHeartbeats 2000000 in
theorem rbounds_calls (a b c d e : Int) (w : World) : Calls Try.prog 6 #[.agg #[.int .i64 a, .int .i64 b, .int .i64 c, .int .i64 d, .int .i64 e]] w fun en w' => en = .returned (.tuple #[.int .i64 (min (max a 0) 1048576), .int .i64 (min (max b 0) 1048576)]) ∧ Below w.heap.size w w' := by
  obtain ⟨W0, hW0⟩ : ∃ W0, w.alloc (optObj a b c d e) = W0 := ⟨_, rfl⟩
  have HW0 : Hid (w.alloc (.cells #[.int .i64 a, .int .i64 b, .int .i64 c, .int .i64 d, .int .i64 e] 23) = W0) := hW0
  have hB0 : Below w.heap.size w W0 := by rw [← hW0]; exact (Below.refl _ w).alloc (Nat.le_refl _) _
  have k1 : W0.heap[w.heap.size]? = some (optObj a b c d e) := by rw [← hW0]; exact heap_new _ _
  obtain ⟨c0, c1, cs⟩ := opt_cells k1
  have HB : Hid (Below w.heap.size w W0) := hB0
  have HA : Hid (∀ wx, Calls Try.prog 12 #[.int .i64 a] wx fun e w' => e = .returned (.int .i64 (min (max a 0) 1048576)) ∧ w' = wx) := fun wx => rbound_calls a wx
  have HC : Hid (∀ wx, Calls Try.prog 12 #[.int .i64 b] wx fun e w' => e = .returned (.int .i64 (min (max b 0) 1048576)) ∧ w' = wx) := fun wx => rbound_calls b wx
  generalize min (max a 0) 1048576 = a1 at *
  generalize min (max b 0) 1048576 = b1 at *
  clear hW0 hB0 k1
  go_enter Try.func6, Try.ntmps6
  go_wp2_with fail
  rw [HW0.out]
  go_quiet (first | (go_at_call 12; exact Calls.quiet_of_same (HA.out _)) | (go_at_call 12; exact Calls.quiet_of_same (HC.out _)))
  have HZ : Hid (Below w.heap.size w (W0.drewN nq)) := below_drewN HB.out nq
  go_wp2
  go_ret2
  exact ⟨rfl, HZ.out⟩

set_option maxRecDepth 100000 in
set_option maxHeartbeats 4000000 in
theorem bounds_calls (a b c d e : Int) (w : World) : Calls Try.prog 3 #[.agg #[.int .i64 a, .int .i64 b, .int .i64 c, .int .i64 d, .int .i64 e]] w fun en w' => en = .returned (.bool true) ∧ Below w.heap.size w w' := by
  obtain ⟨W0, hW0⟩ : ∃ W0, w.alloc (optObj a b c d e) = W0 := ⟨_, rfl⟩
  have HW0 : Hid (w.alloc (.cells #[.int .i64 a, .int .i64 b, .int .i64 c, .int .i64 d, .int .i64 e] 23) = W0) := hW0
  have hB0 : Below w.heap.size w W0 := by rw [← hW0]; exact (Below.refl _ w).alloc (Nat.le_refl _) _
  have k1 : W0.heap[w.heap.size]? = some (optObj a b c d e) := by rw [← hW0]; exact heap_new _ _
  have HK : Hid (∀ wx, Below W0.heap.size W0 wx → wx.heap[w.heap.size]? = some (optObj a b c d e) ∧ Below w.heap.size w wx) := fun wx hx => ⟨(hx.block _ (lt_of_get k1)).trans k1, hB0.trans (hx.mono hB0.size)⟩
  have HAW : Hid (type_of% (awake12_calls W0)) := awake12_calls W0
  clear hW0 hB0 k1
  go_enter Try.func3, Try.ntmps3
  go_wp2_with fail
  rw [HW0.out]
  refine HAW.out.mono ?_
  rintro en w1 ⟨rfl, hb1⟩
  have H1 : Hid (Below W0.heap.size W0 w1) := hb1
  obtain ⟨c0, c1, cs⟩ := opt_cells (HK.out w1 hb1).1
  obtain ⟨c2, c3, c4⟩ := opt_all (HK.out w1 hb1).1
  clear hb1
  have HX : Hid (type_of% (wbounds_calls a b c d e w1)) := wbounds_calls a b c d e w1
  go_wp2_with fail
  refine HX.out.mono ?_
  rintro en w2 ⟨rfl, hb2⟩
  have H2 : Hid (Below W0.heap.size W0 w2) := H1.out.trans (hb2.mono H1.out.size)
  clear hb2 c0 c1 cs c2 c3 c4 HX
  obtain ⟨c0, c1, cs⟩ := opt_cells (HK.out w2 H2.out).1
  obtain ⟨c2, c3, c4⟩ := opt_all (HK.out w2 H2.out).1
  have HY : Hid (type_of% (rbounds_calls a b c d e w2)) := rbounds_calls a b c d e w2
  generalize min (max a 0) 1048576 = a1 at *
  generalize min (max b 0) 1048576 = b1 at *
  go_wp2_with fail
  refine HY.out.mono ?_
  rintro en w3 ⟨rfl, hb3⟩
  have H3 : Hid (Below W0.heap.size W0 w3) := H2.out.trans (hb3.mono H2.out.size)
  clear hb3 c0 c1 cs c2 c3 c4 HY
  go_wp2
  go_ret
  exact ⟨by simp, (HK.out w3 H3.out).2⟩
theorem struct5 {P : Program} {H : Type} {enc : TypeId × Value → H} {t : TypeId} {f0 f1 f2 f3 f4 : Field} {W : World} {fuel : Nat} {cs : List Value} {x : DataW H × List MemPlace} (ht : P.underlying t = some (.struct #[f0, f1, f2, f3, f4])) (h : DataW.trod enc P W 0 (fun _ => true) true fuel t cs = some x) :
    ∃ y0 y1 y2 y3 y4 n, DataW.trod enc P W 0 (fun _ => true) true n f0.type ((cs.drop f0.offset).take (P.cellsOf f0.type)) = some y0 ∧
      DataW.trod enc P W 0 (fun _ => true) true n f1.type ((cs.drop f1.offset).take (P.cellsOf f1.type)) = some y1 ∧ DataW.trod enc P W 0 (fun _ => true) true n f2.type ((cs.drop f2.offset).take (P.cellsOf f2.type)) = some y2 ∧
      DataW.trod enc P W 0 (fun _ => true) true n f3.type ((cs.drop f3.offset).take (P.cellsOf f3.type)) = some y3 ∧ DataW.trod enc P W 0 (fun _ => true) true n f4.type ((cs.drop f4.offset).take (P.cellsOf f4.type)) = some y4 := by
  obtain ⟨xs, n, _, rfl, hl, hlen, hf⟩ := DataW.trod_struct ht h
  match xs, hlen with
  | [y0, y1, y2, y3, y4], _ => exact ⟨y0, y1, y2, y3, y4, n, by simpa using hf 0 f0 rfl, by simpa using hf 1 f1 rfl, by simpa using hf 2 f2 rfl, by simpa using hf 3 f3 rfl, by simpa using hf 4 f4 rfl⟩
theorem cellsOpt : Try.prog.cellsOf 23 = 5 := by kernel_rfl
theorem cellsWI : Try.prog.cellsOf 3 = 1 := by kernel_rfl
set_option maxRecDepth 100000 in
theorem opts_open {H : Type} {enc : TypeId × Value → H} {W : World} {base : Nat} {v : Value} {d : DataW H} {p : List MemPlace} (hv : Value.okWide Try.prog W .any base 23 v) (h : DataW.Trod enc Try.prog W 0 (fun _ => true) true 23 v d p) :
    ∃ a b c d e : Int, v = .agg #[.int .i64 a, .int .i64 b, .int .i64 c, .int .i64 d, .int .i64 e] := by
  obtain ⟨cs, rfl, hsz⟩ := okWide_struct Try.underlying23 hv
  rw [cellsOpt] at hsz
  obtain ⟨g0, g1, g2, g3, g4, rfl⟩ : ∃ g0 g1 g2 g3 g4, cs = #[g0, g1, g2, g3, g4] := by
    obtain ⟨l⟩ := cs
    match l, hsz with
    | [g0, g1, g2, g3, g4], _ => exact ⟨g0, g1, g2, g3, g4, rfl⟩
  obtain ⟨fuel, hf⟩ := h
  have hf' : DataW.trod enc Try.prog W 0 (fun _ => true) true fuel 23 [g0, g1, g2, g3, g4] = some (d, p) := hf
  obtain ⟨y0, y1, y2, y3, y4, m, t0, t1, t2, t3, t4⟩ := struct5 Try.underlying23 hf'
  rw [cellsWI] at t0 t1 t2 t3 t4
  obtain ⟨x0, e0, _, _⟩ := DataW.trod_int Try.underlying3 t0
  obtain ⟨x1, e1, _, _⟩ := DataW.trod_int Try.underlying3 t1
  obtain ⟨x2, e2, _, _⟩ := DataW.trod_int Try.underlying3 t2
  obtain ⟨x3, e3, _, _⟩ := DataW.trod_int Try.underlying3 t3
  obtain ⟨x4, e4, _, _⟩ := DataW.trod_int Try.underlying3 t4
  simp at e0 e1 e2 e3 e4
  subst e0 e1 e2 e3 e4
  exact ⟨x0, x1, x2, x3, x4, rfl⟩

set_option maxRecDepth 100000 in
theorem bounds_lifted (os : Os) (started : os.Started) (H : Type) (enc : TypeId × Value → H) :
    ReturnsInHanded {} Try.checked os 3 .any (Rows.witnessBoundsSpec.pre6 enc Try.prog Try.f3 Rows.witnessBoundsRow.domain false) (Rows.witnessBoundsSpec.post enc Try.prog Try.f3 false true false false) := by
  refine returnsInHanded_of_change_sized (C := Try.checked) Try.own started (by kernel_rfl) Try.func3
    (ChangeSpec.witness6 (enc := enc) (C := Try.checked) false ⟨#[], #[.agg #[.int .i64 0, .int .i64 0, .int .i64 0, .int .i64 0, .int .i64 0]], []⟩ 8 (by kernel_rfl) (by kernel_rfl) (by kernel_rfl) (by kernel_rfl)) ?_
  intro W base args ds gs before hval0 hW _ hsz0 _
  have hval : ∀ (j : Nat) t v, Try.f3.params[j]? = some t → args[j]? = some v → Value.okWide Try.prog W .any base t v := hval0
  have hW' := hW
  obtain ⟨p, q, hA0, hV, rfl, hfz, hnd⟩ := hW
  have hA : DataW.TrodAll enc Try.prog W 0 (fun _ => true) true Try.f3.params.toList args.toList ds p := hA0
  rw [Try.params3] at hA hval
  obtain ⟨v0, vs0, d0, ds0, p0, q0, hargs, rfl, rfl, hr0, r0⟩ := trodAll_cons hA
  obtain ⟨rfl, rfl, rfl⟩ := trodAll_nil r0
  obtain rfl : args = #[v0] := by cases args; simp at hargs; simp [hargs]
  obtain ⟨rfl, rfl⟩ := trodVars_none hV
  obtain ⟨a, b, c, d, e, rfl⟩ := opts_open (hval 0 23 v0 rfl rfl) hr0
  refine (bounds_calls a b c d e W).mono fun e W' ⟨he, hw⟩ => ?_
  subst he
  exact ⟨_, rfl, post_of_law hW' rfl (by kernel_rfl) rfl (by rw [Try.params3]; intro t ht; simp at ht; rcases ht with rfl; exact ⟨by kernel_rfl, of_decide_eq_true (by kernel_rfl)⟩) hw⟩
end Go.Proofs.Ytcfpkbmeblfhoaa.Wt
namespace Go.Proofs.Ytcfpkbmeblfhoaa
open Go Go.ChangeShapes Go.WideShapes Go.ChangeAt Go.RowKit Go.Deep Go.Extern Wt

theorem witnessBounds_holds : Rows.WitnessBoundsSaid :=
  OpenClaim.holds_of_wide 3 Try.f3 rfl rfl rfl rfl rfl rfl rfl ⟨rfl, rfl, rfl, rfl, rfl⟩ rfl rfl rfl rfl rfl (by kernel_rfl) Try.func3 (by kernel_rfl)
    (of_decide_eq_true (by kernel_rfl)) (by unfold Func.isWrapper; rw [if_neg (of_decide_eq_false (by kernel_rfl))]; exact ⟨rfl, rfl⟩)
    (fun os started H enc _ => bounds_lifted os started H enc)
#print axioms witnessBounds_holds
end Go.Proofs.Ytcfpkbmeblfhoaa
