/- OverlayKeeps holds: for every graph and every list of calls the law answers true and its arguments read as they did. No condition beside the row's own. -/
import Derived.Test.YtpaamcapopnhoaaOpen
import Derived.Test.YtpaamcapopnhoaaOwI
import Derived.SizedLaws
namespace Go.Proofs.Ytpaamcapopnhoaa
open Go.ChangeShapes Go.WideShapes Go.ChangeAt Go.RowKit Go.Deep Go.Extern

attribute [local go_sem] Oper.semAt_some

set_option maxRecDepth 100000 in
set_option maxHeartbeats 4000000 in
theorem keeps_far (N : Int) (ao : Option Addr) (cap : Nat) (xs : List (Int × Int × Int)) (w : World) (hX : HasArcs w (.slice ao xs.length cap) xs) (hxl : xs.length ≤ maxLen) (oo : Option Addr) (oc lm : Nat) (hfar : fewB N xs 12 = false ∨ 60 < lm) :
    Calls Try.prog 4 #[.agg #[.int .i64 N, .slice ao xs.length cap], .slice oo lm oc] w fun e w' => e = .returned (.bool true) ∧ Below w.heap.size w w' := by
  obtain ⟨W0, hW0⟩ : ∃ W0, w.alloc (.cells #[.int .i64 N, .slice ao xs.length cap] 24) = W0 := ⟨_, rfl⟩
  have HW0 : Hid (w.alloc (.cells #[.int .i64 N, .slice ao xs.length cap] 24) = W0) := hW0
  have hB0 : Below w.heap.size w W0 := by rw [← hW0]; exact (Below.refl _ w).alloc (Nat.le_refl _) _
  have hbx : W0.heap[w.heap.size]? = some (.cells #[.int .i64 N, .slice ao xs.length cap] 24) := by rw [← hW0]; exact heap_new _ _
  have HG : Hid (∀ wx, Below W0.heap.size W0 wx → (wx.cell? ⟨w.heap.size, 0, none⟩ = some (.int .i64 N) ∧ wx.cell? ⟨w.heap.size, 1, none⟩ = some (.slice ao xs.length cap) ∧ w.heap.size < wx.heap.size) ∧ HasArcs wx (.slice ao xs.length cap) xs ∧ Below w.heap.size w wx) := fun wx hwx => by
    have hgg := (hwx.block _ (lt_of_get hbx)).trans hbx
    have hb := hB0.trans (hwx.mono hB0.size)
    exact ⟨⟨(cell_two hgg).1, (cell_two hgg).2.1, lt_of_get hgg⟩, hX.keep hb, hb⟩
  have HAW : Hid (type_of% (awake11_calls W0)) := awake11_calls W0
  have HFW : Hid (∀ wx, Below W0.heap.size W0 wx → Calls Try.prog 7 #[.agg #[.int .i64 N, .slice ao xs.length cap], .int .i64 12] wx fun e w' => e = .returned (.bool (fewB N xs 12)) ∧ Below wx.heap.size wx w') := fun wx hwx => few_calls N ao cap xs 12 wx (HG.out wx hwx).2.1 hxl
  have HF : Hid (fewB N xs 12 = false ∨ 60 < lm) := hfar
  generalize fewB N xs 12 = fb at *
  clear hW0 hB0 hbx hX hfar
  go_enter Try.func4, Try.ntmps4
  go_wp2_with fail
  rw [HW0.out]
  refine HAW.out.mono ?_
  rintro e w1 ⟨rfl, hb1⟩
  have HB1 : Hid (Below W0.heap.size W0 w1) := hb1
  obtain ⟨⟨g0, g1, gs⟩, _⟩ := HG.out w1 hb1
  clear hb1
  go_wp2_with fail
  refine (HFW.out w1 HB1.out).mono ?_
  rintro e w2 ⟨rfl, hb2⟩
  have HBZ : Hid (Below w.heap.size w w2) := (HG.out w2 (HB1.out.trans (hb2.mono HB1.out.size))).2.2
  clear hb2 g0 g1 gs
  cases fb with
  | false =>
    go_wp2
    go_ret
    exact ⟨rfl, HBZ.out⟩
  | true =>
    have h60 : 60 < lm := HF.out.resolve_left (by simp)
    have h61 : (60 : Int) < (lm : Int) := by omega
    have h62 : decide ((60 : Int) < (lm : Int)) = true := decide_eq_true h61
    have h63 : decide (60 < lm) = true := decide_eq_true h60
    go_wp2
    go_ret
    exact ⟨rfl, HBZ.out⟩
/-- the law, whatever the graph and the calls. -/
theorem keeps_calls (N : Int) (ao : Option Addr) (cap : Nat) (xs : List (Int × Int × Int)) (oo : Option Addr) (oc : Nat) (ops : List Op5) (w : World) (hX : HasArcs w (.slice ao xs.length cap) xs) (hxl : xs.length ≤ maxLen) (hO : HasOp5 w (.slice oo ops.length oc) ops) :
    Calls Try.prog 4 #[.agg #[.int .i64 N, .slice ao xs.length cap], .slice oo ops.length oc] w fun e w' => e = .returned (.bool true) ∧ Below w.heap.size w w' := by
  by_cases hfar : fewB N xs 12 = false ∨ 60 < ops.length
  · exact keeps_far N ao cap xs w hX hxl oo oc ops.length hfar
  · obtain ⟨h1, h2⟩ := not_or.1 hfar
    have hb : fewB N xs 12 = true := by simpa using h1
    obtain ⟨hg, hN, _⟩ := of_decide_eq_true hb
    have hN0 := ((good_iff _ _).1 hg).1
    obtain ⟨n, rfl⟩ : ∃ n : Nat, N = (n : Int) := ⟨N.toNat, by omega⟩
    exact keeps_good n ao cap xs w hX hxl hb hg oo oc ops hO (by omega)

section
variable {H : Type} {enc : TypeId × Value → H} {P : Program} {w : World} {base : Nat} {spare : MemPlace → Bool} {held : Bool}
theorem struct5 {t : TypeId} {f0 f1 f2 f3 f4 : Field} {W : World} {fuel : Nat} {cs : List Value} {x : DataW H × List MemPlace} (ht : P.underlying t = some (.struct #[f0, f1, f2, f3, f4])) (h : DataW.trod enc P W 0 (fun _ => true) true fuel t cs = some x) :
    ∃ y0 y1 y2 y3 y4 n, cs.length = P.cellsOf t ∧ DataW.trod enc P W 0 (fun _ => true) true n f0.type ((cs.drop f0.offset).take (P.cellsOf f0.type)) = some y0 ∧
      DataW.trod enc P W 0 (fun _ => true) true n f1.type ((cs.drop f1.offset).take (P.cellsOf f1.type)) = some y1 ∧ DataW.trod enc P W 0 (fun _ => true) true n f2.type ((cs.drop f2.offset).take (P.cellsOf f2.type)) = some y2 ∧
      DataW.trod enc P W 0 (fun _ => true) true n f3.type ((cs.drop f3.offset).take (P.cellsOf f3.type)) = some y3 ∧ DataW.trod enc P W 0 (fun _ => true) true n f4.type ((cs.drop f4.offset).take (P.cellsOf f4.type)) = some y4 := by
  obtain ⟨xs, n, _, rfl, hl, hlen, hf⟩ := DataW.trod_struct ht h
  match xs, hlen with
  | [y0, y1, y2, y3, y4], _ => exact ⟨y0, y1, y2, y3, y4, n, hl, by simpa using hf 0 f0 rfl, by simpa using hf 1 f1 rfl, by simpa using hf 2 f2 rfl, by simpa using hf 3 f3 rfl, by simpa using hf 4 f4 rfl⟩
end
theorem Try.cellsOp5 : Try.prog.cellsOf 35 = 5 := by kernel_rfl
theorem Try.cellsO8 : Try.prog.cellsOf 5 = 1 := by kernel_rfl
theorem Try.cellsO64 : Try.prog.cellsOf 33 = 1 := by kernel_rfl
theorem Try.cellsOI : Try.prog.cellsOf 3 = 1 := by kernel_rfl
set_option maxRecDepth 100000 in
theorem ops5_open {H : Type} {enc : TypeId × Value → H} {W : World} {base : Nat} {v : Value} {d : DataW H} {p : List MemPlace} (hv : Value.okWide Try.prog W .any base 25 v) (h : DataW.Trod enc Try.prog W 0 (fun _ => true) true 25 v d p) :
    ∃ (ao : Option Addr) (cap : Nat) (xs : List Op5), v = .slice ao xs.length cap ∧ HasOp5 W (.slice ao xs.length cap) xs := by
  obtain ⟨a0, len, cap, rfl⟩ := okWide_slice Try.underlying25 hv
  obtain ⟨fuel, hf⟩ := h
  rcases open_slice Try.underlying25 hf with ⟨hcs, _⟩ | ⟨a, len', cap', m, n, D, Pl, hcs, _, hl, hm, hmm, _, hx⟩
  · have e : Value.slice a0 len cap = .slice none 0 0 := by simpa [Value.cells] using hcs
    cases e
    exact ⟨none, 0, [], rfl, ⟨none, 0, rfl, fun j q hj => by simp at hj⟩⟩
  · have e : Value.slice a0 len cap = .slice (some a) len' cap' := by simpa [Value.cells] using hcs
    cases e
    simp at hmm
    subst hmm
    have hq : ∀ i, i < len → ∃ q : Op5, W.cell? (a.add (i * 5)) = some (.int .u8 q.1) ∧ W.cell? ((a.add (i * 5)).add 1) = some (.int .i64 q.2.1) ∧ W.cell? ((a.add (i * 5)).add 2) = some (.int .i64 q.2.2.1) ∧ W.cell? ((a.add (i * 5)).add 3) = some (.int .u64 q.2.2.2.1) ∧ W.cell? ((a.add (i * 5)).add 4) = some (.int .i64 q.2.2.2.2) := fun i hi => by
      obtain ⟨cs', h1, h2⟩ := hx i (by omega)
      rw [Try.cellsOp5] at h1
      obtain ⟨_, hlen, hcell⟩ := World.cells?_some h1
      obtain ⟨c0, c1, c2, c3, c4, rfl⟩ : ∃ c0 c1 c2 c3 c4, cs' = [c0, c1, c2, c3, c4] := by
        match cs', hlen with
        | [c0, c1, c2, c3, c4], _ => exact ⟨c0, c1, c2, c3, c4, rfl⟩
      obtain ⟨y0, y1, y2, y3, y4, m, _, t0, t1, t2, t3, t4⟩ := struct5 Try.underlying35 h2
      rw [Try.cellsO8] at t0
      rw [Try.cellsOI] at t1 t2 t4
      rw [Try.cellsO64] at t3
      obtain ⟨x0, e0, _, _⟩ := DataW.trod_int Try.underlying5 t0
      obtain ⟨x1, e1, _, _⟩ := DataW.trod_int Try.underlying3 t1
      obtain ⟨x2, e2, _, _⟩ := DataW.trod_int Try.underlying3 t2
      obtain ⟨x3, e3, _, _⟩ := DataW.trod_int Try.underlying33 t3
      obtain ⟨x4, e4, _, _⟩ := DataW.trod_int Try.underlying3 t4
      simp at e0 e1 e2 e3 e4
      subst e0 e1 e2 e3 e4
      have g0 := hcell 0 (by omega)
      have g1 := hcell 1 (by omega)
      have g2 := hcell 2 (by omega)
      have g3 := hcell 3 (by omega)
      have g4 := hcell 4 (by omega)
      exact ⟨(x0, x1, x2, x3, x4), by simpa [Addr.add] using g0, by simpa using g1, by simpa using g2, by simpa using g3, by simpa using g4⟩
    obtain ⟨q, hq'⟩ := choose_lt hq
    have hlen : ((List.range len).map q).length = len := by rw [List.length_map, List.length_range]
    refine ⟨some a, m, (List.range len).map q, by rw [hlen], ⟨some a, m, rfl, fun j r hj => ?_⟩⟩
    have hj' : j < len := by
      have := (List.getElem?_eq_some_iff.1 hj).1
      rw [hlen] at this
      exact this
    have er : r = q j := by
      rw [List.getElem?_map, List.getElem?_range hj'] at hj
      exact (Option.some.inj hj).symm
    subst er
    obtain ⟨h0, h1, h2, h3, h4⟩ := hq' j hj'
    obtain ⟨b, off, spot⟩ := a
    have hspot : spot = none := by
      have h00 := (hq' 0 (by omega)).1
      simpa [Addr.add] using World.cell?_spot h00
    subst hspot
    have e1 : (Addr.mk b off none).add (j * 5) = ⟨b, off + j * 5, none⟩ := add_plain _ _ _
    rw [e1] at h0 h1 h2 h3 h4
    have e2 : ∀ z, (Addr.mk b (off + j * 5) none).add z = ⟨b, off + j * 5 + z, none⟩ := fun z => add_plain _ _ _
    rw [e2] at h1 h2 h3 h4
    have hlt : b < W.heap.size := by
      rcases Nat.lt_or_ge b W.heap.size with h | h
      · exact h
      · simp [World.cell?, Array.getElem?_eq_none h] at h0
    exact ⟨b, off, rfl, hlt, h0, h1, h2, h3, h4⟩

set_option maxRecDepth 100000 in
theorem keeps_lifted (os : Os) (started : os.Started) (H : Type) (enc : TypeId × Value → H) :
    ReturnsInHanded {} Try.checked os 4 .any (Rows.overlayKeepsSpec.pre6 enc Try.prog Try.f4 Rows.overlayKeepsRow.domain false) (Rows.overlayKeepsSpec.post enc Try.prog Try.f4 false true false false) := by
  refine returnsInHanded_of_change_sized (C := Try.checked) Try.own started (by kernel_rfl) Try.func4
    (ChangeSpec.witness6 (enc := enc) (C := Try.checked) false ⟨#[], #[.agg #[.int .i64 0, .slice none 0 0], .slice none 0 0], []⟩ 8 (by kernel_rfl) (by kernel_rfl) (by kernel_rfl) (by kernel_rfl)) ?_
  intro W base args ds gs before hval0 hW _ hsz0 _
  have hval : ∀ (j : Nat) t v, Try.f4.params[j]? = some t → args[j]? = some v → Value.okWide Try.prog W .any base t v := hval0
  have hW' := hW
  obtain ⟨p, q, hA0, hV, rfl, hfz, hnd⟩ := hW
  have hA : DataW.TrodAll enc Try.prog W 0 (fun _ => true) true Try.f4.params.toList args.toList ds p := hA0
  rw [Try.params4] at hA hval
  obtain ⟨v0, vs0, d0, ds0, p0, q0, hargs, rfl, rfl, hr0, r0⟩ := trodAll_cons hA
  obtain ⟨v1, vs1, d1, ds1, p1, q1, rfl, rfl, rfl, hr1, r1⟩ := trodAll_cons r0
  obtain ⟨rfl, rfl, rfl⟩ := trodAll_nil r1
  obtain rfl : args = #[v0, v1] := by cases args; simp at hargs; simp [hargs]
  obtain ⟨rfl, rfl⟩ := trodVars_none hV
  obtain ⟨N, bo, cap, xs, rfl, hX, hxl⟩ := graph_open (hval 0 24 v0 rfl rfl) hr0
  obtain ⟨ao, ac, ops, rfl, hO⟩ := ops5_open (hval 1 25 v1 rfl rfl) hr1
  refine (keeps_calls N bo cap xs ao ac ops W hX hxl hO).mono fun e W' ⟨he, hw⟩ => ?_
  subst he
  exact ⟨_, rfl, post_of_law hW' rfl (by kernel_rfl) rfl (by rw [Try.params4]; intro t ht; simp at ht; rcases ht with rfl | rfl <;> exact ⟨by kernel_rfl, of_decide_eq_true (by kernel_rfl)⟩) hw⟩

theorem keeps_holds : Rows.OverlayKeepsSaid :=
  OpenClaim.holds_of_wide 4 Try.f4 rfl rfl rfl rfl rfl rfl rfl ⟨rfl, rfl, rfl, rfl, rfl⟩ rfl rfl rfl rfl rfl (by kernel_rfl) Try.func4 (by kernel_rfl)
    (of_decide_eq_true (by kernel_rfl)) (by unfold Func.isWrapper; rw [if_neg (of_decide_eq_false (by kernel_rfl))]; exact ⟨rfl, rfl⟩)
    (fun os started H enc _ => keeps_lifted os started H enc)
#print axioms keeps_holds
end Go.Proofs.Ytpaamcapopnhoaa
