/- walk.step at right arrays: the weight of the arc, if there is one. -/
import Derived.Test.YtefcmpdnlbpjpaaCsrChk
import Derived.Test.YtefcmpdnlbpjpaaBS
import Derived.BigQuiet
import Derived.WalkSmall
namespace Go.Proofs.Ytefcmpdnlbpjpaa
open Go.RowKit Go.Extern

attribute [local go_sem] Oper.semAt_some

theorem Try.elemI : Try.prog.underlying 25 = some (.slice (Try.prog.elem 25)) := by kernel_rfl
theorem Try.sizeI (w : World) : (sizeOf (Try.prog.elem 25)).run Try.prog w = .ok 1 w := by kernel_rfl
/-- a piece of a row of numbers. -/
theorem cut_ints (b off n cap i j : Nat) (hij : i ≤ j) (hj : j ≤ cap) : ∃ off', (i < j → off' = off + i) ∧ ∀ w, (Instr.slice 25 (.slice (some ⟨b, off, none⟩) n cap) (some (.int .i64 (i : Int))) (some (.int .i64 (j : Int))) none).run Try.prog w = .ok (.slice (some ⟨b, off', none⟩) (j - i) (cap - i)) w := by
  have e1 : (i : Int).toNat = i := by omega
  have e2 : (j : Int).toNat = j := by omega
  refine ⟨if cap = i then off else off + i, fun h => by rw [if_neg (by omega)], fun w => ?_⟩
  rw [run_slice_lh (ht := Try.elemI) (h0 := by omega) (h1 := by omega) (h2 := by omega), Try.sizeI]
  simp only [Result.andThen_ok, sliced, e1, e2]
  by_cases h : cap = i
  · simp [h]
  · simp [h, Addr.add]

theorem count_at : ∀ {l : List Int}, l.Pairwise (· < ·) → ∀ {j : Nat} {x : Int}, l[j]? = some x → l.countP (· < x) = j
  | [], _, _, _, h => by cases h
  | a :: r, hp, 0, x, h => by
    cases h
    rw [List.countP_eq_zero]
    intro c hc
    rcases List.mem_cons.1 hc with rfl | hc
    · simp
    · have := (List.pairwise_cons.1 hp).1 c hc
      simp only [decide_eq_true_eq]
      omega
  | a :: r, hp, j + 1, x, h => by
    have hx : x ∈ r := List.mem_of_getElem? (i := j) h
    have := (List.pairwise_cons.1 hp).1 x hx
    rw [List.countP_cons_of_pos (by simpa using this), count_at (List.pairwise_cons.1 hp).2 (j := j) h]
/-- where the row of a node leads. -/
def rowTo (zs : List (Int × Int × Int)) (v : Nat) : List Int := ((tos zs).take (firstAt zs (v + 1))).drop (firstAt zs v)
theorem rowTo_len (zs : List (Int × Int × Int)) (v : Nat) : (rowTo zs v).length = firstAt zs (v + 1) - firstAt zs v := by
  unfold rowTo
  have := firstAt_le zs (v + 1)
  rw [List.length_drop, List.length_take, tos_len]
  omega
theorem rowTo_at (zs : List (Int × Int × Int)) (v j : Nat) (hj : j < firstAt zs (v + 1) - firstAt zs v) : (rowTo zs v)[j]? = (tos zs)[firstAt zs v + j]? := by
  unfold rowTo
  rw [List.getElem?_drop, List.getElem?_take, if_pos (by omega)]
theorem Fine.rowTo_rise {n : Nat} {zs : List (Int × Int × Int)} (h : Fine n zs) (v : Nat) : (rowTo zs v).Pairwise (· < ·) := by
  rw [List.pairwise_iff_getElem]
  intro i j hi hj hij
  have hl := rowTo_len zs v
  have hm := firstAt_le zs (v + 1)
  obtain ⟨a, ha⟩ : ∃ a, zs[firstAt zs v + i]? = some a := ⟨zs[firstAt zs v + i], List.getElem?_eq_getElem (by omega)⟩
  obtain ⟨b, hb⟩ : ∃ b, zs[firstAt zs v + j]? = some b := ⟨zs[firstAt zs v + j], List.getElem?_eq_getElem (by omega)⟩
  have e1 : (rowTo zs v)[i] = a.2.1 := by
    have := rowTo_at zs v i (by omega)
    rw [tos_at ha, List.getElem?_eq_getElem hi] at this
    exact Option.some.inj this
  have e2 : (rowTo zs v)[j] = b.2.1 := by
    have := rowTo_at zs v j (by omega)
    rw [tos_at hb, List.getElem?_eq_getElem hj] at this
    exact Option.some.inj this
  rw [e1, e2]
  have h1 := h.row (v := v) ha (by omega) (by omega)
  have h2 := h.row (v := v) hb (by omega) (by omega)
  have h3 := rise_at h.rise ha hb (by omega)
  unfold lessA at h3
  omega
theorem Fine.inRow {n : Nat} {zs : List (Int × Int × Int)} (h : Fine n zs) {i v : Nat} {a : Int × Int × Int} (ha : zs[i]? = some a) (hv : a.1 = (v : Int)) : firstAt zs v ≤ i ∧ i < firstAt zs (v + 1) := by
  have g1 := firstAt_lt h.rise ha v
  have g2 := firstAt_lt h.rise ha (v + 1)
  refine ⟨?_, g2.2 (by omega)⟩
  rcases Nat.lt_or_ge i (firstAt zs v) with h' | h'
  · have := g1.1 h'; omega
  · exact h'
theorem Fine.find {n : Nat} {zs : List (Int × Int × Int)} (h : Fine n zs) {i v : Nat} {u r : Int} (ha : zs[i]? = some ((v : Int), u, r)) : firstAt zs v + (rowTo zs v).countP (· < u) = i ∧ (rowTo zs v).contains u = true := by
  obtain ⟨h1, h2⟩ := h.inRow ha rfl
  have h3 : (rowTo zs v)[i - firstAt zs v]? = some u := by
    rw [rowTo_at zs v _ (by omega), show firstAt zs v + (i - firstAt zs v) = i by omega, tos_at ha]
  refine ⟨by rw [count_at (h.rowTo_rise v) h3]; omega, ?_⟩
  rw [List.contains_iff_mem]
  exact List.mem_of_getElem? h3
theorem Fine.findNo {n : Nat} {zs : List (Int × Int × Int)} (h : Fine n zs) {v : Nat} {u : Int} (hno : ∀ a ∈ zs, ¬ (a.1 = (v : Int) ∧ a.2.1 = u)) : (rowTo zs v).contains u = false := by
  rw [← Bool.not_eq_true, List.contains_iff_mem]
  intro hm
  obtain ⟨j, hj⟩ := List.getElem?_of_mem hm
  have hl := (List.getElem?_eq_some_iff.1 hj).1
  rw [rowTo_len] at hl
  have hm2 := firstAt_le zs (v + 1)
  rw [rowTo_at zs v j hl] at hj
  obtain ⟨a, ha⟩ : ∃ a, zs[firstAt zs v + j]? = some a := ⟨zs[firstAt zs v + j], List.getElem?_eq_getElem (by omega)⟩
  rw [tos_at ha] at hj
  exact hno a (List.mem_of_getElem? ha) ⟨h.row ha (by omega) (by omega), Option.some.inj hj⟩

/-- what step answers. -/
def StepIs (zs : List (Int × Int × Int)) (v u r : Int) (ok : Bool) : Prop := (ok = true ∧ (v, u, r) ∈ zs) ∨ (ok = false ∧ r = 0 ∧ ∀ a ∈ zs, ¬ (a.1 = v ∧ a.2.1 = u))

set_option maxRecDepth 100000 in
set_option maxHeartbeats 4000000 in
theorem step_good (n : Nat) (zs : List (Int × Int × Int)) (fo wo : Option Addr) (tb tof fc tc wc : Nat) (w : World) (hz : Fine n zs) (h : CsrIn w n zs fo (some ⟨tb, tof, none⟩) wo fc tc wc) (htc : zs.length ≤ tc) (p : Nat) (hp : p < n) (u r : Int) (ok : Bool) (hr : 0 ≤ r ∧ r ≤ 2147483647) (hF : StepIs zs p u r ok) :
    Calls Try.prog 18 #[.agg #[.slice fo (n + 1) fc, .slice (some ⟨tb, tof, none⟩) zs.length tc, .slice wo zs.length wc], .int .i64 (p : Int), .int .i64 u] w fun e w' => e = .returned (.tuple #[.int .u64 r, .bool ok]) ∧ Below w.heap.size w w' := by
  obtain ⟨fb, fof, rfl, hl, hc⟩ := h.first
  obtain ⟨W0, hW0⟩ : ∃ W0, w.alloc (.cells #[.slice (some ⟨fb, fof, none⟩) (n + 1) fc, .slice (some ⟨tb, tof, none⟩) zs.length tc, .slice wo zs.length wc] 27) = W0 := ⟨_, rfl⟩
  have HW0 : Hid (w.alloc (.cells #[.slice (some ⟨fb, fof, none⟩) (n + 1) fc, .slice (some ⟨tb, tof, none⟩) zs.length tc, .slice wo zs.length wc] 27) = W0) := hW0
  have hB0 : Below w.heap.size w W0 := by rw [← hW0]; exact (Below.refl _ w).alloc (Nat.le_refl _) _
  have k1 : W0.heap[w.heap.size]? = some (.cells #[.slice (some ⟨fb, fof, none⟩) (n + 1) fc, .slice (some ⟨tb, tof, none⟩) zs.length tc, .slice wo zs.length wc] 27) := by rw [← hW0]; exact heap_new _ _
  have hN := hz.few
  have hM := hz.short
  have HK : Hid (∀ wx, Below W0.heap.size W0 wx → (wx.cell? ⟨w.heap.size, 0, none⟩ = some (.slice (some ⟨fb, fof, none⟩) (n + 1) fc) ∧ wx.cell? ⟨w.heap.size, 1, none⟩ = some (.slice (some ⟨tb, tof, none⟩) zs.length tc) ∧ wx.cell? ⟨w.heap.size, 2, none⟩ = some (.slice wo zs.length wc)) ∧ w.heap.size < wx.heap.size ∧ fb < wx.heap.size ∧ CsrIn wx n zs (some ⟨fb, fof, none⟩) (some ⟨tb, tof, none⟩) wo fc tc wc ∧ Below w.heap.size w wx ∧ ∀ v, v ≤ n → wx.cell? ⟨fb, fof + v, none⟩ = some (.int .i64 (firstAt zs v))) := fun wx hx => by
    have hg := (hx.block _ (lt_of_get k1)).trans k1
    have hb := hB0.trans (hx.mono hB0.size)
    exact ⟨box3 hg, lt_of_get hg, Nat.lt_of_lt_of_le hl hb.size, h.keep hb, hb, fun v hv => (hb.cell (p := ⟨fb, _, none⟩) hl).trans (hc v hv)⟩
  have HFI : Hid (Fine n zs) := hz
  clear h hc hW0 hB0 k1 hl hz
  obtain ⟨x, hx⟩ : ∃ x, firstAt zs p = x := ⟨_, rfl⟩
  obtain ⟨y, hy⟩ : ∃ y, firstAt zs (p + 1) = y := ⟨_, rfl⟩
  have hxy : x ≤ y := by rw [← hx, ← hy]; exact firstAt_mono zs (by omega)
  have hyl : y ≤ zs.length := by rw [← hy]; exact firstAt_le _ _
  obtain ⟨off', ho1, ho2⟩ := cut_ints tb tof zs.length tc x y hxy (by omega)
  have HBS : Hid (∀ wx, Below W0.heap.size W0 wx → Calls Try.prog 42 #[.slice (some ⟨tb, off', none⟩) (y - x) (tc - x), .int .i64 u] wx fun e w' => e = .returned (.tuple #[.int .i64 ((rowTo zs p).countP (· < u) : Nat), .bool ((rowTo zs p).contains u)]) ∧ Below wx.heap.size wx w') := fun wx hwx => by
    have hl := rowTo_len zs p
    rw [hx, hy] at hl
    refine search_calls tb off' (y - x) (tc - x) (rowTo zs p) u wx hl ((HFI.out.rowTo_rise p).imp (fun h => Int.le_of_lt h)) (by omega) (fun j a hj => ?_)
    have hjl := (List.getElem?_eq_some_iff.1 hj).1
    rw [rowTo_at zs p j (by rw [hx, hy]; omega), hx] at hj
    obtain ⟨b, off, e, _, h1⟩ := (HK.out wx hwx).2.2.2.1.t.at hj
    injection e with e
    injection e with e1 e2
    subst e1 e2
    rw [ho1 (by omega), Nat.add_assoc]
    exact h1
  have HX : Hid (firstAt zs p = x ∧ firstAt zs (p + 1) = y) := ⟨hx, hy⟩
  have e1 : (p : Int) < (n : Int) + 1 := by omega
  have e2 : (p : Int) + 1 < (n : Int) + 1 := by omega
  have e3 : (0 : Int) ≤ (p : Int) := by omega
  have e4 : (0 : Int) ≤ (p : Int) + 1 := by omega
  have e5 : IntKind.i64.wrap ((p : Int) + 1) = (p : Int) + 1 := by rw [IntKind.wrap_i64] <;> omega
  have e6 : IntKind.u64.wrap r = r := by rw [IntKind.wrap_u64] <;> omega
  clear hx hy ho1
  obtain ⟨⟨c0, c1, c2⟩, cs, cf, hci, _, hc⟩ := HK.out W0 (Below.refl _ _)
  have q0 := hc p (by omega)
  have q1 := hc (p + 1) (by omega)
  rw [HX.out.1] at q0
  rw [HX.out.2] at q1
  clear hci hc
  rcases hF with ⟨rfl, hm⟩ | ⟨rfl, rfl, hno⟩
  · obtain ⟨i, hi⟩ := List.getElem?_of_mem hm
    obtain ⟨f1, f2⟩ := HFI.out.find hi
    have hil := (List.getElem?_eq_some_iff.1 hi).1
    rw [HX.out.1] at f1
    have HA : Hid (zs[i]? = some ((p : Int), u, r)) := hi
    generalize (rowTo zs p).countP (· < u) = q at HBS f1
    rw [f2] at HBS
    clear f2 hi hm
    go_enter Try.func18, Try.ntmps18
    go_wp2_with fail
    rw [HW0.out]
    go_quiet (fail)
    have HBQ : Hid (Below W0.heap.size W0 (W0.drewN nq)) := below_drewN (Below.refl _ W0) nq
    clear q0 q1
    have HSQ : Hid (type_of% (HBS.out _ HBQ.out)) := HBS.out _ HBQ.out
    go_wp2_with (go_at_call 42; refine HSQ.out.mono ?_; rintro e w2 ⟨rfl, hb2⟩; have HB2 : Hid (Below W0.heap.size W0 w2) := HBQ.out.trans (hb2.mono HBQ.out.size); clear hb2; clear c0 c1 c2 cs cf; obtain ⟨⟨c0, c1, c2⟩, cs, cf, hci, _, _⟩ := HK.out w2 HB2.out; obtain ⟨tb', tof', wb, wof, _, hwo, _, wl, hA⟩ := hci.arc (by omega); subst hwo; have a0 := (hA i _ HA.out).2; simp only at a0; have i1 : IntKind.i64.wrap ((x : Int) + (q : Int)) = (i : Int) := (by rw [IntKind.wrap_i64] <;> omega); have i2 : (i : Int) < (zs.length : Int) := (by omega); have i3 : (0 : Int) ≤ (i : Int) := (by omega); clear hci hA)
    have HBZ : Hid (Below w.heap.size w w2) := (HK.out w2 HB2.out).2.2.2.2.1
    go_ret2
    exact ⟨rfl, HBZ.out⟩
  · have f2 := HFI.out.findNo hno
    generalize (rowTo zs p).countP (· < u) = q at HBS
    rw [f2] at HBS
    clear f2 hno
    go_enter Try.func18, Try.ntmps18
    go_wp2_with fail
    rw [HW0.out]
    go_quiet (fail)
    have HBQ : Hid (Below W0.heap.size W0 (W0.drewN nq)) := below_drewN (Below.refl _ W0) nq
    clear q0 q1
    have HSQ : Hid (type_of% (HBS.out _ HBQ.out)) := HBS.out _ HBQ.out
    go_wp2_with (go_at_call 42; refine HSQ.out.mono ?_; rintro e w2 ⟨rfl, hb2⟩; have HB2 : Hid (Below W0.heap.size W0 w2) := HBQ.out.trans (hb2.mono HBQ.out.size); clear hb2; clear c0 c1 c2 cs cf)
    have HBZ : Hid (Below w.heap.size w w2) := (HK.out w2 HB2.out).2.2.2.2.1
    go_ret2
    exact ⟨rfl, HBZ.out⟩
end Go.Proofs.Ytefcmpdnlbpjpaa
