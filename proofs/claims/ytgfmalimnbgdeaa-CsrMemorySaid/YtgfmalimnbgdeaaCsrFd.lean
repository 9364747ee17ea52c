/- csr's checkNodes and Find at right arrays. -/
import Derived.Test.YtgfmalimnbgdeaaCsrChk
import Derived.Test.YtgfmalimnbgdeaaBS
namespace Go.Proofs.Ytgfmalimnbgdeaa
open Go.RowKit Go.Extern

attribute [local go_sem] Oper.semAt_some

theorem Try.elemI : Try.prog.underlying 26 = some (.slice (Try.prog.elem 26)) := by kernel_rfl
theorem Try.sizeI (w : World) : (sizeOf (Try.prog.elem 26)).run Try.prog w = .ok 1 w := by kernel_rfl
/-- a piece of a row of numbers. -/
theorem cut_ints (b off n cap i j : Nat) (hij : i ≤ j) (hj : j ≤ cap) : ∃ off', (i < j → off' = off + i) ∧ ∀ w, (Instr.slice 26 (.slice (some ⟨b, off, none⟩) n cap) (some (.int .i64 (i : Int))) (some (.int .i64 (j : Int))) none).run Try.prog w = .ok (.slice (some ⟨b, off', none⟩) (j - i) (cap - i)) w := by
  have e1 : (i : Int).toNat = i := by omega
  have e2 : (j : Int).toNat = j := by omega
  refine ⟨if cap = i then off else off + i, fun h => by rw [if_neg (by omega)], fun w => ?_⟩
  rw [run_slice_lh (ht := Try.elemI) (h0 := by omega) (h1 := by omega) (h2 := by omega), Try.sizeI]
  simp only [Result.andThen_ok, sliced, e1, e2]
  by_cases h : cap = i
  · simp [h]
  · simp [h, Addr.add]

theorem count_at : ∀ {l : List Int}, l.Pairwise (· < ·) → ∀ {j : Nat} {x : Int}, l[j]? = some x → l.countP (· < x) = j
  | [], _, _, _, h => by cases h
  | a :: r, hp, 0, x, h => by
    cases h
    rw [List.countP_eq_zero]
    intro c hc
    rcases List.mem_cons.1 hc with rfl | hc
    · simp
    · have := (List.pairwise_cons.1 hp).1 c hc
      simp only [decide_eq_true_eq]
      omega
  | a :: r, hp, j + 1, x, h => by
    have hx : x ∈ r := List.mem_of_getElem? (i := j) h
    have := (List.pairwise_cons.1 hp).1 x hx
    rw [List.countP_cons_of_pos (by simpa using this), count_at (List.pairwise_cons.1 hp).2 (j := j) h]
/-- where the row of a node leads. -/
def rowTo (zs : List (Int × Int × Int)) (v : Nat) : List Int := ((tos zs).take (firstAt zs (v + 1))).drop (firstAt zs v)
theorem rowTo_len (zs : List (Int × Int × Int)) (v : Nat) : (rowTo zs v).length = firstAt zs (v + 1) - firstAt zs v := by
  unfold rowTo
  have := firstAt_le zs (v + 1)
  rw [List.length_drop, List.length_take, tos_len]
  omega
theorem rowTo_at (zs : List (Int × Int × Int)) (v j : Nat) (hj : j < firstAt zs (v + 1) - firstAt zs v) : (rowTo zs v)[j]? = (tos zs)[firstAt zs v + j]? := by
  unfold rowTo
  rw [List.getElem?_drop, List.getElem?_take, if_pos (by omega)]
theorem Fine.rowTo_rise {n : Nat} {zs : List (Int × Int × Int)} (h : Fine n zs) (v : Nat) : (rowTo zs v).Pairwise (· < ·) := by
  rw [List.pairwise_iff_getElem]
  intro i j hi hj hij
  have hl := rowTo_len zs v
  have hm := firstAt_le zs (v + 1)
  obtain ⟨a, ha⟩ : ∃ a, zs[firstAt zs v + i]? = some a := ⟨zs[firstAt zs v + i], List.getElem?_eq_getElem (by omega)⟩
  obtain ⟨b, hb⟩ : ∃ b, zs[firstAt zs v + j]? = some b := ⟨zs[firstAt zs v + j], List.getElem?_eq_getElem (by omega)⟩
  have e1 : (rowTo zs v)[i] = a.2.1 := by
    have := rowTo_at zs v i (by omega)
    rw [tos_at ha, List.getElem?_eq_getElem hi] at this
    exact Option.some.inj this
  have e2 : (rowTo zs v)[j] = b.2.1 := by
    have := rowTo_at zs v j (by omega)
    rw [tos_at hb, List.getElem?_eq_getElem hj] at this
    exact Option.some.inj this
  rw [e1, e2]
  have h1 := h.row (v := v) ha (by omega) (by omega)
  have h2 := h.row (v := v) hb (by omega) (by omega)
  have h3 := rise_at h.rise ha hb (by omega)
  unfold lessA at h3
  omega
theorem Fine.inRow {n : Nat} {zs : List (Int × Int × Int)} (h : Fine n zs) {i v : Nat} {a : Int × Int × Int} (ha : zs[i]? = some a) (hv : a.1 = (v : Int)) : firstAt zs v ≤ i ∧ i < firstAt zs (v + 1) := by
  have g1 := firstAt_lt h.rise ha v
  have g2 := firstAt_lt h.rise ha (v + 1)
  refine ⟨?_, g2.2 (by omega)⟩
  rcases Nat.lt_or_ge i (firstAt zs v) with h' | h'
  · have := g1.1 h'; omega
  · exact h'
theorem Fine.find {n : Nat} {zs : List (Int × Int × Int)} (h : Fine n zs) {i v : Nat} {u r : Int} (ha : zs[i]? = some ((v : Int), u, r)) : firstAt zs v + (rowTo zs v).countP (· < u) = i ∧ (rowTo zs v).contains u = true := by
  obtain ⟨h1, h2⟩ := h.inRow ha rfl
  have h3 : (rowTo zs v)[i - firstAt zs v]? = some u := by
    rw [rowTo_at zs v _ (by omega), show firstAt zs v + (i - firstAt zs v) = i by omega, tos_at ha]
  refine ⟨by rw [count_at (h.rowTo_rise v) h3]; omega, ?_⟩
  rw [List.contains_iff_mem]
  exact List.mem_of_getElem? h3
theorem Fine.findNo {n : Nat} {zs : List (Int × Int × Int)} (h : Fine n zs) {v : Nat} {u : Int} (hno : ∀ a ∈ zs, ¬ (a.1 = (v : Int) ∧ a.2.1 = u)) : (rowTo zs v).contains u = false := by
  rw [← Bool.not_eq_true, List.contains_iff_mem]
  intro hm
  obtain ⟨j, hj⟩ := List.getElem?_of_mem hm
  have hl := (List.getElem?_eq_some_iff.1 hj).1
  rw [rowTo_len] at hl
  have hm2 := firstAt_le zs (v + 1)
  rw [rowTo_at zs v j hl] at hj
  obtain ⟨a, ha⟩ : ∃ a, zs[firstAt zs v + j]? = some a := ⟨zs[firstAt zs v + j], List.getElem?_eq_getElem (by omega)⟩
  rw [tos_at ha] at hj
  exact hno a (List.mem_of_getElem? ha) ⟨h.row ha (by omega) (by omega), Option.some.inj hj⟩

set_option maxRecDepth 100000 in
set_option maxHeartbeats 4000000 in
theorem checkNodes_good (n : Nat) (zs : List (Int × Int × Int)) (fo to wo : Option Addr) (fc tc wc : Nat) (w : World) (hz : Fine n zs) (h : CsrIn w n zs fo to wo fc tc wc) (no : Option Addr) (nc : Nat) (vs : List Int) (hv : HasInts w (.slice no vs.length nc) vs) (hvl : vs.length ≤ 1000) (no7 : Int) (h7 : (no7 = 0 ∧ ∀ v ∈ vs, 0 ≤ v ∧ v < (n : Int)) ∨ (no7 = 7 ∧ ∃ v ∈ vs, ¬ (0 ≤ v ∧ v < (n : Int)))) :
    Calls Try.prog 38 #[.agg #[.slice fo (n + 1) fc, .slice to zs.length tc, .slice wo zs.length wc], .slice no vs.length nc] w fun e w' => e = .returned (numV no7) ∧ Below w.heap.size w w' := by
  obtain ⟨W0, hW0⟩ : ∃ W0, w.alloc (.cells #[.slice fo (n + 1) fc, .slice to zs.length tc, .slice wo zs.length wc] 28) = W0 := ⟨_, rfl⟩
  have HW0 : Hid (w.alloc (.cells #[.slice fo (n + 1) fc, .slice to zs.length tc, .slice wo zs.length wc] 28) = W0) := hW0
  have hB0 : Below w.heap.size w W0 := by rw [← hW0]; exact (Below.refl _ w).alloc (Nat.le_refl _) _
  have hbx : W0.heap[w.heap.size]? = some (.cells #[.slice fo (n + 1) fc, .slice to zs.length tc, .slice wo zs.length wc] 28) := by rw [← hW0]; exact heap_new _ _
  have hN := hz.few
  have HK : Hid (∀ wx, Below W0.heap.size W0 wx → (wx.cell? ⟨w.heap.size, 0, none⟩ = some (.slice fo (n + 1) fc) ∧ wx.cell? ⟨w.heap.size, 1, none⟩ = some (.slice to zs.length tc) ∧ wx.cell? ⟨w.heap.size, 2, none⟩ = some (.slice wo zs.length wc)) ∧ w.heap.size < wx.heap.size ∧ Below w.heap.size w wx ∧ HasInts wx (.slice no vs.length nc) vs) := fun wx hx => by
    have hg := (hx.block _ (lt_of_get hbx)).trans hbx
    have hb := hB0.trans (hx.mono hB0.size)
    exact ⟨box3 hg, lt_of_get hg, hb, hv.keep hb⟩
  have HCK : Hid (Calls Try.prog 11 #[.agg #[.slice fo (n + 1) fc, .slice to zs.length tc, .slice wo zs.length wc]] W0 fun e w' => e = .returned .nilIface ∧ Below W0.heap.size W0 w') := check_good n zs fo to wo fc tc wc W0 hz (h.keep hB0)
  have HIN : Hid (∀ (v : Int) (wx : World), Calls Try.prog 49 #[.agg #[.slice fo (n + 1) fc, .slice to zs.length tc, .slice wo zs.length wc], .int .i64 v] wx fun e w' => e = .returned (.bool (decide (0 ≤ v ∧ v < (n : Int)))) ∧ Below wx.heap.size wx w') := fun v wx => isNode_calls _ _ _ n fc zs.length tc zs.length wc (by omega) v wx
  have H7 : Hid (type_of% h7) := h7
  clear h hW0 hB0 hbx hz hv h7
  go_enter Try.func38, Try.ntmps38
  go_wp2_with fail
  rw [HW0.out]
  refine HCK.out.mono ?_
  rintro e w1 ⟨rfl, hb1⟩
  have HB1 : Hid (Below W0.heap.size W0 w1) := hb1
  clear hb1
  go_wp2_with fail
  go_loopw [15] (fun iv wr => ∃ k : Nat, k ≤ vs.length ∧ iv = .int .i64 k ∧ (∀ j v, j < k → vs[j]? = some v → 0 ≤ v ∧ v < (n : Int)) ∧ Below W0.heap.size W0 wr) (fun iv _ => vs.length - (intOf iv).toNat)
  case atStart => exact ⟨0, Nat.zero_le _, rfl, fun j v hj => by omega, HB1.out⟩
  case round =>
    obtain ⟨k, hk, rfl, hok, hb⟩ := hrel
    have HOK : Hid (type_of% hok) := hok
    have HBR : Hid (Below W0.heap.size W0 wr) := hb
    obtain ⟨⟨c0, c1, c2⟩, cs, hbw, hV⟩ := HK.out wr hb
    have HBZ : Hid (Below w.heap.size w wr) := hbw
    clear hok hb hbw
    by_cases hlt : k < vs.length
    · obtain ⟨v, hv⟩ : ∃ v, vs[k]? = some v := ⟨vs[k], List.getElem?_eq_getElem hlt⟩
      obtain ⟨b, off, hno, hbl, q0⟩ := hV.at hv
      subst hno
      have i1 : (k : Int) < (vs.length : Int) := by omega
      have i2 : (0 : Int) ≤ (k : Int) := by omega
      have HV : Hid (vs[k]? = some v) := hv
      have hI := HIN.out v wr
      clear hV hv
      by_cases hnode : 0 ≤ v ∧ v < (n : Int)
      · rw [decide_eq_true hnode] at hI
        have HI : Hid (type_of% hI) := hI
        have HOK2 : Hid (∀ j v, j < k + 1 → vs[j]? = some v → 0 ≤ v ∧ v < (n : Int)) := fun j x hj hx => by
          rcases Nat.lt_or_ge j k with h' | h'
          · exact HOK.out j x h' hx
          · obtain rfl : j = k := by omega
            obtain rfl := Option.some.inj (HV.out.symm.trans hx)
            exact hnode
        clear hI hnode
        go_wp2_with (go_at_call 49; refine HI.out.mono ?_; rintro e w2 ⟨rfl, hb2⟩; have HB2 : Hid (Below W0.heap.size W0 w2) := HBR.out.trans (hb2.mono HBR.out.size); clear hb2)
        go_roundw
        case rel => exact ⟨k + 1, by omega, by go_num, HOK2.out, HB2.out⟩
        case measure => simp [intOf]; omega
      · rw [decide_eq_false hnode] at hI
        have HI : Hid (type_of% hI) := hI
        have H77 : Hid (no7 = 7) := by
          rcases H7.out with ⟨_, h⟩ | ⟨h, _⟩
          · exact absurd (h v (List.mem_of_getElem? HV.out)) hnode
          · exact h
        clear hI hnode
        go_wp2_with (go_at_call 49; refine HI.out.mono ?_; rintro e w2 ⟨rfl, hb2⟩; have HB2 : Hid (Below w.heap.size w w2) := HBZ.out.trans (hb2.mono HBZ.out.size); clear hb2)
        go_ret
        exact ⟨by rw [H77.out]; rfl, HB2.out⟩
    · have H0 : Hid (no7 = 0) := by
        rcases H7.out with ⟨h, _⟩ | ⟨_, v, hv, hno⟩
        · exact h
        · obtain ⟨j, hj⟩ := List.getElem?_of_mem hv
          exact absurd (HOK.out j v (by have := (List.getElem?_eq_some_iff.1 hj).1; omega) hj) hno
      go_wp2
      go_ret
      exact ⟨by rw [H0.out]; rfl, HBZ.out⟩
end Go.Proofs.Ytgfmalimnbgdeaa
