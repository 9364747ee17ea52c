/- walk.Length, whatever the arrays and the list. -/
import Derived.Test.YtdfjmfgbdnpkbaaDoorWkN
namespace Go.Proofs.YtdfjmfgbdnpkbaaDoor
open Go.RowKit Go.Extern

attribute [local go_sem] Oper.semAt_some

/-- all are nodes. -/
def Nodes (n : Nat) (xs : List Int) : Prop := ∀ v ∈ xs, 0 ≤ v ∧ v < (n : Int)
/-- there is no arc. -/
def NoArc (zs : List (Int × Int × Int)) (v u : Int) : Prop := ∀ a ∈ zs, ¬ (a.1 = v ∧ a.2.1 = u)
/-- what the document says of a list in right arrays. -/
def LenIs (n : Nat) (zs : List (Int × Int × Int)) (xs : List Int) (L : Int) (E : Int × List (Int × Int)) : Prop :=
  (xs = [] ∧ L = 0 ∧ E = (5, [])) ∨
  (∃ (k : Nat) (v : Int), xs[k]? = some v ∧ ¬ (0 ≤ v ∧ v < (n : Int)) ∧ (∀ (j : Nat) (u : Int), j < k → xs[j]? = some u → 0 ≤ u ∧ u < (n : Int)) ∧ L = 0 ∧ E = (7, [(3, (k : Int))])) ∨
  (Nodes n xs ∧ ∃ (k : Nat) (v u : Int) (ws : List Int), xs[k]? = some v ∧ xs[k + 1]? = some u ∧ NoArc zs v u ∧ WalkIs zs (xs.take (k + 1)) ws ∧ L = 0 ∧ E = (16, [(4, (k : Int))])) ∨
  (Nodes n xs ∧ xs ≠ [] ∧ ∃ ws, WalkIs zs xs ws ∧ L = ws.sum ∧ E = (0, []))
theorem arc_or (zs : List (Int × Int × Int)) (v u : Int) : (∃ r, (v, u, r) ∈ zs) ∨ NoArc zs v u := by
  by_cases h : ∃ a ∈ zs, a.1 = v ∧ a.2.1 = u
  · obtain ⟨⟨a0, a1, a2⟩, ha, h1, h2⟩ := h
    simp only at h1 h2
    subst h1 h2
    exact Or.inl ⟨a2, ha⟩
  · exact Or.inr fun a ha hh => h ⟨a, ha, hh⟩
theorem walk_one (zs : List (Int × Int × Int)) (xs : List Int) (h : xs ≠ []) : WalkIs zs (xs.take 1) [] := by
  refine ⟨?_, fun i r hr => by simp at hr⟩
  have := List.length_pos_iff.2 h
  rw [List.length_take]
  simp
  omega
/-- a walk so far, and the next step. -/
theorem walk_more {zs : List (Int × Int × Int)} {xs ws : List Int} {k : Nat} {v u r : Int} (h : WalkIs zs (xs.take (k + 1)) ws) (hv : xs[k]? = some v) (hu : xs[k + 1]? = some u) (hr : (v, u, r) ∈ zs) : WalkIs zs (xs.take (k + 1 + 1)) (ws ++ [r]) := by
  have hl := (List.getElem?_eq_some_iff.1 hu).1
  obtain ⟨h1, h2⟩ := h
  rw [List.length_take] at h1
  have hw : ws.length = k := by omega
  refine ⟨by rw [List.length_take, List.length_append, List.length_singleton]; omega, fun i x hx => ?_⟩
  rcases Nat.lt_or_ge i k with hi | hi
  · rw [List.getElem?_append_left (by omega)] at hx
    obtain ⟨a, b, g1, g2, g3⟩ := h2 i x hx
    rw [List.getElem?_take] at g1 g2
    split at g1 <;> split at g2
    · exact ⟨a, b, by rw [List.getElem?_take, if_pos (by omega)]; exact g1, by rw [List.getElem?_take, if_pos (by omega)]; exact g2, g3⟩
    all_goals simp at g1 g2
  · have hil := (List.getElem?_eq_some_iff.1 hx).1
    rw [List.length_append, List.length_singleton] at hil
    obtain rfl : i = k := by omega
    rw [List.getElem?_append_right (by omega), hw, Nat.sub_self] at hx
    obtain rfl : r = x := by simpa using hx
    exact ⟨v, u, by rw [List.getElem?_take, if_pos (by omega)]; exact hv, by rw [List.getElem?_take, if_pos (by omega)]; exact hu, hr⟩
theorem walk_till (zs : List (Int × Int × Int)) (xs : List Int) (h : xs ≠ []) : ∀ k, k < xs.length → (∃ ws, WalkIs zs (xs.take (k + 1)) ws) ∨ ∃ j v u ws, j < k ∧ xs[j]? = some v ∧ xs[j + 1]? = some u ∧ NoArc zs v u ∧ WalkIs zs (xs.take (j + 1)) ws
  | 0, _ => Or.inl ⟨[], walk_one zs xs h⟩
  | k + 1, hk => by
    rcases walk_till zs xs h k (by omega) with ⟨ws, hw⟩ | ⟨j, v, u, ws, hj, r⟩
    · have hv : xs[k]? = some xs[k] := List.getElem?_eq_getElem (by omega)
      have hu : xs[k + 1]? = some xs[k + 1] := List.getElem?_eq_getElem hk
      rcases arc_or zs xs[k] xs[k + 1] with ⟨r, hr⟩ | hno
      · exact Or.inl ⟨_, walk_more hw hv hu hr⟩
      · exact Or.inr ⟨k, _, _, ws, by omega, hv, hu, hno, hw⟩
    · exact Or.inr ⟨j, v, u, ws, by omega, r⟩
theorem len_total (n : Nat) (zs : List (Int × Int × Int)) (xs : List Int) : ∃ L E, LenIs n zs xs L E := by
  by_cases h0 : xs = []
  · exact ⟨0, (5, []), Or.inl ⟨h0, rfl, rfl⟩⟩
  · by_cases hb : Nodes n xs
    · have hp := List.length_pos_iff.2 h0
      rcases walk_till zs xs h0 (xs.length - 1) (by omega) with ⟨ws, hw⟩ | ⟨j, v, u, ws, hj, h1, h2, h3, h4⟩
      · rw [show xs.length - 1 + 1 = xs.length by omega, List.take_length] at hw
        exact ⟨_, _, Or.inr (Or.inr (Or.inr ⟨hb, h0, ws, hw, rfl, rfl⟩))⟩
      · exact ⟨_, _, Or.inr (Or.inr (Or.inl ⟨hb, j, v, u, ws, h1, h2, h3, h4, rfl, rfl⟩))⟩
    · rcases first_ex (fun k => ∃ v, xs[k]? = some v ∧ ¬ (0 ≤ v ∧ v < (n : Int))) xs.length with ⟨k, _, ⟨v, hv, hbad⟩, hmin⟩ | hno
      · refine ⟨0, _, Or.inr (Or.inl ⟨k, v, hv, hbad, fun j u hj hu => ?_, rfl, rfl⟩)⟩
        rcases Classical.em (0 ≤ u ∧ u < (n : Int)) with h | h
        · exact h
        · exact absurd ⟨u, hu, h⟩ (hmin j hj)
      · refine absurd (fun v hv => ?_) hb
        obtain ⟨k, hk⟩ := List.getElem?_of_mem hv
        rcases Classical.em (0 ≤ v ∧ v < (n : Int)) with h | h
        · exact h
        · exact absurd ⟨v, hk, h⟩ (hno k (List.getElem?_eq_some_iff.1 hk).1)
/-- how the length of a list of nodes ends. -/
def LenEnd (k0 m : Nat) (ws : List Int) (w' : World) (L : Int) (v : Value) : Prop := (k0 = m ∧ L = ws.sum ∧ IsTold w' (0, []) v) ∨ (k0 < m ∧ L = 0 ∧ IsTold w' (16, [(4, (k0 : Int))]) v)
/-- the tail of a list in memory. -/
theorem isl_tail (b off n lc : Nat) (h : n + 1 ≤ lc) : ∃ off', (∀ w, (Instr.slice 22 (.slice (some ⟨b, off, none⟩) (n + 1) lc) (some (.int .i64 1)) none none).run Tryd.prog w = .ok (.slice (some ⟨b, off', none⟩) n (lc - 1)) w) ∧ (0 < n → off' = off + 1) := by
  refine ⟨if lc = 1 then off else off + 1, fun w => ?_, fun hl => by rw [if_neg (by omega)]⟩
  rw [run_slice_l (ht := Tryd.elemI) (h0 := by omega) (h1 := by omega), Tryd.sizeI]
  simp only [Result.andThen_ok, sliced]
  by_cases e : lc = 1
  · subst e; simp
  · simp [e, Addr.add]

set_option maxRecDepth 100000 in
set_option maxHeartbeats 4000000 in
theorem length_early (Q : World → Value → Prop) (fv : Value) (lv : Value) (f0 f1 f2 : Value) (hfv : fv = .agg #[f0, f1, f2]) (w : World) (hC : ∀ wx, Below w.heap.size w wx → Calls Tryd.prog 27 #[fv, lv] wx fun e w' => ∃ T x, e = .returned (.iface T x) ∧ Q w' (.iface T x) ∧ Below wx.heap.size wx w') :
    Calls Tryd.prog 8 #[fv, lv] w fun e w' => ∃ v, e = .returned (.tuple #[.int .u64 0, v]) ∧ Q w' v ∧ Below w.heap.size w w' := by
  subst hfv
  have HC : Hid (∀ wx, Below w.heap.size w wx → Calls Tryd.prog 27 #[.agg #[f0, f1, f2], lv] wx fun e w' => ∃ T x, e = .returned (.iface T x) ∧ Q w' (.iface T x) ∧ Below wx.heap.size wx w') := hC
  clear hC
  have hB0 : Below w.heap.size w (w.alloc (.cells #[f0, f1, f2] 32)) := (Below.refl _ w).alloc (Nat.le_refl _) _
  have HB0 : Hid (type_of% hB0) := hB0
  have hbx : (w.alloc (.cells #[f0, f1, f2] 32)).heap[w.heap.size]? = some (.cells #[f0, f1, f2] 32) := heap_new _ _
  obtain ⟨c0, c1, c2⟩ := box3 hbx
  have cs := lt_of_get hbx
  clear hB0 hbx
  go_enter Tryd.func8, Tryd.ntmps8
  go_wp2_with fail
  refine (HC.out _ HB0.out).mono ?_
  rintro e w1 ⟨T, x, rfl, hq, hb1⟩
  have HB1 : Hid (Below w.heap.size w w1 ∧ Q w1 (.iface T x)) := ⟨btr HB0.out hb1, hq⟩
  clear hb1 hq c0 c1 c2 cs
  go_wp2
  go_ret2
  exact ⟨_, rfl, HB1.out.2, HB1.out.1⟩

set_option maxRecDepth 100000 in
set_option maxHeartbeats 4000000 in
/-- a list of nodes: as far as it is a walk. -/
theorem length_nodes (n : Nat) (zs : List (Int × Int × Int)) (fo uo wo : Option Addr) (fc tc wc : Nat) (w : World) (hz : Fine n zs) (h : CsrIn w n zs fo uo wo fc tc wc) (htc : zs.length ≤ tc) (lb lof lc : Nat) (x : Int) (xs ws : List Int) (hx : HasInts w (.slice (some ⟨lb, lof, none⟩) (xs.length + 1) lc) (x :: xs)) (hlc : xs.length + 1 ≤ lc) (hll : xs.length < 1000000) (hn : ∀ v ∈ x :: xs, 0 ≤ v ∧ v < (n : Int)) (k0 : Nat) (hk0 : k0 ≤ xs.length) (hW : WalkIs zs ((x :: xs).take (k0 + 1)) ws) (hno : k0 = xs.length ∨ ∃ v u, (x :: xs)[k0]? = some v ∧ (x :: xs)[k0 + 1]? = some u ∧ NoArc zs v u) :
    Calls Tryd.prog 8 #[.agg #[.slice fo (n + 1) fc, .slice uo zs.length tc, .slice wo zs.length wc], .slice (some ⟨lb, lof, none⟩) (xs.length + 1) lc] w fun e w' => ∃ L v, e = .returned (.tuple #[.int .u64 L, v]) ∧ LenEnd k0 xs.length ws w' L v ∧ Below w.heap.size w w' := by
  obtain ⟨W0, hW0⟩ : ∃ W0, w.alloc (.cells #[.slice fo (n + 1) fc, .slice uo zs.length tc, .slice wo zs.length wc] 32) = W0 := ⟨_, rfl⟩
  have HW0 : Hid (w.alloc (.cells #[.slice fo (n + 1) fc, .slice uo zs.length tc, .slice wo zs.length wc] 32) = W0) := hW0
  have hB0 : Below w.heap.size w W0 := by rw [← hW0]; exact (Below.refl _ w).alloc (Nat.le_refl _) _
  have hbx : W0.heap[w.heap.size]? = some (.cells #[.slice fo (n + 1) fc, .slice uo zs.length tc, .slice wo zs.length wc] 32) := by rw [← hW0]; exact heap_new _ _
  have HK : Hid (∀ wx, Below W0.heap.size W0 wx → (wx.cell? ⟨w.heap.size, 0, none⟩ = some (.slice fo (n + 1) fc) ∧ wx.cell? ⟨w.heap.size, 1, none⟩ = some (.slice uo zs.length tc) ∧ wx.cell? ⟨w.heap.size, 2, none⟩ = some (.slice wo zs.length wc)) ∧ w.heap.size < wx.heap.size ∧ Below w.heap.size w wx ∧ HasInts wx (.slice (some ⟨lb, lof, none⟩) (xs.length + 1) lc) (x :: xs) ∧ CsrIn wx n zs fo uo wo fc tc wc) := fun wx hwx => by
    have hg := (hwx.block _ (lt_of_get hbx)).trans hbx
    have hb := hB0.trans (hwx.mono hB0.size)
    exact ⟨box3 hg, lt_of_get hg, hb, hx.keep hb, h.keep hb⟩
  have HCL : Hid (Calls Tryd.prog 27 #[.agg #[.slice fo (n + 1) fc, .slice uo zs.length tc, .slice wo zs.length wc], .slice (some ⟨lb, lof, none⟩) (xs.length + 1) lc] W0 fun e w' => e = .returned .nilIface ∧ Below W0.heap.size W0 w') := checkList_good n zs fo _ wo fc tc wc W0 hz (h.keep hB0) _ lc (x :: xs) (hx.keep hB0) (by simp; omega) (by simp) hn
  have hwl : ws.length = k0 := by have := hW.1; rw [List.length_take] at this; simp at this; omega
  have HST : Hid (∀ wx, Below W0.heap.size W0 wx → ∀ (k : Nat) (v u r : Int) (ok : Bool), k ≤ k0 → (x :: xs)[k]? = some v → StepIs zs v u r ok → (0 ≤ r ∧ r ≤ 2147483647) → Calls Tryd.prog 28 #[.agg #[.slice fo (n + 1) fc, .slice uo zs.length tc, .slice wo zs.length wc], .int .i64 v, .int .i64 u] wx fun e w' => e = .returned (.tuple #[.int .u64 r, .bool ok]) ∧ Below wx.heap.size wx w') := fun wx hwx k v u r ok hk hv hs hr => by
    obtain ⟨v1, v2⟩ := hn v (List.mem_of_getElem? hv)
    obtain ⟨p, rfl⟩ : ∃ p : Nat, v = (p : Int) := ⟨v.toNat, by omega⟩
    exact step_any n zs fo uo wo fc tc wc wx hz (HK.out wx hwx).2.2.2.2 htc p (by omega) u r ok hr hs
  have HWK : Hid (∀ (k : Nat) (r : Int), ws[k]? = some r → ∃ v u, (x :: xs)[k]? = some v ∧ (x :: xs)[k + 1]? = some u ∧ (0 ≤ r ∧ r ≤ 2147483647) ∧ StepIs zs v u r true) := fun k r hr => by
    obtain ⟨v, u, h1, h2, h3⟩ := hW.2 k r hr
    obtain ⟨_, _, _, _, _, g3, g4⟩ := hz.ends _ h3
    rw [List.getElem?_take] at h1 h2
    split at h1 <;> split at h2
    · exact ⟨v, u, h1, h2, ⟨g3, g4⟩, Or.inl ⟨rfl, h3⟩⟩
    all_goals simp at h1 h2
  have HSB : Hid (∀ k : Nat, k ≤ ws.length → 0 ≤ (ws.take k).sum ∧ (ws.take k).sum ≤ (k : Int) * 2147483647) := sum_le fun i r hr => by
    obtain ⟨v, u, _, _, h3⟩ := hW.2 i r hr
    exact ⟨(hz.ends _ h3).2.2.2.2.2.1, (hz.ends _ h3).2.2.2.2.2.2⟩
  have HNO : Hid (type_of% hno) := hno
  have hlc1 : (xs.length : Int) + 1 ≤ (lc : Int) := by omega
  obtain ⟨lof', hs1, hs2⟩ := isl_tail lb lof xs.length lc hlc
  have HS2 : Hid (type_of% hs2) := hs2
  clear h hW0 hB0 hbx hz hx hn hW hno hs2
  go_enter Tryd.func8, Tryd.ntmps8
  obtain ⟨⟨c0, c1, c2⟩, cs, _, _, _⟩ := HK.out W0 (Below.refl _ _)
  go_wp2_with fail
  rw [HW0.out]
  refine HCL.out.mono ?_
  rintro e w1 ⟨rfl, hb1⟩
  have HB1 : Hid (Below W0.heap.size W0 w1) := hb1
  clear hb1 c0 c1 c2 cs
  go_wp2_with fail
  go_loopw [7, 21] (fun sv iv wr => ∃ k : Nat, k ≤ k0 ∧ iv = .int .i64 k ∧ sv = .int .u64 (ws.take k).sum ∧ Below W0.heap.size W0 wr) (fun _ iv _ => xs.length - (intOf iv).toNat)
  case atStart => exact ⟨0, Nat.zero_le _, rfl, by simp, HB1.out⟩
  case round =>
    obtain ⟨k, hk, rfl, rfl, hb⟩ := hrel
    have HBR : Hid (Below W0.heap.size W0 wr) := hb
    obtain ⟨⟨c0, c1, c2⟩, cs, hbw, hV, _⟩ := HK.out wr hb
    have HBZ : Hid (Below w.heap.size w wr) := hbw
    clear hbw hb
    by_cases hlt : k < xs.length
    · obtain ⟨v, u, r, ok, hv, hu, ⟨r0, r1⟩, hSt, hcase⟩ : ∃ v u r ok, (x :: xs)[k]? = some v ∧ (x :: xs)[k + 1]? = some u ∧ (0 ≤ r ∧ r ≤ 2147483647) ∧ StepIs zs v u r ok ∧ ((ok = true ∧ k < k0 ∧ ws[k]? = some r) ∨ (ok = false ∧ k = k0 ∧ r = 0)) := by
        by_cases hkk : k < k0
        · obtain ⟨r, hr⟩ : ∃ r, ws[k]? = some r := ⟨ws[k], List.getElem?_eq_getElem (by omega)⟩
          obtain ⟨v, u, h1, h2, h3, h4⟩ := HWK.out k r hr
          exact ⟨v, u, r, true, h1, h2, h3, h4, Or.inl ⟨rfl, hkk, hr⟩⟩
        · obtain rfl : k = k0 := by omega
          rcases HNO.out with e | ⟨v, u, h1, h2, h3⟩
          · omega
          · exact ⟨v, u, 0, false, h1, h2, ⟨by omega, by omega⟩, Or.inr ⟨rfl, rfl, h3⟩, Or.inr ⟨rfl, rfl, rfl⟩⟩
      have HCS : Hid (∀ wx, Below W0.heap.size W0 wx → Calls Tryd.prog 28 #[.agg #[.slice fo (n + 1) fc, .slice uo zs.length tc, .slice wo zs.length wc], .int .i64 v, .int .i64 u] wx fun e w' => e = .returned (.tuple #[.int .u64 r, .bool ok]) ∧ Below wx.heap.size wx w') := fun wx hwx => HST.out wx hwx k v u r ok hk hv hSt ⟨r0, r1⟩
      have HQV : Hid (∀ wx, Below W0.heap.size W0 wx → wx.cell? ⟨lb, lof + k, none⟩ = some (.int .i64 v) ∧ lb < wx.heap.size) := fun wx hwx => by
        obtain ⟨b, off, e, hbl, q⟩ := (HK.out wx hwx).2.2.2.1.at hv
        cases e
        exact ⟨q, hbl⟩
      obtain ⟨b, off, e, hbl, q0⟩ := hV.at hv
      cases e
      obtain ⟨b, off, e, hbl', q1⟩ := hV.at hu
      cases e
      have q1' : wr.cell? ⟨lb, lof' + k, none⟩ = some (.int .i64 u) := by rw [HS2.out (by omega), show lof + 1 + k = lof + (k + 1) by omega]; exact q1
      have i1 : (k : Int) < (xs.length : Int) := by omega
      have i2 : (0 : Int) ≤ (k : Int) := by omega
      have i3 : (k : Int) < (xs.length : Int) + 1 := by omega
      obtain ⟨s0, s1⟩ := HSB.out k (by omega)
      rcases hcase with ⟨rfl, hkk, hr⟩ | ⟨rfl, rfl, rfl⟩
      · have HS1 : Hid ((ws.take (k + 1)).sum = (ws.take k).sum + r) := sum_take hr
        generalize (ws.take k).sum = S at *
        have sw : IntKind.u64.wrap (S + r) = S + r := by rw [IntKind.wrap_u64] <;> omega
        clear hV hv hu hr q1 hSt
        go_wp2_with fail
        go_region_held3 (fun w' => (w'.cell? ⟨w.heap.size, 0, none⟩ = some (.slice fo (n + 1) fc) ∧ w'.cell? ⟨w.heap.size, 1, none⟩ = some (.slice uo zs.length tc) ∧ w'.cell? ⟨w.heap.size, 2, none⟩ = some (.slice wo zs.length wc)) ∧ w'.cell? ⟨lb, lof + k, none⟩ = some (.int .i64 v)) (go_keep) (first
          | (go_at_call 28; refine (HCS.out _ HBR.out.drew).mono ?_; rintro e w2 ⟨rfl, hb2⟩; have HB2 : Hid (Below W0.heap.size W0 w2) := (HBR.out.drew).trans (hb2.mono HBR.out.size); clear hb2; obtain ⟨⟨d0, d1, d2⟩, ds, _, hV2, _⟩ := HK.out w2 HB2.out; obtain ⟨d3, dl⟩ := HQV.out w2 HB2.out; clear hV2))
        go_wp2
        go_roundw
        case rel => exact ⟨k + 1, by omega, by go_num, by rw [HS1.out], HB2.out⟩
        case measure => simp [intOf]; omega
      · clear hV hv hu q1 hSt
        generalize (ws.take k).sum = S at *
        go_wp2_with fail
        go_region_held3 (fun w' => (w'.cell? ⟨w.heap.size, 0, none⟩ = some (.slice fo (n + 1) fc) ∧ w'.cell? ⟨w.heap.size, 1, none⟩ = some (.slice uo zs.length tc) ∧ w'.cell? ⟨w.heap.size, 2, none⟩ = some (.slice wo zs.length wc)) ∧ w'.cell? ⟨lb, lof + k, none⟩ = some (.int .i64 v)) (go_keep) (first
          | (go_at_call 28; refine (HCS.out _ HBR.out.drew).mono ?_; rintro e w2 ⟨rfl, hb2⟩; have HB2 : Hid (Below W0.heap.size W0 w2) := (HBR.out.drew).trans (hb2.mono HBR.out.size); clear hb2; obtain ⟨⟨d0, d1, d2⟩, ds, _, hV2, _⟩ := HK.out w2 HB2.out; obtain ⟨d3, dl⟩ := HQV.out w2 HB2.out; clear hV2))
        have HBY : Hid (Below w.heap.size w w2) := (HK.out w2 HB2.out).2.2.1
        go_wp2_with (go_at_call 29; refine (at_some _ _ _ _ _).mono ?_; rintro e w9 ⟨rfl, rfl⟩)
        go_ret2
        exact ⟨_, _, rfl, Or.inr ⟨by omega, rfl, Or.inr ⟨by simp, isErr_new (p := (4, (k : Int))) (show IsErr w2 (.iface 52 (.int .i64 16)) [] (.iface 52 (.int .i64 16)) from rfl)⟩⟩, HBY.out.alloc HBY.out.size _⟩
    · obtain rfl : k = xs.length := by omega
      obtain rfl : xs.length = k0 := by omega
      have HSE : Hid ((ws.take xs.length).sum = ws.sum) := by show _ = _; rw [← hwl, List.take_length]
      rw [HSE.out]
      clear hV
      go_wp2
      go_ret2
      exact ⟨_, _, rfl, Or.inl ⟨rfl, rfl, Or.inl ⟨rfl, rfl⟩⟩, HBZ.out⟩
end Go.Proofs.YtdfjmfgbdnpkbaaDoor
