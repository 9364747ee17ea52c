/- walk.last, walk.Shortest, whatever the arrays and the list. walk.Shortest of a walk: is its length the distance? -/
import Derived.Test.YtefcmpdnlbpjpaaSeY
import Derived.Test.YtefcmpdnlbpjpaaWkU
namespace Go.Proofs.Ytefcmpdnlbpjpaa
open Go.RowKit Go.Extern

attribute [local go_sem] Oper.semAt_some

theorem reach_walk {zs : List (Int × Int × Int)} {x : Int} : ∀ {ws xs : List Int}, WalkIs zs xs ws → xs[0]? = some x → ∀ (k : Nat) (v : Int), xs[k]? = some v → ReachN zs x k v (ws.take k).sum := by
  intro ws xs hw h0 k
  induction k with
  | zero =>
    intro v hv
    rw [h0] at hv
    cases hv
    exact ⟨rfl, by simp⟩
  | succ k ih =>
    intro v hv
    have hl := (List.getElem?_eq_some_iff.1 hv).1
    have h1 := hw.1
    obtain ⟨r, hr⟩ : ∃ r, ws[k]? = some r := ⟨ws[k], List.getElem?_eq_getElem (by omega)⟩
    obtain ⟨a, b, g1, g2, g3⟩ := hw.2 k r hr
    rw [g2] at hv
    cases hv
    exact ⟨a, _, r, ih a g1, g3, by rw [sum_take hr]⟩
/-- what the document says of a list: whether it is shortest. -/
def WShort (F T W : List Int) (xs : List Int) (L : Int) (E : Int × List (Int × Int)) (b : Bool) : Prop :=
  (E.1 ≠ 0 ∧ b = false) ∨ (E = (0, []) ∧ ∃ n m zs s D z x, Lens F T W n m ∧ Fine n zs ∧ firsts n zs = F ∧ tos zs = T ∧ weights zs = W ∧ zs.length = m ∧ LenIs n zs xs L E ∧ xs[0]? = some ((s : Nat) : Int) ∧ s < n ∧ IsDist n zs s D ∧ xs[xs.length - 1]? = some ((z : Nat) : Int) ∧ z < n ∧ D[z]? = some x ∧ b = (L == x))

set_option maxRecDepth 100000 in
set_option maxHeartbeats 1000000 in
theorem last9_calls (b off lc q : Nat) (xs : List Int) (z : Int) (w : World) (hx : HasInts w (.slice (some ⟨b, off, none⟩) (q + 1) lc) xs) (hz : xs[q]? = some z) (hq : q < 1000000) : Calls Try.prog 29 #[.slice (some ⟨b, off, none⟩) (q + 1) lc] w fun e w' => e = .returned (.int .i64 z) ∧ w' = w := by
  obtain ⟨b', off', e, hbl, c⟩ := hx.at hz
  cases e
  have e1 : IntKind.i64.wrap ((q : Int) + 1 - 1) = (q : Int) := by rw [IntKind.wrap_i64] <;> omega
  have e2 : IntKind.i64.wrap (q : Int) = (q : Int) := by rw [IntKind.wrap_i64] <;> omega
  have e3 : (q : Int) < (q : Int) + 1 := by omega
  have e4 : (0 : Int) ≤ (q : Int) := by omega
  clear hx hz
  go_enter Try.func29, Try.ntmps29
  go_wp2
  go_ret
  exact ⟨rfl, rfl⟩

set_option maxRecDepth 100000 in
set_option maxHeartbeats 4000000 in
theorem shortest_err (fv lv : Value) (f0 f1 f2 : Value) (hfv : fv = .agg #[f0, f1, f2]) (w : World) (E : Int × List (Int × Int)) (hC : ∀ wx, Below w.heap.size w wx → Calls Try.prog 5 #[fv, lv] wx fun e w' => ∃ T x, e = .returned (.tuple #[.int .u64 0, .iface T x]) ∧ IsTold w' E (.iface T x) ∧ Below wx.heap.size wx w') :
    Calls Try.prog 14 #[fv, lv] w fun e w' => ∃ v, e = .returned (.tuple #[.bool false, v]) ∧ IsTold w' E v ∧ Below w.heap.size w w' := by
  subst hfv
  have HC : Hid (∀ wx, Below w.heap.size w wx → Calls Try.prog 5 #[.agg #[f0, f1, f2], lv] wx fun e w' => ∃ T x, e = .returned (.tuple #[.int .u64 0, .iface T x]) ∧ IsTold w' E (.iface T x) ∧ Below wx.heap.size wx w') := hC
  clear hC
  have hB0 : Below w.heap.size w (w.alloc (.cells #[f0, f1, f2] 27)) := (Below.refl _ w).alloc (Nat.le_refl _) _
  have HB0 : Hid (type_of% hB0) := hB0
  have hbx : (w.alloc (.cells #[f0, f1, f2] 27)).heap[w.heap.size]? = some (.cells #[f0, f1, f2] 27) := heap_new _ _
  obtain ⟨c0, c1, c2⟩ := box3 hbx
  have cs := lt_of_get hbx
  clear hB0 hbx
  go_enter Try.func14, Try.ntmps14
  go_wp2_with fail
  refine (HC.out _ HB0.out).mono ?_
  rintro e w1 ⟨T, x, rfl, hq, hb1⟩
  have HB1 : Hid (Below w.heap.size w w1 ∧ IsTold w1 E (.iface T x)) := ⟨btr HB0.out hb1, hq⟩
  clear hb1 hq c0 c1 c2 cs
  go_wp2
  go_ret2
  exact ⟨_, rfl, HB1.out.2, HB1.out.1⟩

set_option maxRecDepth 100000 in
set_option maxHeartbeats 8000000 in
theorem shortest_walk (n : Nat) (zs : List (Int × Int × Int)) (fo uo wo : Option Addr) (fc tc wc : Nat) (w : World) (hz : Fine n zs) (h : CsrIn w n zs fo uo wo fc tc wc) (lb lof lc q s z : Nat) (xs : List Int) (hx : HasInts w (.slice (some ⟨lb, lof, none⟩) (q + 1) lc) xs) (hq2 : q < 1000000) (hs : xs[0]? = some (s : Int)) (hsn : s < n) (hzz : xs[q]? = some (z : Int)) (hzn : z < n) (D : List Int) (hD : IsDist n zs s D) (dx : Int) (hdx : D[z]? = some dx) (L : Int)
    (hL : ∀ wx, Below w.heap.size w wx → Calls Try.prog 5 #[.agg #[.slice fo (n + 1) fc, .slice uo zs.length tc, .slice wo zs.length wc], .slice (some ⟨lb, lof, none⟩) (q + 1) lc] wx fun e w' => e = .returned (.tuple #[.int .u64 L, .nilIface]) ∧ Below wx.heap.size wx w') :
    Calls Try.prog 14 #[.agg #[.slice fo (n + 1) fc, .slice uo zs.length tc, .slice wo zs.length wc], .slice (some ⟨lb, lof, none⟩) (q + 1) lc] w fun e w' => e = .returned (.tuple #[.bool (L == dx), .nilIface]) ∧ Below w.heap.size w w' := by
  obtain ⟨W0, hW0⟩ : ∃ W0, w.alloc (.cells #[.slice fo (n + 1) fc, .slice uo zs.length tc, .slice wo zs.length wc] 27) = W0 := ⟨_, rfl⟩
  have HW0 : Hid (w.alloc (.cells #[.slice fo (n + 1) fc, .slice uo zs.length tc, .slice wo zs.length wc] 27) = W0) := hW0
  have hB0 : Below w.heap.size w W0 := by rw [← hW0]; exact (Below.refl _ w).alloc (Nat.le_refl _) _
  have hbx : W0.heap[w.heap.size]? = some (.cells #[.slice fo (n + 1) fc, .slice uo zs.length tc, .slice wo zs.length wc] 27) := by rw [← hW0]; exact heap_new _ _
  have HK : Hid (∀ wx, Below W0.heap.size W0 wx → (wx.cell? ⟨w.heap.size, 0, none⟩ = some (.slice fo (n + 1) fc) ∧ wx.cell? ⟨w.heap.size, 1, none⟩ = some (.slice uo zs.length tc) ∧ wx.cell? ⟨w.heap.size, 2, none⟩ = some (.slice wo zs.length wc)) ∧ w.heap.size < wx.heap.size ∧ Below w.heap.size w wx ∧ HasInts wx (.slice (some ⟨lb, lof, none⟩) (q + 1) lc) xs ∧ (wx.cell? ⟨lb, lof, none⟩ = some (.int .i64 s) ∧ lb < wx.heap.size)) := fun wx hwx => by
    have hg := (hwx.block _ (lt_of_get hbx)).trans hbx
    have hb := hB0.trans (hwx.mono hB0.size)
    obtain ⟨b, off, e, hbl, c⟩ := (hx.keep hb).at hs
    cases e
    exact ⟨box3 hg, lt_of_get hg, hb, hx.keep hb, c, hbl⟩
  have HL : Hid (Calls Try.prog 5 #[.agg #[.slice fo (n + 1) fc, .slice uo zs.length tc, .slice wo zs.length wc], .slice (some ⟨lb, lof, none⟩) (q + 1) lc] W0 fun e w' => e = .returned (.tuple #[.int .u64 L, .nilIface]) ∧ Below W0.heap.size W0 w') := hL W0 hB0
  have HFR : Hid (∀ wx, Below W0.heap.size W0 wx → Calls Try.prog 31 #[.agg #[.slice fo (n + 1) fc, .slice uo zs.length tc, .slice wo zs.length wc], .int .i64 s] wx fun e w' => ∃ db, e = .returned (.tuple #[.slice (some ⟨db, 0, none⟩) n n, .nilIface]) ∧ (w'.cell? ⟨db, z, none⟩ = some (.int .u64 dx) ∧ db < w'.heap.size) ∧ Below wx.heap.size wx w') := fun wx hwx => by
    refine (from_good n zs fo uo wo fc tc wc wx hz (h.keep (HK.out wx hwx).2.2.1) s hsn).mono ?_
    rintro e w' ⟨db, D', he, hD', hU, hb⟩
    obtain rfl := hD'.unique hD
    exact ⟨db, he, ⟨(hU.at hdx).1, (hU.at hdx).2.1⟩, hb⟩
  have HZZ : Hid (xs[q]? = some (z : Int)) := hzz
  have hn := hz.few
  have i1 : (z : Int) < (n : Int) := by omega
  have i2 : (0 : Int) ≤ (z : Int) := by omega
  have i3 : (0 : Int) < (q : Int) + 1 := by omega
  clear hW0 hB0 hbx hL hx h hz hs hzz hD hdx
  obtain ⟨⟨c0, c1, c2⟩, cs, _, _, _⟩ := HK.out W0 (Below.refl _ _)
  go_enter Try.func14, Try.ntmps14
  go_wp2_with fail
  rw [HW0.out]
  refine HL.out.mono ?_
  rintro e w1 ⟨rfl, hb1⟩
  have HB1 : Hid (Below W0.heap.size W0 w1) := hb1
  clear hb1 c0 c1 c2 cs
  obtain ⟨⟨c0, c1, c2⟩, cs, _, _, k0, k1⟩ := HK.out w1 HB1.out
  go_wp2_with fail
  go_region_held3 (fun w' => (w'.cell? ⟨w.heap.size, 0, none⟩ = some (.slice fo (n + 1) fc) ∧ w'.cell? ⟨w.heap.size, 1, none⟩ = some (.slice uo zs.length tc) ∧ w'.cell? ⟨w.heap.size, 2, none⟩ = some (.slice wo zs.length wc)) ∧ w'.cell? ⟨lb, lof, none⟩ = some (.int .i64 s)) (go_keep) (first
    | (go_at_call 31; refine (HFR.out _ HB1.out.drew).mono ?_; rintro e w2 ⟨db, rfl, hc, hb2⟩; have HB2 : Hid (Below W0.heap.size W0 w2 ∧ (w2.cell? ⟨db, z, none⟩ = some (.int .u64 dx) ∧ db < w2.heap.size)) := ⟨(HB1.out.drew).trans (hb2.mono HB1.out.size), hc⟩; clear hb2 hc; obtain ⟨⟨d0, d1, d2⟩, ds, _, _, d3, d4⟩ := HK.out w2 HB2.out.1))
  have HLS : Hid (type_of% (last9_calls lb lof lc q xs z w2 (HK.out w2 HB2.out.1).2.2.2.1 HZZ.out hq2)) := last9_calls lb lof lc q xs z w2 (HK.out w2 HB2.out.1).2.2.2.1 HZZ.out hq2
  obtain ⟨q0, q1⟩ := HB2.out.2
  have HBZ : Hid (Below w.heap.size w w2) := (HK.out w2 HB2.out.1).2.2.1
  go_wp2_with fail
  refine HLS.out.mono ?_
  rintro e w3 ⟨rfl, rfl⟩
  go_wp2
  go_ret2
  exact ⟨rfl, HBZ.out⟩
end Go.Proofs.Ytefcmpdnlbpjpaa

namespace Go.Proofs.Ytefcmpdnlbpjpaa
open Go.RowKit Go.Extern

attribute [local go_sem] Oper.semAt_some

/-- is the length the distance? -/
def ShortAns (n : Nat) (zs : List (Int × Int × Int)) (s z : Nat) (L : Int) (b : Bool) : Prop := ∃ D dx, IsDist n zs s D ∧ D[z]? = some dx ∧ b = (L == dx)

set_option maxRecDepth 100000 in
set_option maxHeartbeats 8000000 in
theorem shortest_ex (n : Nat) (zs : List (Int × Int × Int)) (fo uo wo : Option Addr) (fc tc wc : Nat) (w : World) (hz : Fine n zs) (h : CsrIn w n zs fo uo wo fc tc wc) (lb lof lc q s z : Nat) (xs : List Int) (hx : HasInts w (.slice (some ⟨lb, lof, none⟩) (q + 1) lc) xs) (hq2 : q < 1000000) (hs : xs[0]? = some (s : Int)) (hsn : s < n) (hzz : xs[q]? = some (z : Int)) (hzn : z < n) (L : Int)
    (hL : ∀ wx, Below w.heap.size w wx → Calls Try.prog 5 #[.agg #[.slice fo (n + 1) fc, .slice uo zs.length tc, .slice wo zs.length wc], .slice (some ⟨lb, lof, none⟩) (q + 1) lc] wx fun e w' => e = .returned (.tuple #[.int .u64 L, .nilIface]) ∧ Below wx.heap.size wx w') :
    Calls Try.prog 14 #[.agg #[.slice fo (n + 1) fc, .slice uo zs.length tc, .slice wo zs.length wc], .slice (some ⟨lb, lof, none⟩) (q + 1) lc] w fun e w' => ∃ b, e = .returned (.tuple #[.bool b, .nilIface]) ∧ ShortAns n zs s z L b ∧ Below w.heap.size w w' := by
  obtain ⟨W0, hW0⟩ : ∃ W0, w.alloc (.cells #[.slice fo (n + 1) fc, .slice uo zs.length tc, .slice wo zs.length wc] 27) = W0 := ⟨_, rfl⟩
  have HW0 : Hid (w.alloc (.cells #[.slice fo (n + 1) fc, .slice uo zs.length tc, .slice wo zs.length wc] 27) = W0) := hW0
  have hB0 : Below w.heap.size w W0 := by rw [← hW0]; exact (Below.refl _ w).alloc (Nat.le_refl _) _
  have hbx : W0.heap[w.heap.size]? = some (.cells #[.slice fo (n + 1) fc, .slice uo zs.length tc, .slice wo zs.length wc] 27) := by rw [← hW0]; exact heap_new _ _
  have HK : Hid (∀ wx, Below W0.heap.size W0 wx → (wx.cell? ⟨w.heap.size, 0, none⟩ = some (.slice fo (n + 1) fc) ∧ wx.cell? ⟨w.heap.size, 1, none⟩ = some (.slice uo zs.length tc) ∧ wx.cell? ⟨w.heap.size, 2, none⟩ = some (.slice wo zs.length wc)) ∧ w.heap.size < wx.heap.size ∧ Below w.heap.size w wx ∧ HasInts wx (.slice (some ⟨lb, lof, none⟩) (q + 1) lc) xs ∧ (wx.cell? ⟨lb, lof, none⟩ = some (.int .i64 s) ∧ lb < wx.heap.size)) := fun wx hwx => by
    have hg := (hwx.block _ (lt_of_get hbx)).trans hbx
    have hb := hB0.trans (hwx.mono hB0.size)
    obtain ⟨b, off, e, hbl, c⟩ := (hx.keep hb).at hs
    cases e
    exact ⟨box3 hg, lt_of_get hg, hb, hx.keep hb, c, hbl⟩
  have HL : Hid (Calls Try.prog 5 #[.agg #[.slice fo (n + 1) fc, .slice uo zs.length tc, .slice wo zs.length wc], .slice (some ⟨lb, lof, none⟩) (q + 1) lc] W0 fun e w' => e = .returned (.tuple #[.int .u64 L, .nilIface]) ∧ Below W0.heap.size W0 w') := hL W0 hB0
  have HFR : Hid (∀ wx, Below W0.heap.size W0 wx → Calls Try.prog 31 #[.agg #[.slice fo (n + 1) fc, .slice uo zs.length tc, .slice wo zs.length wc], .int .i64 s] wx fun e w' => ∃ db dx, e = .returned (.tuple #[.slice (some ⟨db, 0, none⟩) n n, .nilIface]) ∧ (w'.cell? ⟨db, z, none⟩ = some (.int .u64 dx) ∧ db < w'.heap.size) ∧ ShortAns n zs s z L (L == dx) ∧ Below wx.heap.size wx w') := fun wx hwx => by
    refine (from_good n zs fo uo wo fc tc wc wx hz (h.keep (HK.out wx hwx).2.2.1) s hsn).mono ?_
    rintro e w' ⟨db, D', he, hD', hU, hb⟩
    obtain ⟨dx, hdx, _⟩ := hD'.2 z hzn
    exact ⟨db, dx, he, ⟨(hU.at hdx).1, (hU.at hdx).2.1⟩, ⟨D', dx, hD', hdx, rfl⟩, hb⟩
  have HZZ : Hid (xs[q]? = some (z : Int)) := hzz
  have hn := hz.few
  have i1 : (z : Int) < (n : Int) := by omega
  have i2 : (0 : Int) ≤ (z : Int) := by omega
  have i3 : (0 : Int) < (q : Int) + 1 := by omega
  clear hW0 hB0 hbx hL hx h hz hs hzz
  obtain ⟨⟨c0, c1, c2⟩, cs, _, _, _⟩ := HK.out W0 (Below.refl _ _)
  go_enter Try.func14, Try.ntmps14
  go_wp2_with fail
  rw [HW0.out]
  refine HL.out.mono ?_
  rintro e w1 ⟨rfl, hb1⟩
  have HB1 : Hid (Below W0.heap.size W0 w1) := hb1
  clear hb1 c0 c1 c2 cs
  obtain ⟨⟨c0, c1, c2⟩, cs, _, _, k0, k1⟩ := HK.out w1 HB1.out
  go_wp2_with fail
  go_region_held3 (fun w' => (w'.cell? ⟨w.heap.size, 0, none⟩ = some (.slice fo (n + 1) fc) ∧ w'.cell? ⟨w.heap.size, 1, none⟩ = some (.slice uo zs.length tc) ∧ w'.cell? ⟨w.heap.size, 2, none⟩ = some (.slice wo zs.length wc)) ∧ w'.cell? ⟨lb, lof, none⟩ = some (.int .i64 s)) (go_keep) (first
    | (go_at_call 31; refine (HFR.out _ HB1.out.drew).mono ?_; rintro e w2 ⟨db, dx, rfl, hc, hSA, hb2⟩; have HSA : Hid (ShortAns n zs s z L (L == dx)) := hSA; clear hSA; have HB2 : Hid (Below W0.heap.size W0 w2 ∧ (w2.cell? ⟨db, z, none⟩ = some (.int .u64 dx) ∧ db < w2.heap.size)) := ⟨(HB1.out.drew).trans (hb2.mono HB1.out.size), hc⟩; clear hb2 hc; obtain ⟨⟨d0, d1, d2⟩, ds, _, _, d3, d4⟩ := HK.out w2 HB2.out.1))
  have HLS : Hid (type_of% (last9_calls lb lof lc q xs z w2 (HK.out w2 HB2.out.1).2.2.2.1 HZZ.out hq2)) := last9_calls lb lof lc q xs z w2 (HK.out w2 HB2.out.1).2.2.2.1 HZZ.out hq2
  obtain ⟨q0, q1⟩ := HB2.out.2
  have HBZ : Hid (Below w.heap.size w w2) := (HK.out w2 HB2.out.1).2.2.1
  go_wp2_with fail
  refine HLS.out.mono ?_
  rintro e w3 ⟨rfl, rfl⟩

  go_wp2
  go_ret2
  exact ⟨_, rfl, HSA.out, HBZ.out⟩
end Go.Proofs.Ytefcmpdnlbpjpaa
