/- walk.last, walk.Shortest, whatever the arrays and the list. walk.Shortest of a walk: is its length the distance? viaductref09.DocLength whatever arrays and list; DocShortest. -/
import Derived.Test.YtdfjmfgbdnpkbaaDoorSeA
import Derived.Test.YtdfjmfgbdnpkbaaDoorWkU
import Derived.Test.YtdfjmfgbdnpkbaaDoorWnL
import Derived.Test.YtdfjmfgbdnpkbaaDoorSrF
namespace Go.Proofs.YtdfjmfgbdnpkbaaDoor
open Go.RowKit Go.Extern

attribute [local go_sem] Oper.semAt_some

theorem reach_walk {zs : List (Int × Int × Int)} {x : Int} : ∀ {ws xs : List Int}, WalkIs zs xs ws → xs[0]? = some x → ∀ (k : Nat) (v : Int), xs[k]? = some v → ReachN zs x k v (ws.take k).sum := by
  intro ws xs hw h0 k
  induction k with
  | zero =>
    intro v hv
    rw [h0] at hv
    cases hv
    exact ⟨rfl, by simp⟩
  | succ k ih =>
    intro v hv
    have hl := (List.getElem?_eq_some_iff.1 hv).1
    have h1 := hw.1
    obtain ⟨r, hr⟩ : ∃ r, ws[k]? = some r := ⟨ws[k], List.getElem?_eq_getElem (by omega)⟩
    obtain ⟨a, b, g1, g2, g3⟩ := hw.2 k r hr
    rw [g2] at hv
    cases hv
    exact ⟨a, _, r, ih a g1, g3, by rw [sum_take hr]⟩
/-- what the document says of a list: whether it is shortest. -/
def WShort (F T W : List Int) (xs : List Int) (L : Int) (E : Int × List (Int × Int)) (b : Bool) : Prop :=
  (E.1 ≠ 0 ∧ b = false) ∨ (E = (0, []) ∧ ∃ n m zs s D z x, Lens F T W n m ∧ Fine n zs ∧ firsts n zs = F ∧ tos zs = T ∧ weights zs = W ∧ zs.length = m ∧ LenIs n zs xs L E ∧ xs[0]? = some ((s : Nat) : Int) ∧ s < n ∧ IsDist n zs s D ∧ xs[xs.length - 1]? = some ((z : Nat) : Int) ∧ z < n ∧ D[z]? = some x ∧ b = (L == x))

set_option maxRecDepth 100000 in
set_option maxHeartbeats 1000000 in
theorem last9_calls (b off lc q : Nat) (xs : List Int) (z : Int) (w : World) (hx : HasInts w (.slice (some ⟨b, off, none⟩) (q + 1) lc) xs) (hz : xs[q]? = some z) (hq : q < 1000000) : Calls Tryd.prog 35 #[.slice (some ⟨b, off, none⟩) (q + 1) lc] w fun e w' => e = .returned (.int .i64 z) ∧ w' = w := by
  obtain ⟨b', off', e, hbl, c⟩ := hx.at hz
  cases e
  have e1 : IntKind.i64.wrap ((q : Int) + 1 - 1) = (q : Int) := by rw [IntKind.wrap_i64] <;> omega
  have e2 : IntKind.i64.wrap (q : Int) = (q : Int) := by rw [IntKind.wrap_i64] <;> omega
  have e3 : (q : Int) < (q : Int) + 1 := by omega
  have e4 : (0 : Int) ≤ (q : Int) := by omega
  clear hx hz
  go_enter Tryd.func35, Tryd.ntmps35
  go_wp2
  go_ret
  exact ⟨rfl, rfl⟩

set_option maxRecDepth 100000 in
set_option maxHeartbeats 4000000 in
theorem shortest_err (fv lv : Value) (f0 f1 f2 : Value) (hfv : fv = .agg #[f0, f1, f2]) (w : World) (E : Int × List (Int × Int)) (hC : ∀ wx, Below w.heap.size w wx → Calls Tryd.prog 8 #[fv, lv] wx fun e w' => ∃ T x, e = .returned (.tuple #[.int .u64 0, .iface T x]) ∧ IsTold w' E (.iface T x) ∧ Below wx.heap.size wx w') :
    Calls Tryd.prog 13 #[fv, lv] w fun e w' => ∃ v, e = .returned (.tuple #[.bool false, v]) ∧ IsTold w' E v ∧ Below w.heap.size w w' := by
  subst hfv
  have HC : Hid (∀ wx, Below w.heap.size w wx → Calls Tryd.prog 8 #[.agg #[f0, f1, f2], lv] wx fun e w' => ∃ T x, e = .returned (.tuple #[.int .u64 0, .iface T x]) ∧ IsTold w' E (.iface T x) ∧ Below wx.heap.size wx w') := hC
  clear hC
  have hB0 : Below w.heap.size w (w.alloc (.cells #[f0, f1, f2] 32)) := (Below.refl _ w).alloc (Nat.le_refl _) _
  have HB0 : Hid (type_of% hB0) := hB0
  have hbx : (w.alloc (.cells #[f0, f1, f2] 32)).heap[w.heap.size]? = some (.cells #[f0, f1, f2] 32) := heap_new _ _
  obtain ⟨c0, c1, c2⟩ := box3 hbx
  have cs := lt_of_get hbx
  clear hB0 hbx
  go_enter Tryd.func13, Tryd.ntmps13
  go_wp2_with fail
  refine (HC.out _ HB0.out).mono ?_
  rintro e w1 ⟨T, x, rfl, hq, hb1⟩
  have HB1 : Hid (Below w.heap.size w w1 ∧ IsTold w1 E (.iface T x)) := ⟨btr HB0.out hb1, hq⟩
  clear hb1 hq c0 c1 c2 cs
  go_wp2
  go_ret2
  exact ⟨_, rfl, HB1.out.2, HB1.out.1⟩

set_option maxRecDepth 100000 in
set_option maxHeartbeats 8000000 in
theorem shortest_walk (n : Nat) (zs : List (Int × Int × Int)) (fo uo wo : Option Addr) (fc tc wc : Nat) (w : World) (hz : Fine n zs) (h : CsrIn w n zs fo uo wo fc tc wc) (lb lof lc q s z : Nat) (xs : List Int) (hx : HasInts w (.slice (some ⟨lb, lof, none⟩) (q + 1) lc) xs) (hq2 : q < 1000000) (hs : xs[0]? = some (s : Int)) (hsn : s < n) (hzz : xs[q]? = some (z : Int)) (hzn : z < n) (D : List Int) (hD : IsDist n zs s D) (dx : Int) (hdx : D[z]? = some dx) (L : Int)
    (hL : ∀ wx, Below w.heap.size w wx → Calls Tryd.prog 8 #[.agg #[.slice fo (n + 1) fc, .slice uo zs.length tc, .slice wo zs.length wc], .slice (some ⟨lb, lof, none⟩) (q + 1) lc] wx fun e w' => e = .returned (.tuple #[.int .u64 L, .nilIface]) ∧ Below wx.heap.size wx w') :
    Calls Tryd.prog 13 #[.agg #[.slice fo (n + 1) fc, .slice uo zs.length tc, .slice wo zs.length wc], .slice (some ⟨lb, lof, none⟩) (q + 1) lc] w fun e w' => e = .returned (.tuple #[.bool (L == dx), .nilIface]) ∧ Below w.heap.size w w' := by
  obtain ⟨W0, hW0⟩ : ∃ W0, w.alloc (.cells #[.slice fo (n + 1) fc, .slice uo zs.length tc, .slice wo zs.length wc] 32) = W0 := ⟨_, rfl⟩
  have HW0 : Hid (w.alloc (.cells #[.slice fo (n + 1) fc, .slice uo zs.length tc, .slice wo zs.length wc] 32) = W0) := hW0
  have hB0 : Below w.heap.size w W0 := by rw [← hW0]; exact (Below.refl _ w).alloc (Nat.le_refl _) _
  have hbx : W0.heap[w.heap.size]? = some (.cells #[.slice fo (n + 1) fc, .slice uo zs.length tc, .slice wo zs.length wc] 32) := by rw [← hW0]; exact heap_new _ _
  have HK : Hid (∀ wx, Below W0.heap.size W0 wx → (wx.cell? ⟨w.heap.size, 0, none⟩ = some (.slice fo (n + 1) fc) ∧ wx.cell? ⟨w.heap.size, 1, none⟩ = some (.slice uo zs.length tc) ∧ wx.cell? ⟨w.heap.size, 2, none⟩ = some (.slice wo zs.length wc)) ∧ w.heap.size < wx.heap.size ∧ Below w.heap.size w wx ∧ HasInts wx (.slice (some ⟨lb, lof, none⟩) (q + 1) lc) xs ∧ (wx.cell? ⟨lb, lof, none⟩ = some (.int .i64 s) ∧ lb < wx.heap.size)) := fun wx hwx => by
    have hg := (hwx.block _ (lt_of_get hbx)).trans hbx
    have hb := hB0.trans (hwx.mono hB0.size)
    obtain ⟨b, off, e, hbl, c⟩ := (hx.keep hb).at hs
    cases e
    exact ⟨box3 hg, lt_of_get hg, hb, hx.keep hb, c, hbl⟩
  have HL : Hid (Calls Tryd.prog 8 #[.agg #[.slice fo (n + 1) fc, .slice uo zs.length tc, .slice wo zs.length wc], .slice (some ⟨lb, lof, none⟩) (q + 1) lc] W0 fun e w' => e = .returned (.tuple #[.int .u64 L, .nilIface]) ∧ Below W0.heap.size W0 w') := hL W0 hB0
  have HFR : Hid (∀ wx, Below W0.heap.size W0 wx → Calls Tryd.prog 34 #[.agg #[.slice fo (n + 1) fc, .slice uo zs.length tc, .slice wo zs.length wc], .int .i64 s] wx fun e w' => ∃ db, e = .returned (.tuple #[.slice (some ⟨db, 0, none⟩) n n, .nilIface]) ∧ (w'.cell? ⟨db, z, none⟩ = some (.int .u64 dx) ∧ db < w'.heap.size) ∧ Below wx.heap.size wx w') := fun wx hwx => by
    refine (from_good n zs fo uo wo fc tc wc wx hz (h.keep (HK.out wx hwx).2.2.1) s hsn).mono ?_
    rintro e w' ⟨db, D', he, hD', hU, hb⟩
    obtain rfl := hD'.unique hD
    exact ⟨db, he, ⟨(hU.at hdx).1, (hU.at hdx).2.1⟩, hb⟩
  have HZZ : Hid (xs[q]? = some (z : Int)) := hzz
  have hn := hz.few
  have i1 : (z : Int) < (n : Int) := by omega
  have i2 : (0 : Int) ≤ (z : Int) := by omega
  have i3 : (0 : Int) < (q : Int) + 1 := by omega
  clear hW0 hB0 hbx hL hx h hz hs hzz hD hdx
  obtain ⟨⟨c0, c1, c2⟩, cs, _, _, _⟩ := HK.out W0 (Below.refl _ _)
  go_enter Tryd.func13, Tryd.ntmps13
  go_wp2_with fail
  rw [HW0.out]
  refine HL.out.mono ?_
  rintro e w1 ⟨rfl, hb1⟩
  have HB1 : Hid (Below W0.heap.size W0 w1) := hb1
  clear hb1 c0 c1 c2 cs
  obtain ⟨⟨c0, c1, c2⟩, cs, _, _, k0, k1⟩ := HK.out w1 HB1.out
  go_wp2_with fail
  go_region_held3 (fun w' => (w'.cell? ⟨w.heap.size, 0, none⟩ = some (.slice fo (n + 1) fc) ∧ w'.cell? ⟨w.heap.size, 1, none⟩ = some (.slice uo zs.length tc) ∧ w'.cell? ⟨w.heap.size, 2, none⟩ = some (.slice wo zs.length wc)) ∧ w'.cell? ⟨lb, lof, none⟩ = some (.int .i64 s)) (go_keep) (first
    | (go_at_call 34; refine (HFR.out _ HB1.out.drew).mono ?_; rintro e w2 ⟨db, rfl, hc, hb2⟩; have HB2 : Hid (Below W0.heap.size W0 w2 ∧ (w2.cell? ⟨db, z, none⟩ = some (.int .u64 dx) ∧ db < w2.heap.size)) := ⟨(HB1.out.drew).trans (hb2.mono HB1.out.size), hc⟩; clear hb2 hc; obtain ⟨⟨d0, d1, d2⟩, ds, _, _, d3, d4⟩ := HK.out w2 HB2.out.1))
  have HLS : Hid (type_of% (last9_calls lb lof lc q xs z w2 (HK.out w2 HB2.out.1).2.2.2.1 HZZ.out hq2)) := last9_calls lb lof lc q xs z w2 (HK.out w2 HB2.out.1).2.2.2.1 HZZ.out hq2
  obtain ⟨q0, q1⟩ := HB2.out.2
  have HBZ : Hid (Below w.heap.size w w2) := (HK.out w2 HB2.out.1).2.2.1
  go_wp2_with fail
  refine HLS.out.mono ?_
  rintro e w3 ⟨rfl, rfl⟩
  go_wp2
  go_ret2
  exact ⟨rfl, HBZ.out⟩
end Go.Proofs.YtdfjmfgbdnpkbaaDoor

namespace Go.Proofs.YtdfjmfgbdnpkbaaDoor
open Go.RowKit Go.Extern

attribute [local go_sem] Oper.semAt_some

/-- is the length the distance? -/
def ShortAns (n : Nat) (zs : List (Int × Int × Int)) (s z : Nat) (L : Int) (b : Bool) : Prop := ∃ D dx, IsDist n zs s D ∧ D[z]? = some dx ∧ b = (L == dx)

set_option maxRecDepth 100000 in
set_option maxHeartbeats 8000000 in
theorem shortest_ex (n : Nat) (zs : List (Int × Int × Int)) (fo uo wo : Option Addr) (fc tc wc : Nat) (w : World) (hz : Fine n zs) (h : CsrIn w n zs fo uo wo fc tc wc) (lb lof lc q s z : Nat) (xs : List Int) (hx : HasInts w (.slice (some ⟨lb, lof, none⟩) (q + 1) lc) xs) (hq2 : q < 1000000) (hs : xs[0]? = some (s : Int)) (hsn : s < n) (hzz : xs[q]? = some (z : Int)) (hzn : z < n) (L : Int)
    (hL : ∀ wx, Below w.heap.size w wx → Calls Tryd.prog 8 #[.agg #[.slice fo (n + 1) fc, .slice uo zs.length tc, .slice wo zs.length wc], .slice (some ⟨lb, lof, none⟩) (q + 1) lc] wx fun e w' => e = .returned (.tuple #[.int .u64 L, .nilIface]) ∧ Below wx.heap.size wx w') :
    Calls Tryd.prog 13 #[.agg #[.slice fo (n + 1) fc, .slice uo zs.length tc, .slice wo zs.length wc], .slice (some ⟨lb, lof, none⟩) (q + 1) lc] w fun e w' => ∃ b, e = .returned (.tuple #[.bool b, .nilIface]) ∧ ShortAns n zs s z L b ∧ Below w.heap.size w w' := by
  obtain ⟨W0, hW0⟩ : ∃ W0, w.alloc (.cells #[.slice fo (n + 1) fc, .slice uo zs.length tc, .slice wo zs.length wc] 32) = W0 := ⟨_, rfl⟩
  have HW0 : Hid (w.alloc (.cells #[.slice fo (n + 1) fc, .slice uo zs.length tc, .slice wo zs.length wc] 32) = W0) := hW0
  have hB0 : Below w.heap.size w W0 := by rw [← hW0]; exact (Below.refl _ w).alloc (Nat.le_refl _) _
  have hbx : W0.heap[w.heap.size]? = some (.cells #[.slice fo (n + 1) fc, .slice uo zs.length tc, .slice wo zs.length wc] 32) := by rw [← hW0]; exact heap_new _ _
  have HK : Hid (∀ wx, Below W0.heap.size W0 wx → (wx.cell? ⟨w.heap.size, 0, none⟩ = some (.slice fo (n + 1) fc) ∧ wx.cell? ⟨w.heap.size, 1, none⟩ = some (.slice uo zs.length tc) ∧ wx.cell? ⟨w.heap.size, 2, none⟩ = some (.slice wo zs.length wc)) ∧ w.heap.size < wx.heap.size ∧ Below w.heap.size w wx ∧ HasInts wx (.slice (some ⟨lb, lof, none⟩) (q + 1) lc) xs ∧ (wx.cell? ⟨lb, lof, none⟩ = some (.int .i64 s) ∧ lb < wx.heap.size)) := fun wx hwx => by
    have hg := (hwx.block _ (lt_of_get hbx)).trans hbx
    have hb := hB0.trans (hwx.mono hB0.size)
    obtain ⟨b, off, e, hbl, c⟩ := (hx.keep hb).at hs
    cases e
    exact ⟨box3 hg, lt_of_get hg, hb, hx.keep hb, c, hbl⟩
  have HL : Hid (Calls Tryd.prog 8 #[.agg #[.slice fo (n + 1) fc, .slice uo zs.length tc, .slice wo zs.length wc], .slice (some ⟨lb, lof, none⟩) (q + 1) lc] W0 fun e w' => e = .returned (.tuple #[.int .u64 L, .nilIface]) ∧ Below W0.heap.size W0 w') := hL W0 hB0
  have HFR : Hid (∀ wx, Below W0.heap.size W0 wx → Calls Tryd.prog 34 #[.agg #[.slice fo (n + 1) fc, .slice uo zs.length tc, .slice wo zs.length wc], .int .i64 s] wx fun e w' => ∃ db dx, e = .returned (.tuple #[.slice (some ⟨db, 0, none⟩) n n, .nilIface]) ∧ (w'.cell? ⟨db, z, none⟩ = some (.int .u64 dx) ∧ db < w'.heap.size) ∧ ShortAns n zs s z L (L == dx) ∧ Below wx.heap.size wx w') := fun wx hwx => by
    refine (from_good n zs fo uo wo fc tc wc wx hz (h.keep (HK.out wx hwx).2.2.1) s hsn).mono ?_
    rintro e w' ⟨db, D', he, hD', hU, hb⟩
    obtain ⟨dx, hdx, _⟩ := hD'.2 z hzn
    exact ⟨db, dx, he, ⟨(hU.at hdx).1, (hU.at hdx).2.1⟩, ⟨D', dx, hD', hdx, rfl⟩, hb⟩
  have HZZ : Hid (xs[q]? = some (z : Int)) := hzz
  have hn := hz.few
  have i1 : (z : Int) < (n : Int) := by omega
  have i2 : (0 : Int) ≤ (z : Int) := by omega
  have i3 : (0 : Int) < (q : Int) + 1 := by omega
  clear hW0 hB0 hbx hL hx h hz hs hzz
  obtain ⟨⟨c0, c1, c2⟩, cs, _, _, _⟩ := HK.out W0 (Below.refl _ _)
  go_enter Tryd.func13, Tryd.ntmps13
  go_wp2_with fail
  rw [HW0.out]
  refine HL.out.mono ?_
  rintro e w1 ⟨rfl, hb1⟩
  have HB1 : Hid (Below W0.heap.size W0 w1) := hb1
  clear hb1 c0 c1 c2 cs
  obtain ⟨⟨c0, c1, c2⟩, cs, _, _, k0, k1⟩ := HK.out w1 HB1.out
  go_wp2_with fail
  go_region_held3 (fun w' => (w'.cell? ⟨w.heap.size, 0, none⟩ = some (.slice fo (n + 1) fc) ∧ w'.cell? ⟨w.heap.size, 1, none⟩ = some (.slice uo zs.length tc) ∧ w'.cell? ⟨w.heap.size, 2, none⟩ = some (.slice wo zs.length wc)) ∧ w'.cell? ⟨lb, lof, none⟩ = some (.int .i64 s)) (go_keep) (first
    | (go_at_call 34; refine (HFR.out _ HB1.out.drew).mono ?_; rintro e w2 ⟨db, dx, rfl, hc, hSA, hb2⟩; have HSA : Hid (ShortAns n zs s z L (L == dx)) := hSA; clear hSA; have HB2 : Hid (Below W0.heap.size W0 w2 ∧ (w2.cell? ⟨db, z, none⟩ = some (.int .u64 dx) ∧ db < w2.heap.size)) := ⟨(HB1.out.drew).trans (hb2.mono HB1.out.size), hc⟩; clear hb2 hc; obtain ⟨⟨d0, d1, d2⟩, ds, _, _, d3, d4⟩ := HK.out w2 HB2.out.1))
  have HLS : Hid (type_of% (last9_calls lb lof lc q xs z w2 (HK.out w2 HB2.out.1).2.2.2.1 HZZ.out hq2)) := last9_calls lb lof lc q xs z w2 (HK.out w2 HB2.out.1).2.2.2.1 HZZ.out hq2
  obtain ⟨q0, q1⟩ := HB2.out.2
  have HBZ : Hid (Below w.heap.size w w2) := (HK.out w2 HB2.out.1).2.2.1
  go_wp2_with fail
  refine HLS.out.mono ?_
  rintro e w3 ⟨rfl, rfl⟩

  go_wp2
  go_ret2
  exact ⟨_, rfl, HSA.out, HBZ.out⟩
end Go.Proofs.YtdfjmfgbdnpkbaaDoor

namespace Go.Proofs.YtdfjmfgbdnpkbaaDoor
open Go.RowKit Go.Extern

attribute [local go_sem] Oper.semAt_some

theorem docLength_any (fo uo wo : Option Addr) (fc tc wc : Nat) (F T W : List Int) (C : Int × List (Int × Int)) (hC : ChkIs F T W C) (hm : F.length ≤ maxLen) (w : World) (hA : Arr w F T W fo uo wo fc tc wc) (no : Option Addr) (nc : Nat) (xs : List Int) (hx : HasInts w (.slice no xs.length nc) xs) (hxl : xs.length ≤ 1000000) (L : Int) (E : Int × List (Int × Int)) (hL : WLen F T W C xs L E) :
    Calls Tryd.prog 11 #[.agg #[.slice fo F.length fc, .slice uo T.length tc, .slice wo W.length wc], .slice no xs.length nc] w (LAns w L E) := by
  have hD : ∀ wx, Below w.heap.size w wx → Calls Tryd.prog 25 #[.agg #[.slice fo F.length fc, .slice uo T.length tc, .slice wo W.length wc]] wx (DocAns wx C) := fun wx hb => docCheck_any fo uo wo _ fc _ tc _ wc F T W C wx (hA.f.keep hb) (hA.t.keep hb) (hA.w.keep hb) hm hC
  rcases hL with ⟨h1, rfl, rfl⟩ | ⟨rfl, n, m, zs, g1, hz, g3, g4, g5, g6, hl⟩
  · exact docLength_bad fo uo wo _ fc _ tc _ wc w no _ nc E.1 E.2 h1 hD
  · have hI : CsrIn w n zs fo uo wo fc tc wc := (csrIn_of hA.f hA.t hA.w g1 g3 g4 g5 g6).2.2.2
    have f1 : F.length = n + 1 := g1.f
    have f2 : T.length = zs.length := by rw [g1.t, g6]
    have f3 : W.length = zs.length := by rw [g1.w, g6]
    rw [f1, f2, f3] at hD ⊢
    rcases hl with ⟨rfl, rfl, rfl⟩ | ⟨k, v, hk, hbad, hok, rfl, rfl⟩ | ⟨hn, k, v, u, ws, hv, hu, hno, hw, rfl, rfl⟩ | ⟨hn, h0, ws, hw, rfl, rfl⟩
    · exact docLength_none fo uo wo _ fc _ tc _ wc w no nc hD
    · exact docLength_node fo uo wo n fc tc wc zs w no nc xs hz hx hxl k v hk hbad hok hD
    · have hkl := (List.getElem?_eq_some_iff.1 hu).1
      obtain ⟨b, off, rfl, _, _⟩ := hx.cells (by omega)
      exact docLength_nodes fo uo wo n fc tc wc zs w b off nc xs hz hI hx hxl hn ws k (by omega) hw (Or.inr ⟨v, u, hv, hu, hno⟩) 0 _ (Or.inr ⟨hkl, rfl, rfl⟩) hD
    · have hp := List.length_pos_iff.2 h0
      obtain ⟨b, off, rfl, _, _⟩ := hx.cells (by omega)
      refine docLength_nodes fo uo wo n fc tc wc zs w b off nc xs hz hI hx hxl hn ws (xs.length - 1) (by omega) ?_ (Or.inl (by omega)) _ _ (Or.inl ⟨by omega, rfl, rfl⟩) hD
      rw [show xs.length - 1 + 1 = xs.length by omega, List.take_length]
      exact hw
/-- what DocShortest answers. -/
def SAns (w : World) (b : Bool) (E : Int × List (Int × Int)) (e : Ending) (w' : World) : Prop := ∃ po pc, e = .returned (.tuple #[.bool b, .agg #[.int .i64 E.1, .slice po E.2.length pc]]) ∧ HasPlaces w' (.slice po E.2.length pc) E.2 ∧ Below w.heap.size w w'

section
variable (fo uo wo : Option Addr) (fl fc tl tc wl wc : Nat) (w : World) (no : Option Addr) (nl nc : Nat)

set_option maxRecDepth 100000 in
set_option maxHeartbeats 4000000 in
theorem docShortest_bad (L : Int) (C : Int) (ps : List (Int × Int)) (hC : C ≠ 0) (hD : ∀ wx, Below w.heap.size w wx → Calls Tryd.prog 11 #[.agg #[.slice fo fl fc, .slice uo tl tc, .slice wo wl wc], .slice no nl nc] wx (LAns wx L (C, ps))) :
    Calls Tryd.prog 14 #[.agg #[.slice fo fl fc, .slice uo tl tc, .slice wo wl wc], .slice no nl nc] w (SAns w false (C, ps)) := by
  have HDB : Hid (type_of% (DB.made w (.slice fo fl fc) (.slice uo tl tc) (.slice wo wl wc))) := DB.made w (.slice fo fl fc) (.slice uo tl tc) (.slice wo wl wc)
  have HDC : Hid (type_of% hD) := hD
  have HBT : Hid (∀ l, (C != 0 || decide (0 < l)) = true) := fun l => badT hC l
  clear hD
  go_enter Tryd.func14, Tryd.ntmps14
  go_wp2_with fail
  generalize (w.alloc (.cells #[.slice fo fl fc, .slice uo tl tc, .slice wo wl wc] 24)).alloc (.cells #[.int .i64 0, .slice none 0 0] 37) = W0 at *
  refine (HDC.out W0 HDB.out.below).mono ?_
  rintro e w1 ⟨po, pc, rfl, hP, hb⟩
  simp only at hP
  have H1 : Hid (DB w (.slice fo fl fc) (.slice uo tl tc) (.slice wo wl wc) w1 ∧ HasPlaces w1 (.slice po ps.length pc) ps) := ⟨HDB.out.keep hb, hP⟩
  clear hb hP
  go_wp2_with fail
  have H2 : Hid (DB w (.slice fo fl fc) (.slice uo tl tc) (.slice wo wl wc) (w1.alloc (.cells #[.int .i64 C, .slice po ps.length pc] 37)) ∧ HasPlaces (w1.alloc (.cells #[.int .i64 C, .slice po ps.length pc] 37)) (.slice po ps.length pc) ps ∧ (w1.alloc (.cells #[.int .i64 C, .slice po ps.length pc] 37)).heap[w1.heap.size]? = some (.cells #[.int .i64 C, .slice po ps.length pc] 37)) := ⟨H1.out.1.keep (below1 _ _), H1.out.2.keep (below1 _ _), heap_new _ _⟩
  have hbn : w.heap.size + 1 < w1.heap.size := lt_of_get H1.out.1.res
  generalize w1.alloc (.cells #[.int .i64 C, .slice po ps.length pc] 37) = W1 at *
  generalize w1.heap.size = B at *
  refine (bad_calls C po ps.length pc W1).mono ?_
  rw [HBT.out]
  rintro e w2 ⟨rfl, hb⟩
  have H3 : Hid (DB w (.slice fo fl fc) (.slice uo tl tc) (.slice wo wl wc) w2 ∧ HasPlaces w2 (.slice po ps.length pc) ps ∧ w2.heap[B]? = some (.cells #[.int .i64 C, .slice po ps.length pc] 37)) := ⟨H2.out.1.keep hb, H2.out.2.1.keep hb, (hb.block _ (lt_of_get H2.out.2.2)).trans H2.out.2.2⟩
  clear hb
  obtain ⟨e0, e1, _, _⟩ := cell_two H3.out.2.2
  have es := lt_of_get H3.out.2.2
  obtain ⟨d0, d1, x0, x1⟩ := cell_two H3.out.1.res
  have ds := lt_of_get H3.out.1.res
  have n1 : ¬ B = w.heap.size + 1 := by omega
  have n3 : ¬ w.heap.size + 1 = B := by omega
  go_wp2_with fail
  go_region_held (fun w' => w'.cell? ⟨B, 0, none⟩ = some (.int .i64 C) ∧ w'.cell? ⟨B, 1, none⟩ = some (.slice po ps.length pc)) (go_keep) (first | fail)
  all_goals
    go_wp2
    refine bodyPost_ret (v := .tuple #[.bool false, .agg #[.int .i64 C, .slice po ps.length pc]]) (by simp [results, Tryd.results14, go_sem, d0, d1]) rfl ?_
    exact ⟨po, pc, rfl, (show HasPlaces (lay2 w2 (w.heap.size + 1) (.int .i64 C) (.slice po ps.length pc)) (.slice po ps.length pc) ps from lay2_places H3.out.2.1 H3.out.1.res), (show Below w.heap.size w (lay2 w2 (w.heap.size + 1) (.int .i64 C) (.slice po ps.length pc)) from lay2_below H3.out.1.below (by omega)).drew⟩
end
end Go.Proofs.YtdfjmfgbdnpkbaaDoor
