/- viaductref09.DocShortest of a walk. -/
import Derived.Test.YtdfjmfgbdnpkbaaDoorWnS
import Derived.Deep.RegionLaw
namespace Go.Proofs.YtdfjmfgbdnpkbaaDoor
open Go.RowKit Go.Extern

attribute [local go_sem] Oper.semAt_some

theorem ShortAns.unique {n : Nat} {zs : List (Int × Int × Int)} {s z : Nat} {L : Int} {b c : Bool} (h : ShortAns n zs s z L b) (h' : ShortAns n zs s z L c) : b = c := by
  obtain ⟨D, dx, h1, h2, h3⟩ := h
  obtain ⟨D', dx', h1', h2', h3'⟩ := h'
  obtain rfl := h1.unique h1'
  rw [h2] at h2'
  cases h2'
  rw [h3, h3']

set_option maxRecDepth 100000 in
set_option maxHeartbeats 8000000 in
theorem docShortest_ex (n : Nat) (zs : List (Int × Int × Int)) (fo uo wo : Option Addr) (fc tc wc : Nat) (w : World) (hz : Fine n zs) (h : CsrIn w n zs fo uo wo fc tc wc) (lb lof lc q s z : Nat) (xs : List Int) (hx : HasInts w (.slice (some ⟨lb, lof, none⟩) (q + 1) lc) xs) (hq2 : q < 1000000) (hs : xs[0]? = some (s : Int)) (hsn : s < n) (hzz : xs[q]? = some (z : Int)) (hzn : z < n) (L : Int)
    (hL : ∀ wx, Below w.heap.size w wx → Calls Tryd.prog 11 #[.agg #[.slice fo (n + 1) fc, .slice uo zs.length tc, .slice wo zs.length wc], .slice (some ⟨lb, lof, none⟩) (q + 1) lc] wx (LAns wx L (0, []))) :
    Calls Tryd.prog 14 #[.agg #[.slice fo (n + 1) fc, .slice uo zs.length tc, .slice wo zs.length wc], .slice (some ⟨lb, lof, none⟩) (q + 1) lc] w fun e w' => ∃ b, SAns w b (0, []) e w' ∧ ShortAns n zs s z L b := by
  have HDB : Hid (type_of% (DB.made w (.slice fo (n + 1) fc) (.slice uo zs.length tc) (.slice wo zs.length wc))) := DB.made w (.slice fo (n + 1) fc) (.slice uo zs.length tc) (.slice wo zs.length wc)
  have HDC : Hid (type_of% hL) := hL
  have HFR : Hid (∀ wx, Below w.heap.size w wx → Calls Tryd.prog 36 #[.agg #[.slice fo (n + 1) fc, .slice uo zs.length tc, .slice wo zs.length wc], .int .i64 s] wx fun e w' => ∃ db dx, e = .returned (.slice (some ⟨db, 0, none⟩) n n) ∧ (w'.cell? ⟨db, z, none⟩ = some (.int .u64 dx) ∧ db < w'.heap.size) ∧ ShortAns n zs s z L (dx == L) ∧ Below wx.heap.size wx w') := fun wx hwx => by
    refine (rFrom_calls n zs fo uo wo fc tc wc wx hz (h.keep hwx) s hsn).mono ?_
    rintro e w' ⟨db, D', he, hD', hU, hb⟩
    obtain ⟨dx, hdx, _⟩ := hD'.2 z hzn
    exact ⟨db, dx, he, ⟨(hU.at hdx).1, (hU.at hdx).2.1⟩, ⟨D', dx, hD', hdx, by rw [Bool.beq_comm]⟩, hb⟩
  have HKL : Hid (∀ wx, Below w.heap.size w wx → wx.cell? ⟨lb, lof, none⟩ = some (.int .i64 s) ∧ wx.cell? ⟨lb, lof + q, none⟩ = some (.int .i64 z) ∧ lb < wx.heap.size) := fun wx hwx => by
    obtain ⟨b, off, e, hbl, c⟩ := (hx.keep hwx).at hs
    cases e
    obtain ⟨b, off, e, _, c'⟩ := (hx.keep hwx).at hzz
    cases e
    exact ⟨c, c', hbl⟩
  have hlb : lb < w.heap.size := by
    obtain ⟨b, off, e, hbl, _⟩ := hx.at hs
    cases e
    exact hbl
  have hn := hz.few
  have i1 : (z : Int) < (n : Int) := by omega
  have i2 : (0 : Int) ≤ (z : Int) := by omega
  have i3 : (0 : Int) < (q : Int) + 1 := by omega
  have i4 : (q : Int) < (q : Int) + 1 := by omega
  have i5 : (0 : Int) ≤ (q : Int) := by omega
  have i6 : IntKind.i64.wrap ((q : Int) + 1 - 1) = (q : Int) := by rw [IntKind.wrap_i64] <;> omega
  have i7 : IntKind.i64.wrap (q : Int) = (q : Int) := by rw [IntKind.wrap_i64] <;> omega
  clear hL hx h hz hs hzz
  go_enter Tryd.func14, Tryd.ntmps14
  go_wp2_with fail
  generalize (w.alloc (.cells #[.slice fo (n + 1) fc, .slice uo zs.length tc, .slice wo zs.length wc] 24)).alloc (.cells #[.int .i64 0, .slice none 0 0] 37) = W0 at *
  refine (HDC.out W0 HDB.out.below).mono ?_
  rintro e w1 ⟨po, pc, rfl, hP, hb⟩
  have H1 : Hid (type_of% (HDB.out.keep hb)) := HDB.out.keep hb
  clear hb hP
  go_wp2_with fail
  have H2 : Hid (DB w (.slice fo (n + 1) fc) (.slice uo zs.length tc) (.slice wo zs.length wc) (w1.alloc (.cells #[.int .i64 0, .slice po 0 pc] 37)) ∧ (w1.alloc (.cells #[.int .i64 0, .slice po 0 pc] 37)).heap[w1.heap.size]? = some (.cells #[.int .i64 0, .slice po 0 pc] 37)) := ⟨H1.out.keep (below1 _ _), heap_new _ _⟩
  have hbn : w.heap.size + 1 < w1.heap.size := lt_of_get H1.out.res
  generalize w1.alloc (.cells #[.int .i64 0, .slice po 0 pc] 37) = W1 at *
  generalize w1.heap.size = B at *
  refine (bad_calls 0 po 0 pc W1).mono ?_
  rintro e w2 ⟨rfl, hb⟩
  rw [show ((0 : Int) != 0 || decide (0 < 0)) = false from rfl]
  have HK : Hid (∀ wx, Below w2.heap.size w2 wx → DB w (.slice fo (n + 1) fc) (.slice uo zs.length tc) (.slice wo zs.length wc) wx ∧ wx.heap[B]? = some (.cells #[.int .i64 0, .slice po 0 pc] 37)) := fun wx hwx => ⟨(H2.out.1.keep hb).keep hwx, (hwx.block _ (lt_of_get ((hb.block _ (lt_of_get H2.out.2)).trans H2.out.2))).trans ((hb.block _ (lt_of_get H2.out.2)).trans H2.out.2)⟩
  clear hb
  obtain ⟨hd, he⟩ := HK.out w2 (Below.refl _ _)
  obtain ⟨c0, c1, c2⟩ := box3 hd.box
  have cs := lt_of_get hd.box
  obtain ⟨d0, d1, x0, x1⟩ := cell_two hd.res
  have ds := lt_of_get hd.res
  obtain ⟨e0, e1, _, _⟩ := cell_two he
  have es := lt_of_get he
  obtain ⟨l0, l1, ls⟩ := HKL.out w2 hd.below
  have n1 : ¬ B = w.heap.size + 1 := by omega
  have n3 : ¬ w.heap.size + 1 = B := by omega
  have n5 : ¬ lb = w.heap.size + 1 := by omega
  have n6 : ¬ w.heap.size + 1 = lb := by omega
  have n7 : ¬ lb = w.heap.size := by omega
  have HB2 : Hid (Below w.heap.size w w2) := hd.below
  clear hd he
  go_wp2_with fail
  go_region_law (first
    | (go_simp; go_at_call 36; refine (HFR.out _ HB2.out.drew).mono ?_; rintro e w3 ⟨db, dx, rfl, ⟨q0, q1⟩, hSA, hb3⟩; have HSA : Hid (ShortAns n zs s z L (dx == L)) := hSA; clear hSA; have HW3 : Hid (DB w (.slice fo (n + 1) fc) (.slice uo zs.length tc) (.slice wo zs.length wc) w3 ∧ w3.heap[B]? = some (.cells #[.int .i64 0, .slice po 0 pc] 37)) := HK.out w3 (((Below.refl _ w2).drew).trans hb3); clear hb3; obtain ⟨a0, a1, a2⟩ := box3 HW3.out.1.box; have asz := lt_of_get HW3.out.1.box; obtain ⟨b0, b1, y0, y1⟩ := cell_two HW3.out.1.res; have bs := lt_of_get HW3.out.1.res; obtain ⟨g0, g1, _, _⟩ := cell_two HW3.out.2; have gs := lt_of_get HW3.out.2; obtain ⟨m0, m1, ms⟩ := HKL.out w3 HW3.out.1.below))
  all_goals
    go_wp2
    refine bodyPost_ret (v := .tuple #[.bool (dx == L), .agg #[.int .i64 0, .slice po 0 pc]]) (by simp [results, Tryd.results14, go_sem, b0, b1]) rfl ?_
    exact ⟨_, ⟨po, pc, rfl, ⟨po, pc, rfl, fun j p hj => by simp at hj⟩, (show Below w.heap.size w (lay2 w3 (w.heap.size + 1) (.int .i64 0) (.slice po 0 pc)) from lay2_below HW3.out.1.below (by omega))⟩, HSA.out⟩
end Go.Proofs.YtdfjmfgbdnpkbaaDoor
