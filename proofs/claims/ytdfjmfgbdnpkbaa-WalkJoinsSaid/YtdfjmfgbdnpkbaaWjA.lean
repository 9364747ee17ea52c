/- walk.Shortest of a walk: is its length the distance? What WalkJoins asks: pieces of walks, walks turned about, beginnings of shortest walks. the law WalkJoins at a graph and a list that are not great. -/
import Derived.Test.YtdfjmfgbdnpkbaaWsS
import Derived.Test.YtdfjmfgbdnpkbaaWoF
import Derived.Test.YtdfjmfgbdnpkbaaCsrBx
import Derived.Test.YtdfjmfgbdnpkbaaWjF
import Derived.Test.YtdfjmfgbdnpkbaaWkE
import Derived.Deep.RegionHeld3
namespace Go.Proofs.Ytdfjmfgbdnpkbaa
open Go.RowKit Go.Extern

attribute [local go_sem] Oper.semAt_some

/-- is the length the distance? -/
def ShortAns (n : Nat) (zs : List (Int × Int × Int)) (s z : Nat) (L : Int) (b : Bool) : Prop := ∃ D dx, IsDist n zs s D ∧ D[z]? = some dx ∧ b = (L == dx)

set_option maxRecDepth 100000 in
set_option maxHeartbeats 8000000 in
theorem shortest_ex (n : Nat) (zs : List (Int × Int × Int)) (fo uo wo : Option Addr) (fc tc wc : Nat) (w : World) (hz : Fine n zs) (h : CsrIn w n zs fo uo wo fc tc wc) (lb lof lc q s z : Nat) (xs : List Int) (hx : HasInts w (.slice (some ⟨lb, lof, none⟩) (q + 1) lc) xs) (hq2 : q < 1000000) (hs : xs[0]? = some (s : Int)) (hsn : s < n) (hzz : xs[q]? = some (z : Int)) (hzn : z < n) (L : Int)
    (hL : ∀ wx, Below w.heap.size w wx → Calls Try.prog 10 #[.agg #[.slice fo (n + 1) fc, .slice uo zs.length tc, .slice wo zs.length wc], .slice (some ⟨lb, lof, none⟩) (q + 1) lc] wx fun e w' => e = .returned (.tuple #[.int .u64 L, .nilIface]) ∧ Below wx.heap.size wx w') :
    Calls Try.prog 17 #[.agg #[.slice fo (n + 1) fc, .slice uo zs.length tc, .slice wo zs.length wc], .slice (some ⟨lb, lof, none⟩) (q + 1) lc] w fun e w' => ∃ b, e = .returned (.tuple #[.bool b, .nilIface]) ∧ ShortAns n zs s z L b ∧ Below w.heap.size w w' := by
  obtain ⟨W0, hW0⟩ : ∃ W0, w.alloc (.cells #[.slice fo (n + 1) fc, .slice uo zs.length tc, .slice wo zs.length wc] 34) = W0 := ⟨_, rfl⟩
  have HW0 : Hid (w.alloc (.cells #[.slice fo (n + 1) fc, .slice uo zs.length tc, .slice wo zs.length wc] 34) = W0) := hW0
  have hB0 : Below w.heap.size w W0 := by rw [← hW0]; exact (Below.refl _ w).alloc (Nat.le_refl _) _
  have hbx : W0.heap[w.heap.size]? = some (.cells #[.slice fo (n + 1) fc, .slice uo zs.length tc, .slice wo zs.length wc] 34) := by rw [← hW0]; exact heap_new _ _
  have HK : Hid (∀ wx, Below W0.heap.size W0 wx → (wx.cell? ⟨w.heap.size, 0, none⟩ = some (.slice fo (n + 1) fc) ∧ wx.cell? ⟨w.heap.size, 1, none⟩ = some (.slice uo zs.length tc) ∧ wx.cell? ⟨w.heap.size, 2, none⟩ = some (.slice wo zs.length wc)) ∧ w.heap.size < wx.heap.size ∧ Below w.heap.size w wx ∧ HasInts wx (.slice (some ⟨lb, lof, none⟩) (q + 1) lc) xs ∧ (wx.cell? ⟨lb, lof, none⟩ = some (.int .i64 s) ∧ lb < wx.heap.size)) := fun wx hwx => by
    have hg := (hwx.block _ (lt_of_get hbx)).trans hbx
    have hb := hB0.trans (hwx.mono hB0.size)
    obtain ⟨b, off, e, hbl, c⟩ := (hx.keep hb).at hs
    cases e
    exact ⟨box3 hg, lt_of_get hg, hb, hx.keep hb, c, hbl⟩
  have HL : Hid (Calls Try.prog 10 #[.agg #[.slice fo (n + 1) fc, .slice uo zs.length tc, .slice wo zs.length wc], .slice (some ⟨lb, lof, none⟩) (q + 1) lc] W0 fun e w' => e = .returned (.tuple #[.int .u64 L, .nilIface]) ∧ Below W0.heap.size W0 w') := hL W0 hB0
  have HFR : Hid (∀ wx, Below W0.heap.size W0 wx → Calls Try.prog 32 #[.agg #[.slice fo (n + 1) fc, .slice uo zs.length tc, .slice wo zs.length wc], .int .i64 s] wx fun e w' => ∃ db dx, e = .returned (.tuple #[.slice (some ⟨db, 0, none⟩) n n, .nilIface]) ∧ (w'.cell? ⟨db, z, none⟩ = some (.int .u64 dx) ∧ db < w'.heap.size) ∧ ShortAns n zs s z L (L == dx) ∧ Below wx.heap.size wx w') := fun wx hwx => by
    refine (from_good n zs fo uo wo fc tc wc wx hz (h.keep (HK.out wx hwx).2.2.1) s hsn).mono ?_
    rintro e w' ⟨db, D', he, hD', hU, hb⟩
    obtain ⟨dx, hdx, _⟩ := hD'.2 z hzn
    exact ⟨db, dx, he, ⟨(hU.at hdx).1, (hU.at hdx).2.1⟩, ⟨D', dx, hD', hdx, rfl⟩, hb⟩
  have HZZ : Hid (xs[q]? = some (z : Int)) := hzz
  have hn := hz.few
  have i1 : (z : Int) < (n : Int) := by omega
  have i2 : (0 : Int) ≤ (z : Int) := by omega
  have i3 : (0 : Int) < (q : Int) + 1 := by omega
  clear hW0 hB0 hbx hL hx h hz hs hzz
  obtain ⟨⟨c0, c1, c2⟩, cs, _, _, _⟩ := HK.out W0 (Below.refl _ _)
  go_enter Try.func17, Try.ntmps17
  go_wp2_with fail
  rw [HW0.out]
  refine HL.out.mono ?_
  rintro e w1 ⟨rfl, hb1⟩
  have HB1 : Hid (Below W0.heap.size W0 w1) := hb1
  clear hb1 c0 c1 c2 cs
  obtain ⟨⟨c0, c1, c2⟩, cs, _, _, k0, k1⟩ := HK.out w1 HB1.out
  go_wp2_with fail
  go_region_held3 (fun w' => (w'.cell? ⟨w.heap.size, 0, none⟩ = some (.slice fo (n + 1) fc) ∧ w'.cell? ⟨w.heap.size, 1, none⟩ = some (.slice uo zs.length tc) ∧ w'.cell? ⟨w.heap.size, 2, none⟩ = some (.slice wo zs.length wc)) ∧ w'.cell? ⟨lb, lof, none⟩ = some (.int .i64 s)) (go_keep) (first
    | (go_at_call 32; refine (HFR.out _ HB1.out.drew).mono ?_; rintro e w2 ⟨db, dx, rfl, hc, hSA, hb2⟩; have HSA : Hid (ShortAns n zs s z L (L == dx)) := hSA; clear hSA; have HB2 : Hid (Below W0.heap.size W0 w2 ∧ (w2.cell? ⟨db, z, none⟩ = some (.int .u64 dx) ∧ db < w2.heap.size)) := ⟨(HB1.out.drew).trans (hb2.mono HB1.out.size), hc⟩; clear hb2 hc; obtain ⟨⟨d0, d1, d2⟩, ds, _, _, d3, d4⟩ := HK.out w2 HB2.out.1))
  have HLS : Hid (type_of% (last9_calls lb lof lc q xs z w2 (HK.out w2 HB2.out.1).2.2.2.1 HZZ.out hq2)) := last9_calls lb lof lc q xs z w2 (HK.out w2 HB2.out.1).2.2.2.1 HZZ.out hq2
  obtain ⟨q0, q1⟩ := HB2.out.2
  have HBZ : Hid (Below w.heap.size w w2) := (HK.out w2 HB2.out.1).2.2.1
  go_wp2_with fail
  refine HLS.out.mono ?_
  rintro e w3 ⟨rfl, rfl⟩

  go_wp2
  go_ret2
  exact ⟨_, rfl, HSA.out, HBZ.out⟩
end Go.Proofs.Ytdfjmfgbdnpkbaa

namespace Go.Proofs.Ytdfjmfgbdnpkbaa
open Go.RowKit Go.Extern

theorem length_fine (n : Nat) (zs : List (Int × Int × Int)) (fo uo wo : Option Addr) (fc tc wc : Nat) (w : World) (hz : Fine n zs) (hI : ∀ wx, Below w.heap.size w wx → CsrIn wx n zs fo uo wo fc tc wc) (htc : zs.length ≤ tc) (no : Option Addr) (nc : Nat) (xs : List Int) (hx : HasInts w (.slice no xs.length nc) xs) (hnc : xs.length ≤ nc) (hxl : xs.length ≤ 1000000) (L : Int) (E : Int × List (Int × Int)) (hl : LenIs n zs xs L E) :
    Calls Try.prog 10 #[.agg #[.slice fo (n + 1) fc, .slice uo zs.length tc, .slice wo zs.length wc], .slice no xs.length nc] w fun e w' => ∃ v, e = .returned (.tuple #[.int .u64 L, v]) ∧ IsTold w' E v ∧ Below w.heap.size w w' := by
  rcases hl with ⟨rfl, rfl, rfl⟩ | ⟨k, v, hk, hbad, hok, rfl, rfl⟩ | ⟨hn, k, v, u, ws, hv, hu, hno, hw, rfl, rfl⟩ | ⟨hn, h0, ws, hw, rfl, rfl⟩
  · refine length_early (fun w' v => IsTold w' (5, []) v) _ _ _ _ _ rfl w fun wx hb => (checkList_empty n zs fo uo wo fc tc wc wx hz (hI wx hb) no nc).mono ?_
    rintro e w' ⟨he, hb'⟩
    exact ⟨_, _, he, told_num w' (by omega), hb'⟩
  · refine length_early (fun w' v => IsTold w' (7, [(3, (k : Int))]) v) _ _ _ _ _ rfl w fun wx hb => (checkList_node n zs fo uo wo fc tc wc wx hz (hI wx hb) no nc xs (hx.keep hb) hxl k v hk hbad hok).mono ?_
    rintro e w' ⟨v, he, ht, hb'⟩
    obtain ⟨Ty, x, rfl⟩ := told_iface9 ht (by simp)
    exact ⟨Ty, x, he, ht, hb'⟩
  · cases xs with
    | nil => simp at hv
    | cons y r =>
      obtain ⟨b, off, rfl, _, _⟩ := hx.at (k := 0) (a := y) rfl
      have hkl := (List.getElem?_eq_some_iff.1 hu).1
      simp only [List.length_cons] at hkl hx hnc hxl ⊢
      refine (length_nodes n zs fo uo wo fc tc wc w hz (hI w (Below.refl _ _)) htc b off nc y r ws hx hnc (by omega) hn k (by omega) hw (Or.inr ⟨v, u, hv, hu, hno⟩)).mono ?_
      rintro e w' ⟨L', v', he, h, hb'⟩
      rcases h with ⟨h, _⟩ | ⟨_, rfl, h⟩
      · omega
      · exact ⟨v', he, h, hb'⟩
  · cases xs with
    | nil => exact absurd rfl h0
    | cons y r =>
      obtain ⟨b, off, rfl, _, _⟩ := hx.at (k := 0) (a := y) rfl
      simp only [List.length_cons] at hx hnc hxl ⊢
      refine (length_nodes n zs fo uo wo fc tc wc w hz (hI w (Below.refl _ _)) htc b off nc y r ws hx hnc (by omega) hn r.length (Nat.le_refl _) (by rw [show r.length + 1 = (y :: r).length from rfl, List.take_length]; exact hw) (Or.inl rfl)).mono ?_
      rintro e w' ⟨L', v', he, h, hb'⟩
      rcases h with ⟨_, rfl, h⟩ | ⟨h, _⟩
      · exact ⟨v', he, h, hb'⟩
      · omega
section
variable {w : World} {n F T V k cap : Nat} {ao : Option Addr} {xs zs : List (Int × Int × Int)}
theorem rows_csr (hf : IntRow w F (n + 1) (fun u => firstAt zs u)) (ht : IntRow w T zs.length (fun i => (tos zs).getD i 0)) (hv : IntRow w V zs.length (fun i => (weights zs).getD i 0)) : CsrIn w n zs (some ⟨F, 0, none⟩) (some ⟨T, 0, none⟩) (some ⟨V, 0, none⟩) (n + 1) zs.length zs.length := by
  refine ⟨hf.ints (n + 1) (firsts_len n zs) fun i a hi => ?_, ht.ints zs.length (tos_len zs) fun i a hi => ?_, hv.ints zs.length (weights_len zs) fun i a hi => ?_⟩
  · have hl := (List.getElem?_eq_some_iff.1 hi).1
    rw [firsts_len] at hl
    rw [firsts_at zs (show i ≤ n by omega)] at hi
    exact Option.some.inj hi
  · show (tos zs).getD i 0 = a
    rw [List.getD_eq_getElem?_getD, hi]; rfl
  · show (weights zs).getD i 0 = a
    rw [List.getD_eq_getElem?_getD, hi]; rfl
theorem build_csr (hl : HasArcs w (.slice ao k cap) xs) (hg : graphErr (n : Int) xs = (0, [])) : Calls Try.prog 13 #[.agg #[.int .i64 n, .slice ao k cap]] w fun e w' => ∃ F T V, e = .returned (.tuple #[.agg #[.slice (some ⟨F, 0, none⟩) (n + 1) (n + 1), .slice (some ⟨T, 0, none⟩) (normA xs).length (normA xs).length, .slice (some ⟨V, 0, none⟩) (normA xs).length (normA xs).length], .nilIface]) ∧ CsrIn w' n (normA xs) (some ⟨F, 0, none⟩) (some ⟨T, 0, none⟩) (some ⟨V, 0, none⟩) (n + 1) (normA xs).length (normA xs).length ∧ Below w.heap.size w w' := by
  refine (build_good n ao _ cap xs w hl hg).mono ?_
  rintro e w' ⟨F, T, V, rfl, _, hf, ht, hv, hb⟩
  exact ⟨F, T, V, rfl, rows_csr hf ht hv, hb⟩
theorem back_csr (hl : HasArcs w (.slice ao k cap) xs) (hg : graphErr (n : Int) xs = (0, [])) : Calls Try.prog 14 #[.agg #[.int .i64 n, .slice ao k cap]] w fun e w' => ∃ F T V, e = .returned (.tuple #[.agg #[.slice (some ⟨F, 0, none⟩) (n + 1) (n + 1), .slice (some ⟨T, 0, none⟩) (normA (xs.map turn)).length (normA (xs.map turn)).length, .slice (some ⟨V, 0, none⟩) (normA (xs.map turn)).length (normA (xs.map turn)).length], .nilIface]) ∧ CsrIn w' n (normA (xs.map turn)) (some ⟨F, 0, none⟩) (some ⟨T, 0, none⟩) (some ⟨V, 0, none⟩) (n + 1) (normA (xs.map turn)).length (normA (xs.map turn)).length ∧ Below w.heap.size w w' := by
  refine (back_good n ao _ cap xs w hl hg).mono ?_
  rintro e w' ⟨F, T, V, rfl, _, hf, ht, hv, hb⟩
  exact ⟨F, T, V, rfl, rows_csr hf ht hv, hb⟩
end
theorem walk_drop {zs : List (Int × Int × Int)} {xs ws : List Int} (h : WalkIs zs xs ws) {i : Nat} (hi : i < xs.length) : WalkIs zs (xs.drop i) (ws.drop i) := by
  obtain ⟨h1, h2⟩ := h
  refine ⟨by rw [List.length_drop, List.length_drop]; omega, fun j r hj => ?_⟩
  rw [List.getElem?_drop] at hj
  obtain ⟨v, u, g1, g2, g3⟩ := h2 _ r hj
  exact ⟨v, u, by rw [List.getElem?_drop]; exact g1, by rw [List.getElem?_drop, ← Nat.add_assoc]; exact g2, g3⟩
theorem sum_cut (ws : List Int) (k : Nat) : (ws.take k).sum + (ws.drop k).sum = ws.sum := by
  rw [← List.sum_append, List.take_append_drop]
theorem take_ne {xs : List Int} {k : Nat} (hk : k < xs.length) : xs.take (k + 1) ≠ [] ∧ xs.drop k ≠ [] := by
  refine ⟨fun e => ?_, fun e => ?_⟩
  · have := congrArg List.length e
    rw [List.length_take, List.length_nil] at this
    omega
  · have := congrArg List.length e
    rw [List.length_drop, List.length_nil] at this
    omega
theorem join_cut {xs : List Int} {k : Nat} (hk : k < xs.length) : joinL (xs.take (k + 1)) (xs.drop k) = xs ∧ joinN (xs.take (k + 1)) (xs.drop k) = 0 := by
  obtain ⟨h1, h2⟩ := take_ne hk
  have hl : (xs.take (k + 1)).getLast? = (xs.drop k).head? := by
    rw [List.getLast?_eq_getElem?, List.length_take, List.getElem?_take, List.head?_eq_getElem?, List.getElem?_drop, if_pos (by omega), show min (k + 1) xs.length - 1 = k by omega, Nat.add_zero]
  have hno : ¬ (xs.take (k + 1) = [] ∨ xs.drop k = []) := fun h => h.elim h1 h2
  refine ⟨?_, ?_⟩
  · unfold joinL
    rw [if_neg hno, if_pos hl, List.tail_drop, List.take_append_drop]
  · unfold joinN
    rw [if_neg hno, if_pos hl]
theorem walk_turn {zs zt : List (Int × Int × Int)} (ht : ∀ u v r, (u, v, r) ∈ zs → (v, u, r) ∈ zt) {xs ws : List Int} (h : WalkIs zs xs ws) : WalkIs zt xs.reverse ws.reverse := by
  obtain ⟨h1, h2⟩ := h
  refine ⟨by simpa using h1, fun j r hj => ?_⟩
  have hjl := (List.getElem?_eq_some_iff.1 hj).1
  rw [List.length_reverse] at hjl
  rw [List.getElem?_reverse hjl] at hj
  obtain ⟨v, u, g1, g2, g3⟩ := h2 _ r hj
  refine ⟨u, v, ?_, ?_, ht _ _ _ g3⟩
  · rw [List.getElem?_reverse (by omega), show xs.length - 1 - j = ws.length - 1 - j + 1 by omega]
    exact g2
  · rw [List.getElem?_reverse (by omega), show xs.length - 1 - (j + 1) = ws.length - 1 - j by omega]
    exact g1
theorem sum_reverse9 (ws : List Int) : ws.reverse.sum = ws.sum := by
  induction ws with
  | nil => rfl
  | cons a t ih => rw [List.reverse_cons, List.sum_append, ih, List.sum_cons, List.sum_cons, List.sum_nil]; omega
/-- each arc of the normal graph is, turned about, one of the turned graph's. -/
theorem turn_mem {xs : List (Int × Int × Int)} {u v r : Int} (h : (u, v, r) ∈ normA xs) : (v, u, r) ∈ normA (xs.map turn) := by
  rw [norm_turn]
  have hne := (norm_sub h).2
  simp only at hne
  have hy : (v, u, r) ∈ (normA xs).map turn := List.mem_map.2 ⟨_, h, rfl⟩
  obtain ⟨b, hb, hs, hw⟩ := (normA_norm ((normA xs).map turn)).all (v, u, r) (kept_mem.2 ⟨hy, fun e => hne e.symm⟩)
  have hb2 := (norm_sub hb).1
  obtain ⟨c, hc, rfl⟩ := List.mem_map.1 hb2
  have : c = (u, v, r) := rise_same (normA_norm xs).rise hc h ⟨hs.2, hs.1⟩
  subst this
  exact hb
/-- on from a node that is reached. -/
theorem reach_on {zs : List (Int × Int × Int)} {s v e : Int} {m : Nat} (hm : ReachN zs s m v e) {ws xs : List Int} (hw : WalkIs zs xs ws) (h0 : xs[0]? = some v) : ∀ (k : Nat) (u : Int), xs[k]? = some u → ReachN zs s (m + k) u (e + (ws.take k).sum) := by
  intro k
  induction k with
  | zero =>
    intro u hu
    rw [h0] at hu
    cases hu
    simpa using hm
  | succ k ih =>
    intro u hu
    have hl := (List.getElem?_eq_some_iff.1 hu).1
    have h1 := hw.1
    obtain ⟨r, hr⟩ : ∃ r, ws[k]? = some r := ⟨ws[k], List.getElem?_eq_getElem (by omega)⟩
    obtain ⟨a, b, g1, g2, g3⟩ := hw.2 k r hr
    rw [g2] at hu
    cases hu
    exact ⟨a, _, r, ih a g1, g3, by rw [sum_take hr]; omega⟩
/-- the beginning of a shortest walk is one. -/
theorem first_short {n : Nat} {zs : List (Int × Int × Int)} {s : Nat} {D : List Int} (hD : IsDist n zs s D) {xs ws : List Int} (hw : WalkIs zs xs ws) (h0 : xs[0]? = some (s : Int)) {k q y z : Nat} (hk : xs[k]? = some (y : Int)) (hkq : k ≤ q) (hq : xs[q]? = some (z : Int)) (hlen : xs.length = q + 1) (hy : y < n) (hz : z < n) {dy dz : Int} (hdy : D[y]? = some dy) (hdz : D[z]? = some dz) (he : ws.sum = dz) : (ws.take k).sum = dy := by
  have hwl := hw.1
  have r1 := reach_walk hw h0 k y hk
  have hkl := (List.getElem?_eq_some_iff.1 hk).1
  obtain ⟨x, hx, hx2⟩ := hD.2 y hy
  rw [hdy] at hx
  cases hx
  obtain ⟨x', hx', hx2'⟩ := hD.2 z hz
  rw [hdz] at hx'
  cases hx'
  rcases hx2 with ⟨_, _, ⟨m, hm⟩, l1⟩ | ⟨_, no⟩
  · have l2 := l1 _ ⟨k, r1⟩
    have hd := walk_drop hw hkl
    have r2 := reach_on hm hd (by rw [List.getElem?_drop, Nat.add_zero]; exact hk) (q - k) z (by rw [List.getElem?_drop, show k + (q - k) = q by omega]; exact hq)
    rw [List.take_of_length_le (by rw [List.length_drop]; omega)] at r2
    have hs := sum_cut ws k
    rcases hx2' with ⟨_, _, _, l3⟩ | ⟨_, no⟩
    · have := l3 _ ⟨_, r2⟩
      omega
    · exact absurd ⟨_, r2⟩ (no _)
  · exact absurd ⟨k, r1⟩ (no _)
theorem short_first {n : Nat} {zs : List (Int × Int × Int)} {s : Nat} {xs ws : List Int} (hw : WalkIs zs xs ws) (h0 : xs[0]? = some (s : Int)) {k q y z : Nat} (hk : xs[k]? = some (y : Int)) (hkq : k ≤ q) (hq : xs[q]? = some (z : Int)) (hlen : xs.length = q + 1) (hy : y < n) (hz : z < n) {b c : Bool} (hb : ShortAns n zs s z ws.sum b) (hc : ShortAns n zs s y (ws.take k).sum c) (h : b = true) : c = true := by
  obtain ⟨D, dz, hD, hdz, e1⟩ := hb
  obtain ⟨D', dy, hD', hdy, e2⟩ := hc
  obtain rfl := hD'.unique hD
  rw [h] at e1
  rw [e2, beq_iff_eq]
  exact first_short hD' hw h0 hk hkq hq hlen hy hz hdy hdz (beq_iff_eq.1 e1.symm)
end Go.Proofs.Ytdfjmfgbdnpkbaa

namespace Go.Proofs.Ytdfjmfgbdnpkbaa
open Go.RowKit Go.Extern

attribute [local go_sem] Oper.semAt_some

theorem cut_to9 (b off m lc k : Nat) (h : m ≤ lc) (hk : k < m) : ∀ w, (Instr.slice 22 (.slice (some ⟨b, off, none⟩) m lc) none (some (.int .i64 ((k : Int) + 1))) none).run Try.prog w = .ok (.slice (some ⟨b, off, none⟩) (k + 1) lc) w := fun w => by
  rw [run_slice_h (ht := Try.elemI) (h0 := by omega) (h2 := by omega), Try.sizeI]
  have e : ((k : Int) + 1).toNat = k + 1 := by omega
  simp only [Result.andThen_ok, sliced, e]
  by_cases h0 : lc = 0
  · omega
  · simp [h0, Addr.add]
theorem cut_from9 (b off m lc k r : Nat) (h : m ≤ lc) (hk : m = k + r + 1) : ∀ w, (Instr.slice 22 (.slice (some ⟨b, off, none⟩) m lc) (some (.int .i64 (k : Int))) none none).run Try.prog w = .ok (.slice (some ⟨b, off + k, none⟩) (r + 1) (lc - k)) w := fun w => by
  rw [run_slice_l (ht := Try.elemI) (h0 := by omega) (h1 := by omega), Try.sizeI]
  have e : (k : Int).toNat = k := by omega
  simp only [Result.andThen_ok, sliced, e]
  rw [if_neg (by omega), show m - k = r + 1 by omega]
  simp [Addr.add]
theorem HasInts.piece {w : World} {b off m lc : Nat} {l : List Int} (h : HasInts w (.slice (some ⟨b, off, none⟩) m lc) l) {k j : Nat} (c : Nat) (hk : ((l.drop k).take j).length = j) : HasInts w (.slice (some ⟨b, off + k, none⟩) j c) ((l.drop k).take j) := by
  refine ⟨_, _, by rw [hk], fun i a hi => ?_⟩
  rw [List.getElem?_take] at hi
  split at hi
  · rw [List.getElem?_drop] at hi
    obtain ⟨b', off', e, hl, c⟩ := h.at hi
    cases e
    exact ⟨b, off + k, rfl, hl, by rw [Nat.add_assoc]; exact c⟩
  · cases hi

set_option maxRecDepth 100000 in
set_option maxHeartbeats 16000000 in
theorem joins9_near (n : Nat) (ao : Option Addr) (cap : Nat) (xs : List (Int × Int × Int)) (lb lof lc q k : Nat) (l : List Int) (w : World) (hX : HasArcs w (.slice ao xs.length cap) xs) (hg : graphErr (n : Int) xs = (0, [])) (hn : n ≤ 25) (hxl : xs.length ≤ 2000) (hx : HasInts w (.slice (some ⟨lb, lof, none⟩) (q + 1) lc) l) (hq : l.length = q + 1) (hlc : q + 1 ≤ lc) (hq2 : q < 200) (hk : k < q + 1) :
    Calls Try.prog 4 #[.agg #[.int .i64 n, .slice ao xs.length cap], .slice (some ⟨lb, lof, none⟩) (q + 1) lc, .int .i64 k] w fun e w' => e = .returned (.bool true) ∧ Below w.heap.size w w' := by
  obtain ⟨r, hr⟩ : ∃ r, q + 1 = k + r + 1 := ⟨q - k, by omega⟩
  obtain ⟨zs, hzs⟩ : ∃ zs, normA xs = zs := ⟨_, rfl⟩
  obtain ⟨zt, hzt⟩ : ∃ zt, normA (xs.map turn) = zt := ⟨_, rfl⟩
  have hz : Fine n zs := by rw [← hzs]; exact fine_norm hg
  have hzT : Fine n zt := by rw [← hzt]; exact fine_norm (good_turn hg)
  have h0 : l ≠ [] := List.length_pos_iff.1 (by omega)
  obtain ⟨W0, hW0⟩ : ∃ W0, w.alloc (.cells #[.int .i64 n, .slice ao xs.length cap] 38) = W0 := ⟨_, rfl⟩
  have HW0 : Hid (w.alloc (.cells #[.int .i64 n, .slice ao xs.length cap] 38) = W0) := hW0
  have hB0 : Below w.heap.size w W0 := by rw [← hW0]; exact (Below.refl _ w).alloc (Nat.le_refl _) _
  have hbx : W0.heap[w.heap.size]? = some (.cells #[.int .i64 n, .slice ao xs.length cap] 38) := by rw [← hW0]; exact heap_new _ _
  have HG : Hid (∀ wx, Below W0.heap.size W0 wx → (wx.cell? ⟨w.heap.size, 0, none⟩ = some (.int .i64 n) ∧ wx.cell? ⟨w.heap.size, 1, none⟩ = some (.slice ao xs.length cap) ∧ w.heap.size < wx.heap.size) ∧ HasArcs wx (.slice ao xs.length cap) xs ∧ HasInts wx (.slice (some ⟨lb, lof, none⟩) (q + 1) lc) l ∧ Below w.heap.size w wx) := fun wx hwx => by
    have hgg := (hwx.block _ (lt_of_get hbx)).trans hbx
    have hb := hB0.trans (hwx.mono hB0.size)
    exact ⟨⟨(cell_two hgg).1, (cell_two hgg).2.1, lt_of_get hgg⟩, hX.keep hb, hx.keep hb, hb⟩
  have HFW : Hid (∀ wx, Below W0.heap.size W0 wx → Calls Try.prog 12 #[.agg #[.int .i64 n, .slice ao xs.length cap], .int .i64 25] wx fun e w' => e = .returned (.bool true) ∧ Below wx.heap.size wx w') := fun wx hwx => by
    have := few_calls (n : Int) ao cap xs 25 wx (HG.out wx hwx).2.1 (by unfold maxLen; omega)
    rwa [show fewB (n : Int) xs 25 = true from decide_eq_true ⟨hg, by omega, hxl⟩] at this
  have HBU : Hid (∀ wx, Below W0.heap.size W0 wx → Calls Try.prog 13 #[.agg #[.int .i64 n, .slice ao xs.length cap]] wx fun e w' => ∃ F T V, e = .returned (.tuple #[.agg #[.slice (some ⟨F, 0, none⟩) (n + 1) (n + 1), .slice (some ⟨T, 0, none⟩) zs.length zs.length, .slice (some ⟨V, 0, none⟩) zs.length zs.length], .nilIface]) ∧ CsrIn w' n zs (some ⟨F, 0, none⟩) (some ⟨T, 0, none⟩) (some ⟨V, 0, none⟩) (n + 1) zs.length zs.length ∧ Below wx.heap.size wx w') := fun wx hwx => by
    have := build_csr (HG.out wx hwx).2.1 hg
    rwa [hzs] at this
  have HBA : Hid (∀ wx, Below W0.heap.size W0 wx → Calls Try.prog 14 #[.agg #[.int .i64 n, .slice ao xs.length cap]] wx fun e w' => ∃ F T V, e = .returned (.tuple #[.agg #[.slice (some ⟨F, 0, none⟩) (n + 1) (n + 1), .slice (some ⟨T, 0, none⟩) zt.length zt.length, .slice (some ⟨V, 0, none⟩) zt.length zt.length], .nilIface]) ∧ CsrIn w' n zt (some ⟨F, 0, none⟩) (some ⟨T, 0, none⟩) (some ⟨V, 0, none⟩) (n + 1) zt.length zt.length ∧ Below wx.heap.size wx w') := fun wx hwx => by
    have := back_csr (HG.out wx hwx).2.1 hg
    rwa [hzt] at this
  have HTW : Hid (∀ (wx : World) (o : Option Addr) (c m : Nat) (xl : List Int), xl.length = m → m ≤ 300 → HasInts wx (.slice o m c) xl → Calls Try.prog 8 #[.slice o m c] wx fun e w' => ∃ mo mc, e = .returned (.slice mo m mc) ∧ Tw w' mo mc xl ∧ Below wx.heap.size wx w') := fun wx o c m xl hm hm3 h => by
    subst hm
    refine (twinInts_calls o c xl wx h (by omega)).mono ?_
    rintro e w' ⟨mo, mc, he, ho, hb'⟩
    exact ⟨mo, mc, he, tw_of ho, hb'⟩
  have HLF : Hid (∀ (zz : List (Int × Int × Int)) (F T V : Nat) (wx : World) (mo : Option Addr) (mc m : Nat) (xl : List Int) (L : Int) (E : Int × List (Int × Int)), Fine n zz → CsrIn wx n zz (some ⟨F, 0, none⟩) (some ⟨T, 0, none⟩) (some ⟨V, 0, none⟩) (n + 1) zz.length zz.length → xl.length = m → m ≤ 300 → Tw wx mo mc xl → LenIs n zz xl L E → Calls Try.prog 10 #[.agg #[.slice (some ⟨F, 0, none⟩) (n + 1) (n + 1), .slice (some ⟨T, 0, none⟩) zz.length zz.length, .slice (some ⟨V, 0, none⟩) zz.length zz.length], .slice mo m mc] wx fun e w' => ∃ v, e = .returned (.tuple #[.int .u64 L, v]) ∧ IsTold w' E v ∧ Below wx.heap.size wx w') := fun zz F T V wx mo mc m xl L E hf hC hm hm3 ht hl => by
    subst hm
    exact length_fine n zz _ _ _ _ _ _ wx hf (fun wy hb => hC.keep hb) (Nat.le_refl _) mo mc xl ht.1 ht.2.1 (by omega) L E hl
  obtain ⟨L, E, hL⟩ := len_total n zs l
  have HQ : Hid (l.length = q + 1 ∧ LenIs n zs l L E ∧ Fine n zs ∧ Fine n zt) := ⟨hq, hL, hz, hzT⟩
  have HZT : Hid (∀ u v r, (u, v, r) ∈ zs → (v, u, r) ∈ zt) := fun u v r h => by rw [← hzt]; rw [← hzs] at h; exact turn_mem h
  have e1 : ¬ (200 : Int) < (q : Int) + 1 := by omega
  have e2 : ¬ (k : Int) < 0 := by omega
  have e3 : ¬ (q : Int) + 1 ≤ (k : Int) := by omega
  have e4 : IntKind.i64.wrap ((k : Int) + 1) = (k : Int) + 1 := by rw [IntKind.wrap_i64] <;> omega
  have hc1 := cut_to9 lb lof (q + 1) lc k hlc hk
  have hc2 := cut_from9 lb lof (q + 1) lc k r hlc hr
  have HR : Hid (q + 1 = k + r + 1) := hr
  clear hW0 hB0 hbx hX hg hx hq hz hzT hzs hzt hL hr hxl
  go_enter Try.func4, Try.ntmps4
  go_wp2_with fail
  rw [HW0.out]
  refine (awake9_calls W0).mono ?_
  rintro e w1 ⟨rfl, hb⟩
  have HB1 : Hid (Below W0.heap.size W0 w1) := hb
  clear hb
  obtain ⟨⟨g0, g1, gs⟩, _⟩ := HG.out w1 HB1.out
  go_wp2_with fail
  refine (HFW.out w1 HB1.out).mono ?_
  rintro e w2 ⟨rfl, hb⟩
  have HB2 : Hid (Below W0.heap.size W0 w2) := btr HB1.out hb
  clear hb HB1 g0 g1 gs
  obtain ⟨⟨g0, g1, gs⟩, _⟩ := HG.out w2 HB2.out
  go_wp2_with fail
  refine (HBU.out w2 HB2.out).mono ?_
  rintro e w3 ⟨F, T, V, rfl, hC, hb⟩
  have H3 : Hid (CsrIn w3 n zs (some ⟨F, 0, none⟩) (some ⟨T, 0, none⟩) (some ⟨V, 0, none⟩) (n + 1) zs.length zs.length ∧ Below W0.heap.size W0 w3) := ⟨hC, btr HB2.out hb⟩
  clear hC hb HB2 g0 g1 gs
  obtain ⟨⟨g0, g1, gs⟩, _⟩ := HG.out w3 H3.out.2
  go_wp2_with fail
  have hN := heap_new w3 (.cells #[.slice (some ⟨F, 0, none⟩) (n + 1) (n + 1), .slice (some ⟨T, 0, none⟩) zs.length zs.length, .slice (some ⟨V, 0, none⟩) zs.length zs.length] 34)
  have hb : Below w3.heap.size w3 (w3.alloc (.cells #[.slice (some ⟨F, 0, none⟩) (n + 1) (n + 1), .slice (some ⟨T, 0, none⟩) zs.length zs.length, .slice (some ⟨V, 0, none⟩) zs.length zs.length] 34)) := (Below.refl _ _).alloc (Nat.le_refl _) _
  generalize w3.alloc (.cells #[.slice (some ⟨F, 0, none⟩) (n + 1) (n + 1), .slice (some ⟨T, 0, none⟩) zs.length zs.length, .slice (some ⟨V, 0, none⟩) zs.length zs.length] 34) = w4 at *
  have H4 : Hid (CsrIn w4 n zs (some ⟨F, 0, none⟩) (some ⟨T, 0, none⟩) (some ⟨V, 0, none⟩) (n + 1) zs.length zs.length ∧ Below W0.heap.size W0 w4 ∧ w4.heap[w3.heap.size]? = some (.cells #[.slice (some ⟨F, 0, none⟩) (n + 1) (n + 1), .slice (some ⟨T, 0, none⟩) zs.length zs.length, .slice (some ⟨V, 0, none⟩) zs.length zs.length] 34)) := ⟨H3.out.1.keep hb, btr H3.out.2 hb, hN⟩
  clear hN hb H3 g0 g1 gs
  generalize w3.heap.size = cb at *
  refine (HBA.out w4 H4.out.2.1).mono ?_
  rintro e w5 ⟨F2, T2, V2, rfl, hC, hb⟩
  have H5 : Hid (CsrIn w5 n zs (some ⟨F, 0, none⟩) (some ⟨T, 0, none⟩) (some ⟨V, 0, none⟩) (n + 1) zs.length zs.length ∧ Below W0.heap.size W0 w5 ∧ w5.heap[cb]? = some (.cells #[.slice (some ⟨F, 0, none⟩) (n + 1) (n + 1), .slice (some ⟨T, 0, none⟩) zs.length zs.length, .slice (some ⟨V, 0, none⟩) zs.length zs.length] 34) ∧ CsrIn w5 n zt (some ⟨F2, 0, none⟩) (some ⟨T2, 0, none⟩) (some ⟨V2, 0, none⟩) (n + 1) zt.length zt.length) := ⟨H4.out.1.keep hb, btr H4.out.2.1 hb, (hb.block _ (lt_of_get H4.out.2.2)).trans H4.out.2.2, hC⟩
  clear hC hb H4
  go_wp2_with fail
  have hN := heap_new w5 (.cells #[.slice (some ⟨F2, 0, none⟩) (n + 1) (n + 1), .slice (some ⟨T2, 0, none⟩) zt.length zt.length, .slice (some ⟨V2, 0, none⟩) zt.length zt.length] 34)
  have hb : Below w5.heap.size w5 (w5.alloc (.cells #[.slice (some ⟨F2, 0, none⟩) (n + 1) (n + 1), .slice (some ⟨T2, 0, none⟩) zt.length zt.length, .slice (some ⟨V2, 0, none⟩) zt.length zt.length] 34)) := (Below.refl _ _).alloc (Nat.le_refl _) _
  generalize w5.alloc (.cells #[.slice (some ⟨F2, 0, none⟩) (n + 1) (n + 1), .slice (some ⟨T2, 0, none⟩) zt.length zt.length, .slice (some ⟨V2, 0, none⟩) zt.length zt.length] 34) = w6 at *
  have HK : Hid (∀ wx, Below w6.heap.size w6 wx → (wx.cell? ⟨cb, 0, none⟩ = some (.slice (some ⟨F, 0, none⟩) (n + 1) (n + 1)) ∧ wx.cell? ⟨cb, 1, none⟩ = some (.slice (some ⟨T, 0, none⟩) zs.length zs.length) ∧ wx.cell? ⟨cb, 2, none⟩ = some (.slice (some ⟨V, 0, none⟩) zs.length zs.length)) ∧ (wx.cell? ⟨w5.heap.size, 0, none⟩ = some (.slice (some ⟨F2, 0, none⟩) (n + 1) (n + 1)) ∧ wx.cell? ⟨w5.heap.size, 1, none⟩ = some (.slice (some ⟨T2, 0, none⟩) zt.length zt.length) ∧ wx.cell? ⟨w5.heap.size, 2, none⟩ = some (.slice (some ⟨V2, 0, none⟩) zt.length zt.length)) ∧ (cb < wx.heap.size ∧ w5.heap.size < wx.heap.size) ∧ CsrIn wx n zs (some ⟨F, 0, none⟩) (some ⟨T, 0, none⟩) (some ⟨V, 0, none⟩) (n + 1) zs.length zs.length ∧ CsrIn wx n zt (some ⟨F2, 0, none⟩) (some ⟨T2, 0, none⟩) (some ⟨V2, 0, none⟩) (n + 1) zt.length zt.length ∧ HasInts wx (.slice (some ⟨lb, lof, none⟩) (q + 1) lc) l ∧ Below w.heap.size w wx) := fun wx hwx => by
    have hb5 := btr hb hwx
    have g1 := (hb5.block _ (lt_of_get H5.out.2.2.1)).trans H5.out.2.2.1
    have g2 := (hwx.block _ (lt_of_get hN)).trans hN
    have g3 := HG.out wx (btr H5.out.2.1 hb5)
    exact ⟨box3 g1, box3 g2, ⟨lt_of_get g1, lt_of_get g2⟩, H5.out.1.keep hb5, H5.out.2.2.2.keep hb5, g3.2.2.1, g3.2.2.2⟩
  clear hN hb
  generalize w5.heap.size = db at *
  obtain ⟨⟨c0, c1, c2⟩, ⟨d0, d1, d2⟩, ⟨cs, ds⟩, _⟩ := HK.out w6 (Below.refl _ _)
  go_region_held3 (fun w' => w'.cell? ⟨cb, 0, none⟩ = some (.slice (some ⟨F, 0, none⟩) (n + 1) (n + 1)) ∧ w'.cell? ⟨cb, 1, none⟩ = some (.slice (some ⟨T, 0, none⟩) zs.length zs.length) ∧ w'.cell? ⟨cb, 2, none⟩ = some (.slice (some ⟨V, 0, none⟩) zs.length zs.length)) (go_keep) (first
    | (go_at_call 10; refine (HLF.out zs F T V _ _ _ (q + 1) l L E HQ.out.2.2.1 (HK.out _ H7.out.1).2.2.2.1 HQ.out.1 (by omega) H7.out.2 HQ.out.2.1).mono ?_; rintro e w8 ⟨v, rfl, hv, hb8⟩; have H8 : Hid (Below w6.heap.size w6 w8 ∧ IsTold w8 E v) := ⟨btr H7.out.1 hb8, hv⟩; clear hb8 hv; obtain ⟨⟨x0, x1, x2⟩, _, ⟨xs1, _⟩, _⟩ := HK.out w8 H8.out.1)
    | (go_at_call 8; refine (HTW.out _ _ _ (q + 1) l HQ.out.1 (by omega) (HK.out _ (Below.refl _ _).drew).2.2.2.2.2.1).mono ?_; rintro e w7 ⟨mo, mc, rfl, ht, hb7⟩; have H7 : Hid (Below w6.heap.size w6 w7 ∧ Tw w7 mo mc l) := ⟨btr (Below.refl _ _).drew hb7, ht⟩; clear hb7 ht; obtain ⟨⟨x0, x1, x2⟩, _, ⟨xs1, _⟩, _⟩ := HK.out w7 H7.out.1))
  clear c0 c1 c2 d0 d1 d2 cs ds
  have HBZ : Hid (Below w.heap.size w w8) := (HK.out w8 H8.out.1).2.2.2.2.2.2
  rcases (show (E.1 ≠ 0 ∧ L = 0) ∨ (Nodes n l ∧ ∃ ws, WalkIs zs l ws ∧ L = ws.sum ∧ E = (0, [])) from by
    rcases HQ.out.2.1 with ⟨e, _⟩ | ⟨k, v, _, _, _, rfl, rfl⟩ | ⟨_, k, v, u, ws, _, _, _, _, rfl, rfl⟩ | ⟨hn, _, ws, hw, rfl, rfl⟩
    · exact absurd e h0
    · exact Or.inl ⟨by simp, rfl⟩
    · exact Or.inl ⟨by simp, rfl⟩
    · exact Or.inr ⟨hn, ws, hw, rfl, rfl⟩) with ⟨hE, hL0⟩ | ⟨hNo, ws, hw, hLs, hE⟩
  · obtain ⟨Ty, xv, rfl⟩ := told_iface9 H8.out.2 hE
    subst hL0
    clear hE
    go_wp2
    go_ret
    exact ⟨rfl, HBZ.out⟩
  obtain rfl : v = .nilIface := by
    rcases H8.out.2 with ⟨_, h⟩ | ⟨h, _⟩
    · exact h
    · rw [hE] at h; exact absurd rfl h
  clear hE
  have hlq := HQ.out.1
  have hkl : k < l.length := by omega
  have hwl := hw.1
  obtain ⟨X, hX⟩ : ∃ X, X = l.take (k + 1) := ⟨_, rfl⟩
  obtain ⟨Y, hY⟩ : ∃ Y, Y = l.drop k := ⟨_, rfl⟩
  obtain ⟨R, hRv⟩ : ∃ R, R = l.reverse := ⟨_, rfl⟩
  obtain ⟨L1, hL1⟩ : ∃ L1, L1 = (ws.take k).sum := ⟨_, rfl⟩
  obtain ⟨L2, hL2⟩ : ∃ L2, L2 = (ws.drop k).sum := ⟨_, rfl⟩
  have hXl : X.length = k + 1 := by rw [hX, List.length_take]; omega
  have hYl : Y.length = r + 1 := by have := HR.out; rw [hY, List.length_drop]; omega
  have hRl : R.length = q + 1 := by rw [hRv, List.length_reverse]; exact hlq
  have hsum : L1 + L2 = L := by rw [hL1, hL2, hLs]; exact sum_cut ws k
  have hLb : 0 ≤ L ∧ L ≤ 1000000000000 := by
    have := sum_le (ws := ws) (fun i r' hr' => by
      obtain ⟨v, u, _, _, h3⟩ := hw.2 i r' hr'
      exact ⟨(HQ.out.2.2.1.ends _ h3).2.2.2.2.2.1, (HQ.out.2.2.1.ends _ h3).2.2.2.2.2.2⟩) ws.length (Nat.le_refl _)
    rw [List.take_length, ← hLs] at this
    omega
  have s1 : IntKind.u64.wrap (L1 + L2) = L := by rw [hsum, IntKind.wrap_u64] <;> omega
  obtain ⟨s, hs, hsn⟩ : ∃ s : Nat, l[0]? = some (s : Int) ∧ s < n := by
    have h := hNo l[0] (List.getElem_mem _)
    exact ⟨l[0].toNat, by rw [List.getElem?_eq_getElem (by omega), show (l[0].toNat : Int) = l[0] by omega], by omega⟩
  obtain ⟨z, hz, hzn⟩ : ∃ z : Nat, l[q]? = some (z : Int) ∧ z < n := by
    have hql : q < l.length := by omega
    have h := hNo l[q] (List.getElem_mem _)
    exact ⟨l[q].toNat, by rw [List.getElem?_eq_getElem hql, show (l[q].toNat : Int) = l[q] by omega], by omega⟩
  obtain ⟨y, hy, hyn⟩ : ∃ y : Nat, l[k]? = some (y : Int) ∧ y < n := by
    have h := hNo l[k] (List.getElem_mem _)
    exact ⟨l[k].toNat, by rw [List.getElem?_eq_getElem hkl, show (l[k].toNat : Int) = l[k] by omega], by omega⟩
  have liX : LenIs n zs X L1 (0, []) := Or.inr (Or.inr (Or.inr ⟨fun v hv => hNo v (by rw [hX] at hv; exact List.mem_of_mem_take hv), by rw [hX]; exact (take_ne hkl).1, ws.take k, by rw [hX]; exact walk_take hw (by omega), hL1, rfl⟩))
  have liY : LenIs n zs Y L2 (0, []) := Or.inr (Or.inr (Or.inr ⟨fun v hv => hNo v (by rw [hY] at hv; exact List.mem_of_mem_drop hv), by rw [hY]; exact (take_ne hkl).2, ws.drop k, by rw [hY]; exact walk_drop hw hkl, hL2, rfl⟩))
  have liR : LenIs n zt R L (0, []) := Or.inr (Or.inr (Or.inr ⟨fun v hv => hNo v (by rw [hRv] at hv; exact List.mem_reverse.1 hv), List.length_pos_iff.1 (by omega), ws.reverse, by rw [hRv]; exact walk_turn HZT.out hw, by rw [sum_reverse9]; exact hLs, rfl⟩))
  have liL : LenIs n zs l L (0, []) := Or.inr (Or.inr (Or.inr ⟨hNo, h0, ws, hw, hLs, rfl⟩))
  have HNL : Hid (∀ (w' : World) (v : Value), IsTold w' (0, []) v → v = .nilIface) := fun w' v h => by
    rcases h with ⟨_, h⟩ | ⟨h, _⟩
    · exact h
    · exact absurd rfl h
  have HTX : Hid (∀ wx, Below w6.heap.size w6 wx → Calls Try.prog 8 #[.slice (some ⟨lb, lof, none⟩) (k + 1) lc] wx fun e w' => ∃ mo mc, e = .returned (.slice mo (k + 1) mc) ∧ Tw w' mo mc X ∧ Below wx.heap.size wx w') := fun wx hwx => by
    refine HTW.out wx _ lc (k + 1) X hXl (by omega) ?_
    have := (HK.out wx hwx).2.2.2.2.2.1.piece (k := 0) (j := k + 1) lc (by rw [List.drop_zero, ← hX]; exact hXl)
    rw [List.drop_zero, ← hX] at this
    exact this
  have HTY : Hid (∀ wx, Below w6.heap.size w6 wx → Calls Try.prog 8 #[.slice (some ⟨lb, lof + k, none⟩) (r + 1) (lc - k)] wx fun e w' => ∃ mo mc, e = .returned (.slice mo (r + 1) mc) ∧ Tw w' mo mc Y ∧ Below wx.heap.size wx w') := fun wx hwx => by
    refine HTW.out wx _ (lc - k) (r + 1) Y hYl (by have := HR.out; omega) ?_
    have e9 : (l.drop k).take (r + 1) = Y := by rw [← hY, List.take_of_length_le (by omega)]
    have := (HK.out wx hwx).2.2.2.2.2.1.piece (k := k) (j := r + 1) (lc - k) (by rw [e9]; exact hYl)
    rw [e9] at this
    exact this
  have HTL : Hid (∀ wx, Below w6.heap.size w6 wx → Calls Try.prog 8 #[.slice (some ⟨lb, lof, none⟩) (q + 1) lc] wx fun e w' => ∃ mo mc, e = .returned (.slice mo (q + 1) mc) ∧ Tw w' mo mc l ∧ Below wx.heap.size wx w') := fun wx hwx => HTW.out wx _ lc (q + 1) l hlq (by omega) (HK.out wx hwx).2.2.2.2.2.1
  have HLX : Hid (∀ wx mo mc, Below w6.heap.size w6 wx → Tw wx mo mc X → Calls Try.prog 10 #[.agg #[.slice (some ⟨F, 0, none⟩) (n + 1) (n + 1), .slice (some ⟨T, 0, none⟩) zs.length zs.length, .slice (some ⟨V, 0, none⟩) zs.length zs.length], .slice mo (k + 1) mc] wx fun e w' => e = .returned (.tuple #[.int .u64 L1, .nilIface]) ∧ Below wx.heap.size wx w') := fun wx mo mc hwx ht => by
    refine (HLF.out zs F T V wx mo mc (k + 1) X L1 _ HQ.out.2.2.1 (HK.out wx hwx).2.2.2.1 hXl (by omega) ht liX).mono ?_
    rintro e w' ⟨v, he, hv, hb⟩
    obtain rfl := HNL.out w' v hv
    exact ⟨he, hb⟩
  have HLY : Hid (∀ wx mo mc, Below w6.heap.size w6 wx → Tw wx mo mc Y → Calls Try.prog 10 #[.agg #[.slice (some ⟨F, 0, none⟩) (n + 1) (n + 1), .slice (some ⟨T, 0, none⟩) zs.length zs.length, .slice (some ⟨V, 0, none⟩) zs.length zs.length], .slice mo (r + 1) mc] wx fun e w' => e = .returned (.tuple #[.int .u64 L2, .nilIface]) ∧ Below wx.heap.size wx w') := fun wx mo mc hwx ht => by
    refine (HLF.out zs F T V wx mo mc (r + 1) Y L2 _ HQ.out.2.2.1 (HK.out wx hwx).2.2.2.1 hYl (by have := HR.out; omega) ht liY).mono ?_
    rintro e w' ⟨v, he, hv, hb⟩
    obtain rfl := HNL.out w' v hv
    exact ⟨he, hb⟩
  have HLL : Hid (∀ wx mo mc, Below w6.heap.size w6 wx → Tw wx mo mc l → Calls Try.prog 10 #[.agg #[.slice (some ⟨F, 0, none⟩) (n + 1) (n + 1), .slice (some ⟨T, 0, none⟩) zs.length zs.length, .slice (some ⟨V, 0, none⟩) zs.length zs.length], .slice mo (q + 1) mc] wx fun e w' => e = .returned (.tuple #[.int .u64 L, .nilIface]) ∧ Below wx.heap.size wx w') := fun wx mo mc hwx ht => by
    refine (HLF.out zs F T V wx mo mc (q + 1) l L _ HQ.out.2.2.1 (HK.out wx hwx).2.2.2.1 hlq (by omega) ht liL).mono ?_
    rintro e w' ⟨v, he, hv, hb⟩
    obtain rfl := HNL.out w' v hv
    exact ⟨he, hb⟩
  have HLB : Hid (∀ wx mo mc, Below w6.heap.size w6 wx → Tw wx mo mc R → Calls Try.prog 10 #[.agg #[.slice (some ⟨F2, 0, none⟩) (n + 1) (n + 1), .slice (some ⟨T2, 0, none⟩) zt.length zt.length, .slice (some ⟨V2, 0, none⟩) zt.length zt.length], .slice mo (q + 1) mc] wx fun e w' => e = .returned (.tuple #[.int .u64 L, .nilIface]) ∧ Below wx.heap.size wx w') := fun wx mo mc hwx ht => by
    refine (HLF.out zt F2 T2 V2 wx mo mc (q + 1) R L _ HQ.out.2.2.2 (HK.out wx hwx).2.2.2.2.1 hRl (by omega) ht liR).mono ?_
    rintro e w' ⟨v, he, hv, hb⟩
    obtain rfl := HNL.out w' v hv
    exact ⟨he, hb⟩
  have HJN : Hid (∀ wx mo mc no nc, Tw wx mo mc X → Tw wx no nc Y → Calls Try.prog 15 #[.slice mo (k + 1) mc, .slice no (r + 1) nc] wx fun e w' => ∃ so sc, e = .returned (.tuple #[.slice so (q + 1) sc, .nilIface]) ∧ HasInts w' (.slice so (q + 1) sc) l ∧ Below wx.heap.size wx w') := fun wx mo mc no nc h1 h2 => by
    rw [← hXl, ← hYl]
    refine (join_any mo no mc nc X Y wx h1.1 h2.1 h2.2.1 (by have := HR.out; omega)).mono ?_
    rintro e w' ⟨so, sc, he, ho, hb⟩
    rw [hX, hY, (join_cut hkl).1, (join_cut hkl).2, hlq] at he
    rw [hX, hY, (join_cut hkl).1] at ho
    have hh := ints_of_iown ho
    rw [hlq] at hh
    exact ⟨so, sc, he, hh, hb⟩
  have HBK : Hid (∀ wx mo mc, Tw wx mo mc l → Calls Try.prog 16 #[.slice mo (q + 1) mc] wx fun e w' => ∃ so sc, e = .returned (.slice so (q + 1) sc) ∧ Tw w' so sc R ∧ Below wx.heap.size wx w') := fun wx mo mc h => by
    rw [← hlq]
    refine (back_calls mo mc l wx h.1 (fun a ha => ?_) (by omega)).mono ?_
    · rcases h.2.2 with rfl | ⟨g, rfl⟩
      · cases ha
      · cases ha; rfl
    · rintro e w' ⟨so, sc, he, ho, hb⟩
      rw [← hRv] at he ho
      refine ⟨so, sc, ?_, tw_of ho, hb⟩
      rw [he, hRl, hlq]
  have HSL : Hid (∀ wx mo mc, Below w6.heap.size w6 wx → Tw wx mo mc l → Calls Try.prog 17 #[.agg #[.slice (some ⟨F, 0, none⟩) (n + 1) (n + 1), .slice (some ⟨T, 0, none⟩) zs.length zs.length, .slice (some ⟨V, 0, none⟩) zs.length zs.length], .slice mo (q + 1) mc] wx fun e w' => ∃ b, e = .returned (.tuple #[.bool b, .nilIface]) ∧ ShortAns n zs s z L b ∧ Below wx.heap.size wx w') := fun wx mo mc hwx ht => by
    rcases ht.2.2 with rfl | ⟨g, rfl⟩
    · obtain ⟨b, off, e, _, _⟩ := ht.1.at hs
      cases e
    · exact shortest_ex n zs _ _ _ _ _ _ wx HQ.out.2.2.1 (HK.out wx hwx).2.2.2.1 g 0 mc q s z l (by have := ht.1; rw [hlq] at this; exact this) (by omega) hs hsn hz hzn L fun wy hb => HLL.out wy _ _ (btr hwx hb) (ht.keep hb)
  have HSX : Hid (∀ wx mo mc, Below w6.heap.size w6 wx → Tw wx mo mc X → Calls Try.prog 17 #[.agg #[.slice (some ⟨F, 0, none⟩) (n + 1) (n + 1), .slice (some ⟨T, 0, none⟩) zs.length zs.length, .slice (some ⟨V, 0, none⟩) zs.length zs.length], .slice mo (k + 1) mc] wx fun e w' => ∃ b, e = .returned (.tuple #[.bool b, .nilIface]) ∧ ShortAns n zs s y L1 b ∧ Below wx.heap.size wx w') := fun wx mo mc hwx ht => by
    have hs' : X[0]? = some (s : Int) := by rw [hX, List.getElem?_take, if_pos (by omega)]; exact hs
    have hy' : X[k]? = some (y : Int) := by rw [hX, List.getElem?_take, if_pos (by omega)]; exact hy
    rcases ht.2.2 with rfl | ⟨g, rfl⟩
    · obtain ⟨b, off, e, _, _⟩ := ht.1.at hs'
      cases e
    · exact shortest_ex n zs _ _ _ _ _ _ wx HQ.out.2.2.1 (HK.out wx hwx).2.2.2.1 g 0 mc k s y X (by have := ht.1; rw [hXl] at this; exact this) (by omega) hs' hsn hy' hyn L1 fun wy hb => HLX.out wy _ _ (btr hwx hb) (ht.keep hb)
  have HSS : Hid (∀ b c, ShortAns n zs s z L b → ShortAns n zs s y L1 c → b = true → c = true) := fun b c h1 h2 => short_first hw hs hy (by omega) hz hlq hyn hzn (by rw [← hLs]; exact h1) (by rw [← hL1]; exact h2)
  have HSM : Hid (∀ wx so sc, Below w6.heap.size w6 wx → HasInts wx (.slice so (q + 1) sc) l → Calls Try.prog 9 #[.slice so (q + 1) sc, .slice (some ⟨lb, lof, none⟩) (q + 1) lc] wx fun e w' => e = .returned (.bool true) ∧ Below wx.heap.size wx w') := fun wx so sc hwx h => sameInts_yes _ _ l wx h (HK.out wx hwx).2.2.2.2.2.1 (by unfold maxLen; omega)
  clear hlq hkl hwl hX hY hRv hL1 hL2 hXl hYl hRl hs hsn hz hzn hy hyn liX liY liR liL hNo hw hLs h0 HBZ
  go_wp2_with fail
  go_region_held3 (fun _ => True) (exact trivial) (first
    | (go_at_call 8; refine (HTY.out _ H9.out.1).mono ?_; rintro e w10 ⟨yo, yc, rfl, ht, hb⟩; have H10 : Hid (Below w6.heap.size w6 w10 ∧ Tw w10 xo xc X ∧ Tw w10 yo yc Y) := ⟨btr H9.out.1 hb, H9.out.2.keep hb, ht⟩; clear ht hb)
    | (go_at_call 8; refine (HTX.out _ H8.out.1.drew).mono ?_; rintro e w9 ⟨xo, xc, rfl, ht, hb⟩; have H9 : Hid (Below w6.heap.size w6 w9 ∧ Tw w9 xo xc X) := ⟨(H8.out.1.drew).trans (hb.mono H8.out.1.size), ht⟩; clear ht hb))
  clear x0 x1 x2 xs1
  obtain ⟨⟨c0, c1, c2⟩, _, ⟨cs, _⟩, _⟩ := HK.out w10 H10.out.1
  go_wp2_with fail
  refine (HLX.out w10 _ _ H10.out.1 H10.out.2.1).mono ?_
  rintro e w11 ⟨rfl, hb⟩
  have H11 : Hid (Below w6.heap.size w6 w11 ∧ Tw w11 xo xc X ∧ Tw w11 yo yc Y) := ⟨btr H10.out.1 hb, H10.out.2.1.keep hb, H10.out.2.2.keep hb⟩
  clear hb c0 c1 c2 cs H10
  obtain ⟨⟨c0, c1, c2⟩, _, ⟨cs, _⟩, _⟩ := HK.out w11 H11.out.1
  go_wp2_with fail
  refine (HLY.out w11 _ _ H11.out.1 H11.out.2.2).mono ?_
  rintro e w12 ⟨rfl, hb⟩
  have H12 : Hid (Below w6.heap.size w6 w12 ∧ Tw w12 xo xc X ∧ Tw w12 yo yc Y) := ⟨btr H11.out.1 hb, H11.out.2.1.keep hb, H11.out.2.2.keep hb⟩
  clear hb c0 c1 c2 cs H11
  go_wp2_with fail
  refine (HJN.out w12 _ _ _ _ H12.out.2.1 H12.out.2.2).mono ?_
  rintro e w13 ⟨jo, jc, rfl, hj, hb⟩
  have H13 : Hid (Below w6.heap.size w6 w13 ∧ Tw w13 xo xc X ∧ HasInts w13 (.slice jo (q + 1) jc) l) := ⟨btr H12.out.1 hb, H12.out.2.1.keep hb, hj⟩
  clear hb hj H12
  obtain ⟨_, ⟨d0, d1, d2⟩, ⟨_, ds⟩, _⟩ := HK.out w13 H13.out.1
  go_wp2_with fail
  go_region_held3 (fun w' => w'.cell? ⟨db, 0, none⟩ = some (.slice (some ⟨F2, 0, none⟩) (n + 1) (n + 1)) ∧ w'.cell? ⟨db, 1, none⟩ = some (.slice (some ⟨T2, 0, none⟩) zt.length zt.length) ∧ w'.cell? ⟨db, 2, none⟩ = some (.slice (some ⟨V2, 0, none⟩) zt.length zt.length)) (go_keep) (first
    | (go_at_call 10; refine (HLB.out _ _ _ H15.out.1 H15.out.2.2.2).mono ?_; rintro e w16 ⟨rfl, hb⟩; have H16 : Hid (Below w6.heap.size w6 w16 ∧ Tw w16 xo xc X ∧ HasInts w16 (.slice jo (q + 1) jc) l) := ⟨btr H15.out.1 hb, H15.out.2.1.keep hb, H15.out.2.2.1.keep hb⟩; clear hb; obtain ⟨_, ⟨y0, y1, y2⟩, ⟨_, ys1⟩, _⟩ := HK.out w16 H16.out.1)
    | (go_at_call 16; refine (HBK.out _ _ _ H14.out.2.2.2).mono ?_; rintro e w15 ⟨ro, rc, rfl, ht, hb⟩; have H15 : Hid (Below w6.heap.size w6 w15 ∧ Tw w15 xo xc X ∧ HasInts w15 (.slice jo (q + 1) jc) l ∧ Tw w15 ro rc R) := ⟨btr H14.out.1 hb, H14.out.2.1.keep hb, H14.out.2.2.1.keep hb, ht⟩; clear hb ht; obtain ⟨_, ⟨y0, y1, y2⟩, ⟨_, ys1⟩, _⟩ := HK.out w15 H15.out.1)
    | (go_at_call 8; refine (HTL.out _ H13.out.1.drew).mono ?_; rintro e w14 ⟨to4, tc4, rfl, ht, hb⟩; have H14 : Hid (Below w6.heap.size w6 w14 ∧ Tw w14 xo xc X ∧ HasInts w14 (.slice jo (q + 1) jc) l ∧ Tw w14 to4 tc4 l) := ⟨(H13.out.1.drew).trans (hb.mono H13.out.1.size), (H13.out.2.1.keep (Below.refl _ _).drew).keep hb, (H13.out.2.2.keep (Below.refl _ _).drew).keep hb, ht⟩; clear hb ht; obtain ⟨_, ⟨y0, y1, y2⟩, ⟨_, ys1⟩, _⟩ := HK.out w14 H14.out.1))
  clear d0 d1 d2 ds
  obtain ⟨⟨c0, c1, c2⟩, _, ⟨cs, _⟩, _⟩ := HK.out w16 H16.out.1
  go_wp2_with fail
  go_region_held3 (fun w' => w'.cell? ⟨cb, 0, none⟩ = some (.slice (some ⟨F, 0, none⟩) (n + 1) (n + 1)) ∧ w'.cell? ⟨cb, 1, none⟩ = some (.slice (some ⟨T, 0, none⟩) zs.length zs.length) ∧ w'.cell? ⟨cb, 2, none⟩ = some (.slice (some ⟨V, 0, none⟩) zs.length zs.length)) (go_keep) (first
    | (go_at_call 17; refine (HSL.out _ _ _ H17.out.1 H17.out.2.2.2).mono ?_; rintro e w18 ⟨ba, rfl, hsa, hb⟩; have H18 : Hid (Below w6.heap.size w6 w18 ∧ Tw w18 xo xc X ∧ HasInts w18 (.slice jo (q + 1) jc) l ∧ ShortAns n zs s z L ba) := ⟨btr H17.out.1 hb, H17.out.2.1.keep hb, H17.out.2.2.1.keep hb, hsa⟩; clear hb hsa; obtain ⟨⟨u0, u1, u2⟩, _, ⟨us1, _⟩, _⟩ := HK.out w18 H18.out.1)
    | (go_at_call 8; refine (HTL.out _ H16.out.1.drew).mono ?_; rintro e w17 ⟨to7, tc7, rfl, ht, hb⟩; have H17 : Hid (Below w6.heap.size w6 w17 ∧ Tw w17 xo xc X ∧ HasInts w17 (.slice jo (q + 1) jc) l ∧ Tw w17 to7 tc7 l) := ⟨(H16.out.1.drew).trans (hb.mono H16.out.1.size), (H16.out.2.1.keep (Below.refl _ _).drew).keep hb, (H16.out.2.2.keep (Below.refl _ _).drew).keep hb, ht⟩; clear hb ht; obtain ⟨⟨u0, u1, u2⟩, _, ⟨us1, _⟩, _⟩ := HK.out w17 H17.out.1))
  clear c0 c1 c2 cs
  go_wp2_with fail
  refine (HSX.out w18 _ _ H18.out.1 H18.out.2.1).mono ?_
  rintro e w19 ⟨bc, rfl, hsa, hb⟩
  have H19 : Hid (Below w6.heap.size w6 w19 ∧ HasInts w19 (.slice jo (q + 1) jc) l ∧ (ba = true → bc = true)) := ⟨btr H18.out.1 hb, H18.out.2.2.1.keep hb, HSS.out ba bc H18.out.2.2.2 hsa⟩
  clear hb hsa H18
  go_wp2_with fail
  refine (HSM.out w19 _ _ H19.out.1 H19.out.2.1).mono ?_
  rintro e w20 ⟨rfl, hb⟩
  have HBY : Hid (Below w.heap.size w w20) := (HK.out w20 (btr H19.out.1 hb)).2.2.2.2.2.2
  have him := H19.out.2.2
  clear hb H19
  cases ba
  · clear him
    go_wp2
    go_ret
    exact ⟨rfl, HBY.out⟩
  · obtain rfl := him rfl
    clear him
    go_wp2
    go_ret
    exact ⟨rfl, HBY.out⟩
end Go.Proofs.Ytdfjmfgbdnpkbaa
