/- viaductref09.DocLength: what it answers, and its boxes. viaductref09.DocLength at right arrays: a node that is none, and lists of nodes. viaductref09.DocLength at right arrays and lists of nodes. -/
import Derived.Test.YtdfjmfgbdnpkbaaDoorWkU
import Derived.Test.YtdfjmfgbdnpkbaaDoorSrG
import Derived.BigQuiet
namespace Go.Proofs.YtdfjmfgbdnpkbaaDoor
open Go.RowKit Go.Extern

attribute [local go_sem] Oper.semAt_some

/-- a box of two cells is written. -/
def lay2 (W : World) (b : Nat) (c0 c1 : Value) : World := (W.setCell ⟨b, 0, none⟩ c0).setCell ⟨b, 1, none⟩ c1
section
variable {W : World} {b : Nat} {c0 c1 x : Value} {a : Option Addr} {n m : Nat} {T : TypeId}
theorem lay2_far {g : Nat} (hg : g ≠ b) : (lay2 W b c0 c1).heap[g]? = W.heap[g]? := (heap_setCell_other _ _ _ _ hg).trans (heap_setCell_other _ _ _ _ hg)
theorem lay2_size : (lay2 W b c0 c1).heap.size = W.heap.size := by simp [lay2]
theorem lay2_below {w : World} (h : Below w.heap.size w W) (hb : w.heap.size ≤ b) : Below w.heap.size w (lay2 W b c0 c1) := (h.setCell (p := ⟨b, 0, none⟩) hb _).setCell (p := ⟨b, 1, none⟩) hb _
theorem lay2_places {v : Value} {l : List (Int × Int)} (h : HasPlaces W v l) (hb : W.heap[b]? = some (.cells #[x, .slice a n m] T)) : HasPlaces (lay2 W b c0 c1) v l := by
  obtain ⟨ao, cap, e, hc⟩ := h
  refine ⟨ao, cap, e, fun j p hj => ?_⟩
  obtain ⟨g, off, ea, hl, q0, q1⟩ := hc j p hj
  have n2 : g ≠ b := fun e => by
    subst e
    simp only [World.cell?, hb] at q1
    generalize off + j * 2 = k at q1
    rcases k with _ | k <;> simp at q1
  have hk := lay2_far (W := W) (c0 := c0) (c1 := c1) n2
  exact ⟨g, off, ea, by rw [lay2_size]; exact hl, (World.cell?_of_block (a := ⟨g, _, none⟩) hk).trans q0, (World.cell?_of_block (a := ⟨g, _, none⟩) hk).trans q1⟩
end
theorem badT {C : Int} (h : C ≠ 0) (l : Nat) : (C != 0 || decide (0 < l)) = true := by simp [h]
theorem below1 (w : World) (o : Obj) : Below w.heap.size w (w.alloc o) := (Below.refl _ w).alloc (Nat.le_refl _) _
/-- what DocLength answers. -/
def LAns (w : World) (L : Int) (E : Int × List (Int × Int)) (e : Ending) (w' : World) : Prop := ∃ po pc, e = .returned (.tuple #[.int .u64 L, .agg #[.int .i64 E.1, .slice po E.2.length pc]]) ∧ HasPlaces w' (.slice po E.2.length pc) E.2 ∧ Below w.heap.size w w'

section
variable (fo uo wo : Option Addr) (fl fc tl tc wl wc : Nat) (w : World) (no : Option Addr) (nl nc : Nat)

set_option maxRecDepth 100000 in
set_option maxHeartbeats 4000000 in
theorem docLength_bad (C : Int) (ps : List (Int × Int)) (hC : C ≠ 0) (hD : ∀ wx, Below w.heap.size w wx → Calls Tryd.prog 25 #[.agg #[.slice fo fl fc, .slice uo tl tc, .slice wo wl wc]] wx (DocAns wx (C, ps))) :
    Calls Tryd.prog 11 #[.agg #[.slice fo fl fc, .slice uo tl tc, .slice wo wl wc], .slice no nl nc] w (LAns w 0 (C, ps)) := by
  have HDB : Hid (type_of% (DB.made w (.slice fo fl fc) (.slice uo tl tc) (.slice wo wl wc))) := DB.made w (.slice fo fl fc) (.slice uo tl tc) (.slice wo wl wc)
  have HDC : Hid (type_of% hD) := hD
  have HBT : Hid (∀ l, (C != 0 || decide (0 < l)) = true) := fun l => badT hC l
  clear hD
  go_enter Tryd.func11, Tryd.ntmps11
  go_wp2_with fail
  generalize (w.alloc (.cells #[.slice fo fl fc, .slice uo tl tc, .slice wo wl wc] 24)).alloc (.cells #[.int .i64 0, .slice none 0 0] 37) = W0 at *
  refine (HDC.out W0 HDB.out.below).mono ?_
  rintro e w1 ⟨po, pc, rfl, hP, hb⟩
  simp only at hP
  have H1 : Hid (DB w (.slice fo fl fc) (.slice uo tl tc) (.slice wo wl wc) w1 ∧ HasPlaces w1 (.slice po ps.length pc) ps) := ⟨HDB.out.keep hb, hP⟩
  clear hb hP
  go_wp2_with fail
  have H2 : Hid (DB w (.slice fo fl fc) (.slice uo tl tc) (.slice wo wl wc) (w1.alloc (.cells #[.int .i64 C, .slice po ps.length pc] 37)) ∧ HasPlaces (w1.alloc (.cells #[.int .i64 C, .slice po ps.length pc] 37)) (.slice po ps.length pc) ps ∧ (w1.alloc (.cells #[.int .i64 C, .slice po ps.length pc] 37)).heap[w1.heap.size]? = some (.cells #[.int .i64 C, .slice po ps.length pc] 37)) := ⟨H1.out.1.keep (below1 _ _), H1.out.2.keep (below1 _ _), heap_new _ _⟩
  have hbn : w.heap.size + 1 < w1.heap.size := lt_of_get H1.out.1.res
  generalize w1.alloc (.cells #[.int .i64 C, .slice po ps.length pc] 37) = W1 at *
  generalize w1.heap.size = B at *
  refine (bad_calls C po ps.length pc W1).mono ?_
  rw [HBT.out]
  rintro e w2 ⟨rfl, hb⟩
  have H3 : Hid (DB w (.slice fo fl fc) (.slice uo tl tc) (.slice wo wl wc) w2 ∧ HasPlaces w2 (.slice po ps.length pc) ps ∧ w2.heap[B]? = some (.cells #[.int .i64 C, .slice po ps.length pc] 37)) := ⟨H2.out.1.keep hb, H2.out.2.1.keep hb, (hb.block _ (lt_of_get H2.out.2.2)).trans H2.out.2.2⟩
  clear hb
  obtain ⟨e0, e1, _, _⟩ := cell_two H3.out.2.2
  have es := lt_of_get H3.out.2.2
  obtain ⟨d0, d1, x0, x1⟩ := cell_two H3.out.1.res
  have ds := lt_of_get H3.out.1.res
  have n1 : ¬ B = w.heap.size + 1 := by omega
  have n3 : ¬ w.heap.size + 1 = B := by omega
  go_wp2_with fail
  go_region_held (fun w' => w'.cell? ⟨B, 0, none⟩ = some (.int .i64 C) ∧ w'.cell? ⟨B, 1, none⟩ = some (.slice po ps.length pc)) (go_keep) (first | fail)
  all_goals
    go_wp2
    refine bodyPost_ret (v := .tuple #[.int .u64 0, .agg #[.int .i64 C, .slice po ps.length pc]]) (by simp [results, Tryd.results11, go_sem, d0, d1]) rfl ?_
    exact ⟨po, pc, rfl, (show HasPlaces (lay2 w2 (w.heap.size + 1) (.int .i64 C) (.slice po ps.length pc)) (.slice po ps.length pc) ps from lay2_places H3.out.2.1 H3.out.1.res), (show Below w.heap.size w (lay2 w2 (w.heap.size + 1) (.int .i64 C) (.slice po ps.length pc)) from lay2_below H3.out.1.below (by omega)).drew⟩

set_option maxRecDepth 100000 in
set_option maxHeartbeats 4000000 in
theorem docLength_none (hD : ∀ wx, Below w.heap.size w wx → Calls Tryd.prog 25 #[.agg #[.slice fo fl fc, .slice uo tl tc, .slice wo wl wc]] wx (DocAns wx (0, []))) :
    Calls Tryd.prog 11 #[.agg #[.slice fo fl fc, .slice uo tl tc, .slice wo wl wc], .slice no 0 nc] w (LAns w 0 (5, [])) := by
  have HDB : Hid (type_of% (DB.made w (.slice fo fl fc) (.slice uo tl tc) (.slice wo wl wc))) := DB.made w (.slice fo fl fc) (.slice uo tl tc) (.slice wo wl wc)
  have HDC : Hid (type_of% hD) := hD
  clear hD
  go_enter Tryd.func11, Tryd.ntmps11
  go_wp2_with fail
  generalize (w.alloc (.cells #[.slice fo fl fc, .slice uo tl tc, .slice wo wl wc] 24)).alloc (.cells #[.int .i64 0, .slice none 0 0] 37) = W0 at *
  refine (HDC.out W0 HDB.out.below).mono ?_
  rintro e w1 ⟨po, pc, rfl, hP, hb⟩
  have H1 : Hid (type_of% (HDB.out.keep hb)) := HDB.out.keep hb
  clear hb hP
  go_wp2_with fail
  have H2 : Hid (DB w (.slice fo fl fc) (.slice uo tl tc) (.slice wo wl wc) (w1.alloc (.cells #[.int .i64 0, .slice po 0 pc] 37))) := H1.out.keep (below1 _ _)
  generalize w1.alloc (.cells #[.int .i64 0, .slice po 0 pc] 37) = W1 at *
  refine (bad_calls 0 po 0 pc W1).mono ?_
  rintro e w2 ⟨rfl, hb⟩
  have H3 : Hid (type_of% (H2.out.keep hb)) := H2.out.keep hb
  clear hb
  rw [show ((0 : Int) != 0 || decide (0 < 0)) = false from rfl]
  go_wp2_with fail
  refine (E_calls 5 w2).mono ?_
  rintro e w4 ⟨rfl, hb⟩
  have H5 : Hid (type_of% (H3.out.keep hb)) := H3.out.keep hb
  clear hb
  obtain ⟨d0, d1, x0, x1⟩ := cell_two H5.out.res
  have ds := lt_of_get H5.out.res
  go_wp2
  refine bodyPost_ret (v := .tuple #[.int .u64 0, .agg #[.int .i64 5, .slice none 0 0]]) (by simp [results, Tryd.results11, go_sem, d0, d1]) rfl ?_
  exact ⟨none, 0, rfl, places_nil _, (show Below w.heap.size w (lay2 w4 (w.heap.size + 1) (.int .i64 5) (.slice none 0 0)) from lay2_below H5.out.below (by omega))⟩
end
end Go.Proofs.YtdfjmfgbdnpkbaaDoor

namespace Go.Proofs.YtdfjmfgbdnpkbaaDoor
open Go.RowKit Go.Extern

attribute [local go_sem] Oper.semAt_some

section
variable (fo uo wo : Option Addr) (n fc tc wc : Nat) (zs : List (Int × Int × Int)) (w : World) (no : Option Addr) (nc : Nat) (vs : List Int)

set_option maxRecDepth 100000 in
set_option maxHeartbeats 8000000 in
theorem docLength_node (hz : Fine n zs) (hv : HasInts w (.slice no vs.length nc) vs) (hvl : vs.length ≤ 1000000) (k0 : Nat) (v0 : Int) (hk0 : vs[k0]? = some v0) (hbad : ¬ (0 ≤ v0 ∧ v0 < (n : Int))) (hn : ∀ j v, j < k0 → vs[j]? = some v → 0 ≤ v ∧ v < (n : Int)) (hD : ∀ wx, Below w.heap.size w wx → Calls Tryd.prog 25 #[.agg #[.slice fo (n + 1) fc, .slice uo zs.length tc, .slice wo zs.length wc]] wx (DocAns wx (0, []))) :
    Calls Tryd.prog 11 #[.agg #[.slice fo (n + 1) fc, .slice uo zs.length tc, .slice wo zs.length wc], .slice no vs.length nc] w (LAns w 0 (7, [(3, (k0 : Int))])) := by
  have HDB : Hid (type_of% (DB.made w (.slice fo (n + 1) fc) (.slice uo zs.length tc) (.slice wo zs.length wc))) := DB.made w (.slice fo (n + 1) fc) (.slice uo zs.length tc) (.slice wo zs.length wc)
  have HDC : Hid (type_of% hD) := hD
  have hN := hz.few
  have hkl := (List.getElem?_eq_some_iff.1 hk0).1
  have hp : ((vs.length : Int) == 0) = false := by
    rw [beq_eq_false_iff_ne]
    omega
  have HV : Hid (type_of% hv) := hv
  have HN : Hid (type_of% hn) := hn
  have HK0 : Hid (vs[k0]? = some v0) := hk0
  have HND : Hid (∀ (u : Int) wx, Calls Tryd.prog 31 #[.agg #[.slice fo (n + 1) fc, .slice uo zs.length tc, .slice wo zs.length wc], .int .i64 u] wx fun e w' => e = .returned (.bool (decide (0 ≤ u ∧ u < (n : Int)))) ∧ Below wx.heap.size wx w') := fun u wx => rNode_calls fo uo wo n fc zs.length tc zs.length wc (by omega) u wx
  have HBD : Hid (decide (0 ≤ v0 ∧ v0 < (n : Int)) = false) := decide_eq_false hbad
  clear hD hv hn hk0 hz hbad
  go_enter Tryd.func11, Tryd.ntmps11
  go_wp2_with fail
  generalize (w.alloc (.cells #[.slice fo (n + 1) fc, .slice uo zs.length tc, .slice wo zs.length wc] 24)).alloc (.cells #[.int .i64 0, .slice none 0 0] 37) = W0 at *
  refine (HDC.out W0 HDB.out.below).mono ?_
  rintro e w1 ⟨po, pc, rfl, hP, hb⟩
  have H1 : Hid (type_of% (HDB.out.keep hb)) := HDB.out.keep hb
  clear hb hP
  go_wp2_with fail
  have H2 : Hid (DB w (.slice fo (n + 1) fc) (.slice uo zs.length tc) (.slice wo zs.length wc) (w1.alloc (.cells #[.int .i64 0, .slice po 0 pc] 37))) := H1.out.keep (below1 _ _)
  generalize w1.alloc (.cells #[.int .i64 0, .slice po 0 pc] 37) = W1 at *
  refine (bad_calls 0 po 0 pc W1).mono ?_
  rintro e w2 ⟨rfl, hb⟩
  have H3 : Hid (type_of% (H2.out.keep hb)) := H2.out.keep hb
  clear hb
  rw [show ((0 : Int) != 0 || decide (0 < 0)) = false from rfl]
  go_wp2_with fail
  go_loopw [24] (fun iv wr => ∃ k : Nat, k ≤ k0 ∧ iv = .int .i64 k ∧ DB w (.slice fo (n + 1) fc) (.slice uo zs.length tc) (.slice wo zs.length wc) wr) (fun iv _ => vs.length - (intOf iv).toNat)
  case atStart => exact ⟨0, Nat.zero_le _, rfl, H3.out⟩
  case round =>
    obtain ⟨k, hk, rfl, hR⟩ := hrel
    have HR : Hid (DB w (.slice fo (n + 1) fc) (.slice uo zs.length tc) (.slice wo zs.length wc) wr) := hR
    obtain ⟨c0, c1, c2⟩ := box3 hR.box
    have cs := lt_of_get hR.box
    clear hR
    have i1 : (k : Int) < (vs.length : Int) := by omega
    have i2 : (0 : Int) ≤ (k : Int) := by omega
    by_cases hlt : k < k0
    · obtain ⟨v, hv⟩ : ∃ v, vs[k]? = some v := ⟨vs[k], List.getElem?_eq_getElem (by omega)⟩
      obtain ⟨b, off, hno, hbl, q0⟩ := (HV.out.keep HR.out.below).at hv
      subst hno
      have HT : Hid (decide (0 ≤ v ∧ v < (n : Int)) = true) := decide_eq_true (HN.out k v hlt hv)
      clear hv
      go_wp2_with fail
      refine (HND.out v wr).mono ?_
      rw [HT.out]
      rintro e w4 ⟨rfl, hb⟩
      have H4 : Hid (type_of% (HR.out.keep hb)) := HR.out.keep hb
      clear hb
      go_wp2
      go_roundw
      case rel => exact ⟨k + 1, by omega, by go_num, H4.out⟩
      case measure => simp [intOf]; omega
    · obtain rfl : k = k0 := by omega
      obtain ⟨b, off, hno, hbl, q0⟩ := (HV.out.keep HR.out.below).at HK0.out
      subst hno
      go_wp2_with fail
      refine (HND.out v0 wr).mono ?_
      rw [HBD.out]
      rintro e w4 ⟨rfl, hb⟩
      have H4 : Hid (type_of% (HR.out.keep hb)) := HR.out.keep hb
      clear hb c0 c1 c2 cs
      go_wp2_with fail
      refine (E_calls 7 w4).mono ?_
      rintro e w5 ⟨rfl, hb⟩
      have H5 : Hid (type_of% (H4.out.keep hb)) := H4.out.keep hb
      clear hb
      go_wp2_with fail
      refine (refAt_calls 3 k 7 w5).mono ?_
      rintro e w6 ⟨g, rfl, hg, hb⟩
      have H6 : Hid (DB w (.slice fo (n + 1) fc) (.slice uo zs.length tc) (.slice wo zs.length wc) w6 ∧ HasPlaces w6 (.slice (some ⟨g, 0, none⟩) 1 1) [(3, (k : Int))]) := ⟨H5.out.keep hb, places_one hg⟩
      clear hb hg
      obtain ⟨d0, d1, x0, x1⟩ := cell_two H6.out.1.res
      have ds := lt_of_get H6.out.1.res
      go_wp2
      refine bodyPost_ret (v := .tuple #[.int .u64 0, .agg #[.int .i64 7, .slice (some ⟨g, 0, none⟩) 1 1]]) (by simp [results, Tryd.results11, go_sem, d0, d1]) rfl ?_
      exact ⟨_, _, rfl, (show HasPlaces (lay2 w6 (w.heap.size + 1) (.int .i64 7) (.slice (some ⟨g, 0, none⟩) 1 1)) (.slice (some ⟨g, 0, none⟩) 1 1) [(3, (k : Int))] from lay2_places H6.out.2 H6.out.1.res), (show Below w.heap.size w (lay2 w6 (w.heap.size + 1) (.int .i64 7) (.slice (some ⟨g, 0, none⟩) 1 1)) from lay2_below H6.out.1.below (by omega))⟩
end
end Go.Proofs.YtdfjmfgbdnpkbaaDoor

namespace Go.Proofs.YtdfjmfgbdnpkbaaDoor
open Go.RowKit Go.Extern

attribute [local go_sem] Oper.semAt_some

/-- where an arc lies in its row, if it lies there. -/
theorem Fine.spot {n : Nat} {zs : List (Int × Int × Int)} (h : Fine n zs) {p : Nat} {u r : Int} {ok : Bool} (hs : StepIs zs (p : Int) u r ok) : ∃ i0, firstAt zs p ≤ i0 ∧ (ok = decide (i0 < firstAt zs (p + 1))) ∧ ∀ (i : Nat) (a : Int × Int × Int), zs[i]? = some a → firstAt zs p ≤ i → i < firstAt zs (p + 1) → (a.2.1 = u ↔ i = i0) ∧ (i = i0 → a.2.2 = r) := by
  rcases hs with ⟨rfl, hm⟩ | ⟨rfl, rfl, hno⟩
  · obtain ⟨i0, hi0⟩ := List.getElem?_of_mem hm
    obtain ⟨h1, h2⟩ := h.inRow hi0 rfl
    refine ⟨i0, h1, (decide_eq_true h2).symm, fun i a ha g1 g2 => ⟨⟨fun e => ?_, fun e => ?_⟩, fun e => ?_⟩⟩
    · obtain ⟨a0, a1, a2⟩ := a
      simp only at e
      subst e
      have e0 := h.row ha g1 g2
      simp only at e0
      subst e0
      have f1 := (h.find ha).1
      have f2 := (h.find hi0).1
      omega
    · subst e
      rw [hi0] at ha
      cases ha
      rfl
    · subst e
      rw [hi0] at ha
      cases ha
      rfl
  · have hxy := firstAt_mono zs (show p ≤ p + 1 by omega)
    refine ⟨firstAt zs (p + 1), hxy, by simp, fun i a ha g1 g2 => ⟨⟨fun e => ?_, fun e => by omega⟩, fun e => by omega⟩⟩
    exact absurd ⟨h.row ha g1 g2, e⟩ (hno a (List.mem_of_getElem? ha))
/-- the sum so far in a row. -/
def plusAt (S r : Int) (i0 j : Nat) : Int := if i0 < j then S + r else S
section
variable (fo uo wo : Option Addr) (n fc tc wc : Nat) (zs : List (Int × Int × Int)) (w : World) (lb lof nc : Nat) (vs : List Int)

set_option maxRecDepth 100000 in
set_option maxHeartbeats 16000000 in
theorem docLength_nodes (hz : Fine n zs) (hI : CsrIn w n zs fo uo wo fc tc wc) (hv : HasInts w (.slice (some ⟨lb, lof, none⟩) vs.length nc) vs) (hvl : vs.length ≤ 1000000) (hn : Nodes n vs) (ws : List Int) (k0 : Nat) (hk0 : k0 < vs.length) (hW : WalkIs zs (vs.take (k0 + 1)) ws) (hno : k0 + 1 = vs.length ∨ ∃ v u, vs[k0]? = some v ∧ vs[k0 + 1]? = some u ∧ NoArc zs v u) (L : Int) (E : Int × List (Int × Int)) (hE : (k0 + 1 = vs.length ∧ L = ws.sum ∧ E = (0, [])) ∨ (k0 + 1 < vs.length ∧ L = 0 ∧ E = (16, [(4, (k0 : Int))]))) (hD : ∀ wx, Below w.heap.size w wx → Calls Tryd.prog 25 #[.agg #[.slice fo (n + 1) fc, .slice uo zs.length tc, .slice wo zs.length wc]] wx (DocAns wx (0, []))) :
    Calls Tryd.prog 11 #[.agg #[.slice fo (n + 1) fc, .slice uo zs.length tc, .slice wo zs.length wc], .slice (some ⟨lb, lof, none⟩) vs.length nc] w (LAns w L E) := by
  have HDB : Hid (type_of% (DB.made w (.slice fo (n + 1) fc) (.slice uo zs.length tc) (.slice wo zs.length wc))) := DB.made w (.slice fo (n + 1) fc) (.slice uo zs.length tc) (.slice wo zs.length wc)
  have HDC : Hid (type_of% hD) := hD
  have HEE : Hid (type_of% hE) := hE
  have hN := hz.few
  have hM := hz.short
  have HZ : Hid (Fine n zs) := hz
  have hp : ((vs.length : Int) == 0) = false := by
    rw [beq_eq_false_iff_ne]
    omega
  have hwl : ws.length = k0 := by have := hW.1; rw [List.length_take] at this; omega
  obtain ⟨fb, fof, hfo, _, _⟩ := hI.first
  subst hfo
  have HV : Hid (type_of% hv) := hv
  have HI : Hid (type_of% hI) := hI
  have HN : Hid (Nodes n vs) := hn
  have HNO : Hid (type_of% hno) := hno
  have HWK : Hid (∀ (k : Nat) (r : Int), ws[k]? = some r → ∃ v u, vs[k]? = some v ∧ vs[k + 1]? = some u ∧ (0 ≤ r ∧ r ≤ 2147483647) ∧ StepIs zs v u r true) := fun k r hr => by
    obtain ⟨v, u, h1, h2, h3⟩ := hW.2 k r hr
    obtain ⟨_, _, _, _, _, g3, g4⟩ := hz.ends _ h3
    rw [List.getElem?_take] at h1 h2
    split at h1 <;> split at h2
    · exact ⟨v, u, h1, h2, ⟨g3, g4⟩, Or.inl ⟨rfl, h3⟩⟩
    all_goals simp at h1 h2
  have HSB : Hid (∀ k : Nat, k ≤ ws.length → 0 ≤ (ws.take k).sum ∧ (ws.take k).sum ≤ (k : Int) * 2147483647) := sum_le fun i r hr => by
    obtain ⟨v, u, _, _, h3⟩ := hW.2 i r hr
    exact ⟨(hz.ends _ h3).2.2.2.2.2.1, (hz.ends _ h3).2.2.2.2.2.2⟩
  have HND : Hid (∀ (u : Int) wx, Calls Tryd.prog 31 #[.agg #[.slice (some ⟨fb, fof, none⟩) (n + 1) fc, .slice uo zs.length tc, .slice wo zs.length wc], .int .i64 u] wx fun e w' => e = .returned (.bool (decide (0 ≤ u ∧ u < (n : Int)))) ∧ Below wx.heap.size wx w') := fun u wx => rNode_calls (some ⟨fb, fof, none⟩) uo wo n fc zs.length tc zs.length wc (by omega) u wx
  clear hD hv hn hz hW hno hI hE
  go_enter Tryd.func11, Tryd.ntmps11
  go_wp2_with fail
  generalize (w.alloc (.cells #[.slice (some ⟨fb, fof, none⟩) (n + 1) fc, .slice uo zs.length tc, .slice wo zs.length wc] 24)).alloc (.cells #[.int .i64 0, .slice none 0 0] 37) = W0 at *
  refine (HDC.out W0 HDB.out.below).mono ?_
  rintro e w1 ⟨po, pc, rfl, hP, hb⟩
  have H1 : Hid (type_of% (HDB.out.keep hb)) := HDB.out.keep hb
  clear hb hP
  go_wp2_with fail
  have H2 : Hid (DB w (.slice (some ⟨fb, fof, none⟩) (n + 1) fc) (.slice uo zs.length tc) (.slice wo zs.length wc) (w1.alloc (.cells #[.int .i64 0, .slice po 0 pc] 37))) := H1.out.keep (below1 _ _)
  generalize w1.alloc (.cells #[.int .i64 0, .slice po 0 pc] 37) = W1 at *
  refine (bad_calls 0 po 0 pc W1).mono ?_
  rintro e w2 ⟨rfl, hb⟩
  have H3 : Hid (type_of% (H2.out.keep hb)) := H2.out.keep hb
  clear hb
  rw [show ((0 : Int) != 0 || decide (0 < 0)) = false from rfl]
  go_wp2_with fail
  go_loopw [24] (fun iv wr => ∃ k : Nat, k ≤ vs.length ∧ iv = .int .i64 k ∧ DB w (.slice (some ⟨fb, fof, none⟩) (n + 1) fc) (.slice uo zs.length tc) (.slice wo zs.length wc) wr) (fun iv _ => vs.length - (intOf iv).toNat)
  case atStart => exact ⟨0, Nat.zero_le _, rfl, H3.out⟩
  case round =>
    obtain ⟨k, hk, rfl, hR⟩ := hrel
    have HR : Hid (DB w (.slice (some ⟨fb, fof, none⟩) (n + 1) fc) (.slice uo zs.length tc) (.slice wo zs.length wc) wr) := hR
    obtain ⟨c0, c1, c2⟩ := box3 hR.box
    have cs := lt_of_get hR.box
    clear hR
    have i2 : (0 : Int) ≤ (k : Int) := by omega
    by_cases hlt : k < vs.length
    · have i1 : (k : Int) < (vs.length : Int) := by omega
      obtain ⟨v, hv⟩ : ∃ v, vs[k]? = some v := ⟨vs[k], List.getElem?_eq_getElem (by omega)⟩
      obtain ⟨b, off, hno, hbl, q0⟩ := (HV.out.keep HR.out.below).at hv
      cases hno
      have HT : Hid (decide (0 ≤ v ∧ v < (n : Int)) = true) := decide_eq_true (HN.out v (List.mem_of_getElem? hv))
      clear hv
      go_wp2_with fail
      refine (HND.out v wr).mono ?_
      rw [HT.out]
      rintro e w4 ⟨rfl, hb⟩
      have H4 : Hid (type_of% (HR.out.keep hb)) := HR.out.keep hb
      clear hb
      go_wp2
      go_roundw
      case rel => exact ⟨k + 1, by omega, by go_num, H4.out⟩
      case measure => simp [intOf]; omega
    · obtain rfl : k = vs.length := by omega
      clear c0 c1 c2 cs
      generalize hwr : wr = w3 at *
      clear hwr
      go_wp2_with fail
      go_loopw [9, 10] (fun sv iv wr => ∃ k : Nat, k ≤ k0 ∧ iv = .int .i64 ((k : Int) + 1) ∧ sv = .int .u64 (ws.take k).sum ∧ DB w (.slice (some ⟨fb, fof, none⟩) (n + 1) fc) (.slice uo zs.length tc) (.slice wo zs.length wc) wr) (fun _ iv _ => vs.length - (intOf iv).toNat)
      case atStart => exact ⟨0, Nat.zero_le _, by simp, by simp, HR.out⟩
      case round =>
        obtain ⟨k, hk, rfl, rfl, hR⟩ := hrel
        clear HR
        have HR : Hid (DB w (.slice (some ⟨fb, fof, none⟩) (n + 1) fc) (.slice uo zs.length tc) (.slice wo zs.length wc) wr) := hR
        clear hR
        by_cases hlt2 : k + 1 < vs.length
        · obtain ⟨v, u, r, ok, hv, hu, ⟨r0, r1⟩, hSt, hcase⟩ : ∃ v u r ok, vs[k]? = some v ∧ vs[k + 1]? = some u ∧ (0 ≤ r ∧ r ≤ 2147483647) ∧ StepIs zs v u r ok ∧ ((ok = true ∧ k < k0 ∧ ws[k]? = some r) ∨ (ok = false ∧ k = k0 ∧ r = 0)) := by
            by_cases hkk : k < k0
            · obtain ⟨r, hr⟩ : ∃ r, ws[k]? = some r := ⟨ws[k], List.getElem?_eq_getElem (by omega)⟩
              obtain ⟨v, u, h1, h2, h3, h4⟩ := HWK.out k r hr
              exact ⟨v, u, r, true, h1, h2, h3, h4, Or.inl ⟨rfl, hkk, hr⟩⟩
            · obtain rfl : k = k0 := by omega
              rcases HNO.out with e | ⟨v, u, h1, h2, h3⟩
              · omega
              · exact ⟨v, u, 0, false, h1, h2, ⟨by omega, by omega⟩, Or.inr ⟨rfl, rfl, h3⟩, Or.inr ⟨rfl, rfl, rfl⟩⟩
          obtain ⟨v1, v2⟩ := HN.out v (List.mem_of_getElem? hv)
          obtain ⟨p, rfl⟩ := Int.eq_ofNat_of_zero_le v1
          obtain ⟨i0, hi0, hok, hsp⟩ := HZ.out.spot hSt
          obtain ⟨s0, s1⟩ := HSB.out k (by omega)
          obtain ⟨S, hS⟩ : ∃ S, (ws.take k).sum = S := ⟨_, rfl⟩
          have HSS : Hid ((ws.take k).sum = S) := hS
          rw [hS] at s0 s1 ⊢
          have hxy := firstAt_mono zs (show p ≤ p + 1 by omega)
          have hyl := firstAt_le zs (p + 1)
          obtain ⟨x, hx⟩ : ∃ x, firstAt zs p = x := ⟨_, rfl⟩
          obtain ⟨y, hy⟩ : ∃ y, firstAt zs (p + 1) = y := ⟨_, rfl⟩
          rw [hx] at hi0 hxy hsp
          rw [hy] at hok hxy hyl hsp
          have HSP : Hid (type_of% hsp) := hsp
          have HOK : Hid (ok = decide (i0 < y)) := hok
          have HCASE : Hid (type_of% hcase) := hcase
          -- what stands in memory
          have HKX : Hid (∀ wx, DB w (.slice (some ⟨fb, fof, none⟩) (n + 1) fc) (.slice uo zs.length tc) (.slice wo zs.length wc) wx → ((wx.cell? ⟨w.heap.size, 0, none⟩ = some (.slice (some ⟨fb, fof, none⟩) (n + 1) fc) ∧ wx.cell? ⟨w.heap.size, 1, none⟩ = some (.slice uo zs.length tc) ∧ wx.cell? ⟨w.heap.size, 2, none⟩ = some (.slice wo zs.length wc)) ∧ w.heap.size < wx.heap.size) ∧ (wx.cell? ⟨fb, fof + p, none⟩ = some (.int .i64 x) ∧ wx.cell? ⟨fb, fof + (p + 1), none⟩ = some (.int .i64 y) ∧ fb < wx.heap.size) ∧ (wx.cell? ⟨lb, lof + k, none⟩ = some (.int .i64 p) ∧ wx.cell? ⟨lb, lof + (k + 1), none⟩ = some (.int .i64 u) ∧ lb < wx.heap.size)) := fun wx hdb => by
            obtain ⟨fb', fof', e, hl, hc⟩ := (HI.out.keep hdb.below).first
            cases e
            obtain ⟨b, off, e, hbl, q0⟩ := (HV.out.keep hdb.below).at hv
            cases e
            obtain ⟨b, off, e, hbl', q1⟩ := (HV.out.keep hdb.below).at hu
            cases e
            have g0 := hc p (by omega)
            have g1 := hc (p + 1) (by omega)
            rw [hx] at g0
            rw [hy] at g1
            exact ⟨⟨box3 hdb.box, lt_of_get hdb.box⟩, ⟨g0, g1, hl⟩, q0, q1, hbl⟩
          clear hSt hsp hok hv hu hx hy hS hcase
          have e1 : (p : Int) < (n : Int) + 1 := by omega
          have e2 : (p : Int) + 1 < (n : Int) + 1 := by omega
          have e3 : (0 : Int) ≤ (p : Int) := by omega
          have e4 : (0 : Int) ≤ (p : Int) + 1 := by omega
          have e5 : IntKind.i64.wrap ((p : Int) + 1) = (p : Int) + 1 := by rw [IntKind.wrap_i64] <;> omega
          have e6 : IntKind.u64.wrap r = r := by rw [IntKind.wrap_u64] <;> omega
          have e7 : IntKind.i64.wrap ((k : Int) + 1 - 1) = (k : Int) := by rw [IntKind.wrap_i64] <;> omega
          have e8 : (k : Int) < (vs.length : Int) := by omega
          have e9 : (0 : Int) ≤ (k : Int) := by omega
          have e10 : (k : Int) + 1 < (vs.length : Int) := by omega
          have e11 : (0 : Int) ≤ (k : Int) + 1 := by omega
          have e12 : IntKind.u64.wrap (S + r) = S + r := by rw [IntKind.wrap_u64] <;> omega
          have e13 : IntKind.i64.wrap (k : Int) = (k : Int) := by rw [IntKind.wrap_i64] <;> omega
          obtain ⟨⟨⟨c0, c1, c2⟩, cs⟩, ⟨f0, f1, fs⟩, ⟨l0, l1, ls⟩⟩ := HKX.out wr HR.out
          go_wp2_with fail
          go_quiet (fail)
          have HQ : Hid (DB w (.slice (some ⟨fb, fof, none⟩) (n + 1) fc) (.slice uo zs.length tc) (.slice wo zs.length wc) (wr.drewN nq)) := HR.out.drew nq
          generalize hW5 : wr.drewN nq = w5 at *
          clear hW5 c0 c1 c2 cs f0 f1 fs l0 l1 ls
          go_wp2_with fail
          go_loopw [9, 11, 12] (fun sv fv jv wr => ∃ j : Nat, x ≤ j ∧ j ≤ y ∧ jv = .int .i64 j ∧ sv = .int .u64 (plusAt S r i0 j) ∧ fv = .bool (decide (i0 < j)) ∧ DB w (.slice (some ⟨fb, fof, none⟩) (n + 1) fc) (.slice uo zs.length tc) (.slice wo zs.length wc) wr) (fun _ _ jv _ => y - (intOf jv).toNat)
          case atStart => exact ⟨x, Nat.le_refl _, hxy, rfl, by rw [plusAt, if_neg (by omega)], by rw [decide_eq_false (by omega)], HQ.out⟩
          case round =>
            obtain ⟨j, hj1, hj2, rfl, rfl, rfl, hR2⟩ := hrel
            have HR2 : Hid (DB w (.slice (some ⟨fb, fof, none⟩) (n + 1) fc) (.slice uo zs.length tc) (.slice wo zs.length wc) wr) := hR2
            clear hR2
            obtain ⟨⟨⟨c0, c1, c2⟩, cs⟩, ⟨f0, f1, fs⟩, ⟨l0, l1, ls⟩⟩ := HKX.out wr HR2.out
            by_cases hjy : j < y
            · obtain ⟨a, ha⟩ : ∃ a, zs[j]? = some a := ⟨zs[j], List.getElem?_eq_getElem (by omega)⟩
              obtain ⟨tb, tof, wb, wof, hu1, hw1, _, _, _⟩ := (HI.out.keep HR2.out.below).arc (by omega)
              subst hu1 hw1
              have HKT : Hid (∀ wx, DB w (.slice (some ⟨fb, fof, none⟩) (n + 1) fc) (.slice (some ⟨tb, tof, none⟩) zs.length tc) (.slice (some ⟨wb, wof, none⟩) zs.length wc) wx → wx.cell? ⟨tb, tof + j, none⟩ = some (.int .i64 a.2.1) ∧ wx.cell? ⟨wb, wof + j, none⟩ = some (.int .i64 a.2.2) ∧ tb < wx.heap.size ∧ wb < wx.heap.size) := fun wx hdb => by
                obtain ⟨tb', tof', wb', wof', g1, g2, g3, g4, g5⟩ := (HI.out.keep hdb.below).arc (by omega)
                cases g1
                cases g2
                exact ⟨(g5 j a ha).1, (g5 j a ha).2, g3, g4⟩
              obtain ⟨t0, t1, t2, t3⟩ := HKT.out wr HR2.out
              have k1 : decide ((j : Int) < (y : Int)) = true := decide_eq_true (by omega)
              have k2 : (j : Int) < (zs.length : Int) := by omega
              have k3 : (0 : Int) ≤ (j : Int) := by omega
              have k4 : (j : Int) < (y : Int) := by omega
              have HHS : Hid (type_of% (HSP.out j a ha hj1 hjy)) := HSP.out j a ha hj1 hjy
              clear ha
              obtain ⟨_, z, q⟩ := a
              simp only at t0 t1 HKT HHS
              go_wp2_with fail
              go_quiet (fail)
              have H6 : Hid (DB w (.slice (some ⟨fb, fof, none⟩) (n + 1) fc) (.slice (some ⟨tb, tof, none⟩) zs.length tc) (.slice (some ⟨wb, wof, none⟩) zs.length wc) (wr.drewN nq)) := HR2.out.drew nq
              generalize hW6 : wr.drewN nq = w6 at *
              clear hW6 c0 c1 c2 cs f0 f1 fs l0 l1 ls t0 t1 t2 t3 k1
              obtain ⟨⟨⟨c0, c1, c2⟩, cs⟩, ⟨f0, f1, fs⟩, ⟨l0, l1, ls⟩⟩ := HKX.out w6 H6.out
              obtain ⟨t0, t1, t2, t3⟩ := HKT.out w6 H6.out
              by_cases hji : j = i0
              · have ez := HHS.out.1.2 hji
                have eq := HHS.out.2 hji
                subst ez eq
                have HP : Hid (plusAt S q i0 j = S ∧ plusAt S q i0 (j + 1) = S + q ∧ decide (i0 < j + 1) = true) := ⟨by rw [plusAt, if_neg (by omega)], by rw [plusAt, if_pos (by omega)], decide_eq_true (by omega)⟩
                rw [HP.out.1]
                clear hji
                go_wp2_with fail
                go_quiet (fail)
                have H7 : Hid (DB w (.slice (some ⟨fb, fof, none⟩) (n + 1) fc) (.slice (some ⟨tb, tof, none⟩) zs.length tc) (.slice (some ⟨wb, wof, none⟩) zs.length wc) (w6.drewN nq)) := H6.out.drew nq
                generalize hW7 : w6.drewN nq = w7 at *
                clear hW7 c0 c1 c2 cs f0 f1 fs l0 l1 ls t0 t1 t2 t3
                obtain ⟨⟨⟨c0, c1, c2⟩, cs⟩, _, _⟩ := HKX.out w7 H7.out
                obtain ⟨t0, t1, t2, t3⟩ := HKT.out w7 H7.out
                go_wp2
                go_roundw
                case rel => exact ⟨j + 1, by omega, by omega, by go_num, by rw [HP.out.2.1], by rw [HP.out.2.2], H7.out⟩
                case measure => simp [intOf]; omega
              · have ez : (z == u) = false := by
                  have : ¬ z = u := fun e => hji (HHS.out.1.1 e)
                  simpa using this
                have HP : Hid (plusAt S r i0 (j + 1) = plusAt S r i0 j ∧ decide (i0 < j + 1) = decide (i0 < j)) := by
                  constructor
                  · unfold plusAt
                    by_cases h : i0 < j
                    · rw [if_pos h, if_pos (by omega)]
                    · rw [if_neg h, if_neg (by omega)]
                  · by_cases h : i0 < j
                    · rw [decide_eq_true h, decide_eq_true (by omega)]
                    · rw [decide_eq_false h, decide_eq_false (by omega)]
                generalize hpl : plusAt S r i0 j = PL at *
                generalize hdl : decide (i0 < j) = DL at *
                clear hpl hdl
                go_wp2_with fail
                go_quiet (fail)
                have H7 : Hid (DB w (.slice (some ⟨fb, fof, none⟩) (n + 1) fc) (.slice (some ⟨tb, tof, none⟩) zs.length tc) (.slice (some ⟨wb, wof, none⟩) zs.length wc) (w6.drewN nq)) := H6.out.drew nq
                generalize hW7 : w6.drewN nq = w7 at *
                clear hW7 c0 c1 c2 cs f0 f1 fs l0 l1 ls t0 t1 t2 t3
                go_wp2
                go_roundw
                case rel => exact ⟨j + 1, by omega, by omega, by go_num, by rw [HP.out.1], by rw [HP.out.2], H7.out⟩
                case measure => simp [intOf]; omega
            · obtain rfl : j = y := by omega
              have k1 : decide ((j : Int) < (j : Int)) = false := decide_eq_false (by omega)
              go_wp2_with fail
              go_quiet (fail)
              have H6 : Hid (DB w (.slice (some ⟨fb, fof, none⟩) (n + 1) fc) (.slice uo zs.length tc) (.slice wo zs.length wc) (wr.drewN nq)) := HR2.out.drew nq
              generalize hW6 : wr.drewN nq = w6 at *
              clear hW6 c0 c1 c2 cs f0 f1 fs l0 l1 ls k1
              rcases HCASE.out with ⟨h1, hkk, hr⟩ | ⟨h1, h2, h3⟩
              · have hd : decide (i0 < j) = true := HOK.out.symm.trans h1
                have HP : Hid (plusAt S r i0 j = (ws.take (k + 1)).sum) := by
                  show _ = _
                  rw [sum_take hr, HSS.out, plusAt, if_pos (of_decide_eq_true hd)]
                rw [hd]
                generalize hpl : plusAt S r i0 j = PL at *
                clear hpl hd h1 hr
                go_wp2
                go_roundw
                case rel => exact ⟨k + 1, by omega, by go_num, by rw [HP.out], H6.out⟩
                case measure => simp [intOf]; omega
              · have hd : decide (i0 < j) = false := HOK.out.symm.trans h1
                rw [hd]
                generalize hpl : plusAt S r i0 j = PL at *
                clear hpl hd h1
                have HE2 : Hid (L = 0 ∧ E = (16, [(4, (k : Int))])) := by
                  rcases HEE.out with ⟨h, _⟩ | ⟨_, h4, h5⟩
                  · omega
                  · exact ⟨h4, by rw [h5, h2]⟩
                obtain ⟨rfl, rfl⟩ := HE2.out
                clear h2 h3
                go_wp2_with fail
                refine (E_calls 16 w6).mono ?_
                rintro e w7 ⟨rfl, hb⟩
                have H7 : Hid (type_of% (H6.out.keep hb)) := H6.out.keep hb
                clear hb
                go_wp2_with fail
                refine (refAt_calls 4 k 16 w7).mono ?_
                rintro e w8 ⟨g, rfl, hg, hb⟩
                have H8 : Hid (DB w (.slice (some ⟨fb, fof, none⟩) (n + 1) fc) (.slice uo zs.length tc) (.slice wo zs.length wc) w8 ∧ HasPlaces w8 (.slice (some ⟨g, 0, none⟩) 1 1) [(4, (k : Int))]) := ⟨H7.out.keep hb, places_one hg⟩
                clear hb hg
                obtain ⟨d0, d1, x0, x1⟩ := cell_two H8.out.1.res
                have ds := lt_of_get H8.out.1.res
                go_wp2
                refine bodyPost_ret (v := .tuple #[.int .u64 0, .agg #[.int .i64 16, .slice (some ⟨g, 0, none⟩) 1 1]]) (by simp [results, Tryd.results11, go_sem, d0, d1]) rfl ?_
                exact ⟨_, _, rfl, (show HasPlaces (lay2 w8 (w.heap.size + 1) (.int .i64 16) (.slice (some ⟨g, 0, none⟩) 1 1)) (.slice (some ⟨g, 0, none⟩) 1 1) [(4, (k : Int))] from lay2_places H8.out.2 H8.out.1.res), (show Below w.heap.size w (lay2 w8 (w.heap.size + 1) (.int .i64 16) (.slice (some ⟨g, 0, none⟩) 1 1)) from lay2_below H8.out.1.below (by omega))⟩
        · obtain rfl : k = k0 := by omega
          have hkv : k + 1 = vs.length := by omega
          rcases HEE.out with ⟨_, rfl, rfl⟩ | ⟨h, _⟩
          · have HSE : Hid ((ws.take k).sum = ws.sum) := by show _ = _; rw [← hwl, List.take_length]
            rw [HSE.out]
            obtain ⟨d0, d1, x0, x1⟩ := cell_two HR.out.res
            have ds := lt_of_get HR.out.res
            have g1 : ((k : Int) + 1) = (vs.length : Int) := by omega
            rw [g1]
            generalize ws.sum = S at *
            go_wp2
            refine bodyPost_ret (v := .tuple #[.int .u64 S, .agg #[.int .i64 0, .slice none 0 0]]) (by simp [results, Tryd.results11, go_sem, d0, d1]) rfl ?_
            exact ⟨none, 0, rfl, places_nil _, (show Below w.heap.size w (lay2 wr (w.heap.size + 1) (.int .i64 0) (.slice none 0 0)) from lay2_below HR.out.below (by omega))⟩
          · omega
end
end Go.Proofs.YtdfjmfgbdnpkbaaDoor
