/- the law's own example: four, of, Length and Simple at it; awake. awake of the law on walks. -/
import Derived.Test.YtdfjmfgbdnpkbaaDoorWkH
namespace Go.Proofs.YtdfjmfgbdnpkbaaDoor
open Go.RowKit Go.Extern

attribute [local go_sem] Oper.semAt_some

def Z4 : List (Int × Int × Int) := [(0, 1, 4), (0, 2, 9), (1, 2, 1), (2, 1, 0)]
theorem fine4 : Fine 4 Z4 := ⟨by unfold Z4 RiseA lessA; simp, by unfold Z4; simp, by decide, by decide⟩

theorem arcs4 {W : World} {b : Nat} (h : W.heap[b]? = some (.cells #[.int .i64 0, .int .i64 1, .int .i64 4, .int .i64 0, .int .i64 2, .int .i64 9, .int .i64 1, .int .i64 2, .int .i64 1, .int .i64 2, .int .i64 1, .int .i64 0] 82)) : HasArcs W (.slice (some ⟨b, 0, none⟩) 4 4) Z4 := by
  refine ⟨_, 4, rfl, fun j a hj => ⟨b, 0, rfl, lt_of_get h, ?_⟩⟩
  unfold Z4 at hj
  rcases j with _ | _ | _ | _ | j
  · cases hj; simp [World.cell?, h]
  · cases hj; simp [World.cell?, h]
  · cases hj; simp [World.cell?, h]
  · cases hj; simp [World.cell?, h]
  · simp at hj

set_option maxRecDepth 100000 in
set_option maxHeartbeats 4000000 in
theorem four_calls (w : World) : Calls Tryd.prog 22 #[] w fun e w' => ∃ fo fc uo tc wo wc, e = .returned (.agg #[.slice fo 5 fc, .slice uo 4 tc, .slice wo 4 wc]) ∧ CsrIn w' 4 Z4 fo uo wo fc tc wc ∧ Below w.heap.size w w' := by
  obtain ⟨W0, hW0⟩ : ∃ W0, (w.alloc (.cells #[.slice none 0 0, .slice none 0 0, .slice none 0 0] 24)).alloc (.cells #[.int .i64 0, .int .i64 1, .int .i64 4, .int .i64 0, .int .i64 2, .int .i64 9, .int .i64 1, .int .i64 2, .int .i64 1, .int .i64 2, .int .i64 1, .int .i64 0] 82) = W0 := ⟨_, rfl⟩
  have HW0 : Hid ((w.alloc (.cells #[.slice none 0 0, .slice none 0 0, .slice none 0 0] 24)).alloc (.cells #[.int .i64 0, .int .i64 1, .int .i64 4, .int .i64 0, .int .i64 2, .int .i64 9, .int .i64 1, .int .i64 2, .int .i64 1, .int .i64 2, .int .i64 1, .int .i64 0] 82) = W0) := hW0
  have hB0 : Below w.heap.size w W0 := by rw [← hW0]; exact ((Below.refl _ w).alloc (Nat.le_refl _) _).alloc (by simp) _
  have k1 : W0.heap[w.heap.size]? = some (.cells #[.slice none 0 0, .slice none 0 0, .slice none 0 0] 24) := by rw [← hW0, Below.heap_alloc _ _ _ (by simp)]; exact heap_new _ _
  have k2 : W0.heap[w.heap.size + 1]? = some (.cells #[.int .i64 0, .int .i64 1, .int .i64 4, .int .i64 0, .int .i64 2, .int .i64 9, .int .i64 1, .int .i64 2, .int .i64 1, .int .i64 2, .int .i64 1, .int .i64 0] 82) := by
    have h := heap_new (w.alloc (.cells #[.slice none 0 0, .slice none 0 0, .slice none 0 0] 24)) (.cells #[.int .i64 0, .int .i64 1, .int .i64 4, .int .i64 0, .int .i64 2, .int .i64 9, .int .i64 1, .int .i64 2, .int .i64 1, .int .i64 2, .int .i64 1, .int .i64 0] 82)
    rw [hW0] at h
    simpa using h
  have HRB : Hid (type_of% (rBuild_calls 4 Z4 (some ⟨w.heap.size + 1, 0, none⟩) 4 W0 (arcs4 k2) fine4)) := rBuild_calls 4 Z4 (some ⟨w.heap.size + 1, 0, none⟩) 4 W0 (arcs4 k2) fine4
  have HB : Hid (Below w.heap.size w W0 ∧ w.heap.size < W0.heap.size) := ⟨hB0, lt_of_get k1⟩
  have HR : Hid (∀ wx, Below W0.heap.size W0 wx → wx.heap[w.heap.size]? = some (.cells #[.slice none 0 0, .slice none 0 0, .slice none 0 0] 24)) := fun wx hx => (hx.block _ (lt_of_get k1)).trans k1
  clear hW0 hB0 k1 k2
  go_enter Tryd.func22, Tryd.ntmps22
  go_wp2_with fail
  rw [HW0.out]
  refine HRB.out.mono ?_
  rintro e w1 ⟨fo, fc, uo, tc, wo, wc, rfl, o1, o2, o3, hb⟩
  have H1 : Hid (type_of% (And.intro o1 (And.intro o2 (And.intro o3 hb)))) := ⟨o1, o2, o3, hb⟩
  obtain ⟨r0, r1, r2⟩ := box3 (HR.out w1 hb)
  have rs := lt_of_get (HR.out w1 hb)
  have z0 : w1.frozen? ⟨w.heap.size, 0, none⟩ = false := by simp [World.frozen?, HR.out w1 hb]
  have z1 : w1.frozen? ⟨w.heap.size, 1, none⟩ = false := by simp [World.frozen?, HR.out w1 hb]
  have z2 : w1.frozen? ⟨w.heap.size, 2, none⟩ = false := by simp [World.frozen?, HR.out w1 hb]
  clear o1 o2 o3 hb
  rw [show Z4.length = 4 from rfl]
  go_wp2
  refine bodyPost_ret (v := .agg #[.slice fo 5 fc, .slice uo 4 tc, .slice wo 4 wc]) (by simp [results, Tryd.results22, go_sem, r0, r1, r2]) rfl ?_
  obtain ⟨o1, o2, o3, hb⟩ := H1.out
  have hfar : ∀ g, W0.heap.size ≤ g → (((w1.setCell ⟨w.heap.size, 0, none⟩ (.slice fo 5 fc)).setCell ⟨w.heap.size, 1, none⟩ (.slice uo 4 tc)).setCell ⟨w.heap.size, 2, none⟩ (.slice wo 4 wc)).heap[g]? = w1.heap[g]? := fun g hg => by
    have hne : g ≠ w.heap.size := by have := HB.out.2; omega
    exact ((heap_setCell_other _ _ _ _ hne).trans (heap_setCell_other _ _ _ _ hne)).trans (heap_setCell_other _ _ _ _ hne)
  refine ⟨fo, fc, uo, tc, wo, wc, rfl, ⟨ints_of_iown (iown_keep o1 fun k hk => hfar k (o1.lt k hk).1), ints_of_iown (iown_keep o2 fun k hk => hfar k (o2.lt k hk).1), ints_of_iown (iown_keep o3 fun k hk => hfar k (o3.lt k hk).1)⟩, ?_⟩
  exact (((HB.out.1.trans (hb.mono HB.out.1.size)).setCell (p := ⟨w.heap.size, 0, none⟩) (by simp) _).setCell (p := ⟨w.heap.size, 1, none⟩) (by simp) _).setCell (p := ⟨w.heap.size, 2, none⟩) (by simp) _
end Go.Proofs.YtdfjmfgbdnpkbaaDoor

namespace Go.Proofs.YtdfjmfgbdnpkbaaDoor
open Go.RowKit Go.Extern

attribute [local go_sem] Oper.semAt_some

theorem own_some {w : World} {B n : Nat} {v : Value} {xs : List Value} (h : w.ownsRow B 3 1 v n xs) (h0 : 0 < n) : ∃ g cap, v = .slice (some ⟨g, 0, none⟩) n cap ∧ n ≤ cap := by
  rcases h.2 with ⟨_, e⟩ | ⟨g, cap, cur, e, _, _, hle, _⟩
  · omega
  · exact ⟨g, cap, e, hle⟩
theorem of4_calls (fo uo wo : Option Addr) (fc tc wc : Nat) (w : World) (h : CsrIn w 4 Z4 fo uo wo fc tc wc) :
    Calls Tryd.prog 9 #[.agg #[.slice fo 5 fc, .slice uo 4 tc, .slice wo 4 wc]] w fun e w' => ∃ fo fc tb tc wo wc, e = .returned (.agg #[.slice fo 5 fc, .slice (some ⟨tb, 0, none⟩) 4 tc, .slice wo 4 wc]) ∧ CsrIn w' 4 Z4 fo (some ⟨tb, 0, none⟩) wo fc tc wc ∧ 4 ≤ tc ∧ Below w.heap.size w w' := by
  refine (of9_calls fo uo wo fc tc wc (firsts 4 Z4) (tos Z4) (weights Z4) w h.f h.t h.w (by decide) (by decide) (by decide)).mono ?_
  rintro e w' ⟨fo', fc', uo', tc', wo', wc', he, ⟨o1, o2, o3⟩, hb⟩
  obtain ⟨g, cap, e2, hc⟩ := own_some o2 (by decide)
  injection e2 with e3 e4 e5
  subst e3
  subst e5
  exact ⟨fo', fc', g, _, wo', wc', he, ⟨ints_of_iown o1, ints_of_iown o2, ints_of_iown o3⟩, hc, hb⟩
theorem ints_new {W : World} {b cap : Nat} {cur : Array Value} {T : TypeId} {l : List Int} (h : W.heap[b]? = some (.cells cur T)) (hc : cur = (iv l).toArray) : HasInts W (.slice (some ⟨b, 0, none⟩) l.length cap) l := by
  refine ⟨_, _, rfl, fun j a hj => ⟨b, 0, rfl, lt_of_get h, ?_⟩⟩
  subst hc
  simp [World.cell?, h, iv, hj]

set_option maxRecDepth 100000 in
set_option maxHeartbeats 4000000 in
theorem awake9_calls (w : World) : Calls Tryd.prog 6 #[] w fun e w' => e = .returned (.bool true) ∧ Below w.heap.size w w' := by
  go_enter Tryd.func6, Tryd.ntmps6
  go_wp2_with fail
  refine (four_calls w).mono ?_
  rintro e w1 ⟨fo, fc, uo, tc, wo, wc, rfl, hI, hb⟩
  have H1 : Hid (CsrIn w1 4 Z4 fo uo wo fc tc wc ∧ Below w.heap.size w w1) := ⟨hI, hb⟩
  clear hI hb
  go_wp2_with fail
  refine (of4_calls fo uo wo fc tc wc w1 H1.out.1).mono ?_
  rintro e w2 ⟨fo2, fc2, tb, tc2, wo2, wc2, rfl, hI, htc, hb⟩
  have H2 : Hid (CsrIn w2 4 Z4 fo2 (some ⟨tb, 0, none⟩) wo2 fc2 tc2 wc2 ∧ 4 ≤ tc2 ∧ Below w.heap.size w w2) := ⟨hI, htc, btr H1.out.2 hb⟩
  clear hI hb htc H1
  go_wp2_with fail
  have hal : Below w2.heap.size w2 (w2.alloc (.cells #[.int .i64 0, .int .i64 2, .int .i64 1, .int .i64 2] 3)) := (Below.refl _ _).alloc (Nat.le_refl _) _
  have hne : (w2.alloc (.cells #[.int .i64 0, .int .i64 2, .int .i64 1, .int .i64 2] 3)).heap[w2.heap.size]? = some (.cells #[.int .i64 0, .int .i64 2, .int .i64 1, .int .i64 2] 3) := heap_new _ _
  have HL : Hid (Calls Tryd.prog 8 #[.agg #[.slice fo2 5 fc2, .slice (some ⟨tb, 0, none⟩) 4 tc2, .slice wo2 4 wc2], .slice (some ⟨w2.heap.size, 0, none⟩) 4 4] (w2.alloc (.cells #[.int .i64 0, .int .i64 2, .int .i64 1, .int .i64 2] 3)) fun e w' => e = .returned (.tuple #[.int .u64 10, .nilIface]) ∧ Below w.heap.size w w') := by
    refine (length_walk 4 Z4 fo2 wo2 tb 0 fc2 tc2 wc2 _ fine4 (H2.out.1.keep hal) H2.out.2.1 w2.heap.size 0 4 0 [2, 1, 2] [9, 0, 1] (ints_new (l := [0, 2, 1, 2]) hne rfl) (by decide) (by decide) (by decide) (by decide) ⟨rfl, fun i r hr => ?_⟩).mono fun e w' ⟨he, hb⟩ => ⟨he, btr (btr H2.out.2.2 hal) hb⟩
    rcases i with _ | _ | _ | i
    · cases hr; exact ⟨0, 2, rfl, rfl, by decide⟩
    · cases hr; exact ⟨2, 1, rfl, rfl, by decide⟩
    · cases hr; exact ⟨1, 2, rfl, rfl, by decide⟩
    · simp at hr
  clear hal hne
  refine HL.out.mono ?_
  rintro e w3 ⟨rfl, hb⟩
  have H3 : Hid (Below w.heap.size w w3) := hb
  clear hb HL H2
  go_wp2_with fail
  have hne : (w3.alloc (.cells #[.int .i64 0, .int .i64 2, .int .i64 1, .int .i64 2, .int .i64 5] 3)).heap[w3.heap.size]? = some (.cells #[.int .i64 0, .int .i64 2, .int .i64 1, .int .i64 2, .int .i64 5] 3) := heap_new _ _
  have hal : Below w3.heap.size w3 (w3.alloc (.cells #[.int .i64 0, .int .i64 2, .int .i64 1, .int .i64 2, .int .i64 5] 3)) := (Below.refl _ _).alloc (Nat.le_refl _) _
  have HSI : Hid (Calls Tryd.prog 18 #[.slice (some ⟨w3.heap.size, 0, none⟩) 5 5] (w3.alloc (.cells #[.int .i64 0, .int .i64 2, .int .i64 1, .int .i64 2, .int .i64 5] 3)) fun e w' => ∃ so sc, e = .returned (.slice so 3 sc) ∧ HasInts w' (.slice so 3 sc) [0, 2, 5] ∧ Below w.heap.size w w') := by
    refine (simple_calls (some ⟨w3.heap.size, 0, none⟩) 5 [0, 2, 1, 2, 5] _ (ints_new hne rfl) (by decide) (by decide)).mono ?_
    rintro e w' ⟨so, sc, he, ho, hb⟩
    exact ⟨so, sc, he, ints_of_iown ho, btr (btr H3.out hal) hb⟩
  clear hne hal
  refine HSI.out.mono ?_
  rintro e w4 ⟨so, sc, rfl, hI, hb⟩
  have H4 : Hid (HasInts w4 (.slice so 3 sc) [0, 2, 5] ∧ Below w.heap.size w w4) := ⟨hI, hb⟩
  clear hb hI HSI H3
  go_wp2_with fail
  have hne : (w4.alloc (.cells #[.int .i64 0, .int .i64 2, .int .i64 5] 3)).heap[w4.heap.size]? = some (.cells #[.int .i64 0, .int .i64 2, .int .i64 5] 3) := heap_new _ _
  have hal : Below w4.heap.size w4 (w4.alloc (.cells #[.int .i64 0, .int .i64 2, .int .i64 5] 3)) := (Below.refl _ _).alloc (Nat.le_refl _) _
  have HSS : Hid (Calls Tryd.prog 17 #[.slice so 3 sc, .slice (some ⟨w4.heap.size, 0, none⟩) 3 3] (w4.alloc (.cells #[.int .i64 0, .int .i64 2, .int .i64 5] 3)) fun e w' => e = .returned (.bool true) ∧ Below w.heap.size w w') :=
    (sameInts_yes _ _ [0, 2, 5] _ (H4.out.1.keep hal) (ints_new hne rfl) (by decide)).mono fun e w' ⟨he, hb⟩ => ⟨he, btr (btr H4.out.2 hal) hb⟩
  clear hne hal
  refine HSS.out.mono ?_
  rintro e w5 ⟨rfl, hb⟩
  have H5 : Hid (Below w.heap.size w w5) := hb
  clear hb HSS H4
  go_wp2
  go_ret
  exact ⟨rfl, H5.out⟩
end Go.Proofs.YtdfjmfgbdnpkbaaDoor
