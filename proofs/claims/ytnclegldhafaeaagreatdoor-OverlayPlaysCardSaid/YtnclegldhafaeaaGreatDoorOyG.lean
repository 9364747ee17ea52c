/- viaductref11.DocNew at a right graph. -/
import Derived.Test.YtnclegldhafaeaaGreatDoorOyX
import Derived.Test.YtnclegldhafaeaaGreatDoorDoX
import Derived.Deep.RegionHeld3
namespace Go.Proofs.YtnclegldhafaeaaGreatDoor
open Go.RowKit Go.Extern Go.Sort

attribute [local go_sem] Oper.semAt_some

set_option maxRecDepth 100000 in
set_option maxHeartbeats 4000000 in
theorem rDocNew11_full (n : Nat) (ao : Option Addr) (cap : Nat) (xs : List (Int × Int × Int)) (w : World) (hl : HasArcs w (.slice ao xs.length cap) xs) (hg : graphErr (n : Int) xs = (0, [])) :
    Calls Tryz.prog 9 #[.agg #[.int .i64 (n : Int), .slice ao xs.length cap]] w fun e w' => ∃ bb so sc po pc, e = .returned (.tuple #[.agg #[.slice (some ⟨bb, 0, none⟩) n n, .slice so (normA xs).length sc], .agg #[.int .i64 0, .slice po 0 pc]]) ∧ w'.ownsRow w.heap.size 91 4 (.slice so (normA xs).length sc) (normA xs).length (flatA4 ((normA xs).map asA4)) ∧ w'.heap[bb]? = some (.cells (bC (List.replicate n true)) 4 (0, 0)) ∧ w.heap.size ≤ bb ∧ Below w.heap.size w w' := by
  obtain ⟨W0, hW0⟩ : ∃ W0, ((w.alloc (.cells #[.int .i64 (n : Int), .slice ao xs.length cap] 24)).alloc (.cells #[.slice none 0 0, .slice none 0 0] 40)).alloc (.cells #[.int .i64 0, .slice none 0 0] 34) = W0 := ⟨_, rfl⟩
  have hB0 : Below w.heap.size w W0 := by rw [← hW0]; exact (((Below.refl _ w).alloc (Nat.le_refl _) _).alloc (by simp) _).alloc (by simp; omega) _
  have k0 : W0.heap[w.heap.size]? = some (.cells #[.int .i64 (n : Int), .slice ao xs.length cap] 24) := by rw [← hW0, Below.heap_alloc _ _ _ (by simp; omega), Below.heap_alloc _ _ _ (by simp)]; exact heap_new _ _
  have k1 : W0.heap[w.heap.size + 1]? = some (.cells #[.slice none 0 0, .slice none 0 0] 40) := by
    rw [← hW0, Below.heap_alloc _ _ _ (by simp)]
    have h := heap_new (w.alloc (.cells #[.int .i64 (n : Int), .slice ao xs.length cap] 24)) (.cells #[.slice none 0 0, .slice none 0 0] 40)
    simpa using h
  have k2 : W0.heap[w.heap.size + 1 + 1]? = some (.cells #[.int .i64 0, .slice none 0 0] 34) := by
    have h := heap_new ((w.alloc (.cells #[.int .i64 (n : Int), .slice ao xs.length cap] 24)).alloc (.cells #[.slice none 0 0, .slice none 0 0] 40)) (.cells #[.int .i64 0, .slice none 0 0] 34)
    rw [hW0] at h
    simpa using h
  have HW0 : Hid (((w.alloc (.cells #[.int .i64 (n : Int), .slice ao xs.length cap] 24)).alloc (.cells #[.slice none 0 0, .slice none 0 0] 40)).alloc (.cells #[.int .i64 0, .slice none 0 0] 34) = W0) := hW0
  obtain ⟨c0, c1, _, _⟩ := cell_two k0
  have cs := lt_of_get k0
  have hgn := (good_iff _ _).1 (good_norm hg)
  have hx26 : xs.length ≤ 262144 := by have := ((good_iff _ _).1 hg).1; omega
  have HWT : Hid (∀ a ∈ normA xs, 0 ≤ a.2.2 ∧ a.2.2 ≤ 9223372036854775807) := fun a ha => by
    have h3 := hgn.2 a ha
    unfold arcBad at h3
    split at h3
    · cases h3
    · split at h3
      · cases h3
      · constructor <;> omega
  have HNN : Hid (n ≤ 65536 ∧ (normA xs).length ≤ 262144) := ⟨by have := hgn.1; omega, by have := hgn.1; omega⟩
  have HDO : Hid (Calls Tryz.prog 27 #[.agg #[.int .i64 (n : Int), .slice ao xs.length cap]] W0 fun e w' => ∃ lo lc po pc, e = .returned (.tuple #[.agg #[.int .i64 (n : Int), .slice lo (normA xs).length lc], .agg #[.int .i64 0, .slice po 0 pc]]) ∧ HasArcs w' (.slice lo (normA xs).length lc) (normA xs) ∧ Below W0.heap.size W0 w') := by
    refine (docOf_calls (n : Int) ao cap xs W0 (hl.keep hB0) (by unfold maxLen; omega)).mono ?_
    rintro e w' ⟨M, lo, m, lc, ys, po, pc, rfl, h1, _, _, (⟨_, rfl, rfl⟩ | ⟨h, _, _⟩), h2⟩
    · obtain rfl : m = (normA xs).length := arcs_len h1
      rw [hg]
      exact ⟨lo, lc, po, pc, rfl, h1, h2⟩
    · exact absurd hg h
  have HK : Hid (∀ wx, Below W0.heap.size W0 wx → wx.heap[w.heap.size + 1]? = some (.cells #[.slice none 0 0, .slice none 0 0] 40 (0, 0)) ∧ wx.heap[w.heap.size + 1 + 1]? = some (.cells #[.int .i64 0, .slice none 0 0] 34 (0, 0)) ∧ Below w.heap.size w wx) := fun wx h => ⟨(h.block _ (lt_of_get k1)).trans k1, (h.block _ (lt_of_get k2)).trans k2, hB0.trans (h.mono hB0.size)⟩
  generalize normA xs = zs at *
  clear hW0 hB0 k0 k1 k2 hgn hl hg
  go_enter Tryz.func9, Tryz.ntmps9
  go_wp2_with fail
  rw [HW0.out]
  refine HDO.out.mono ?_
  rintro e w1 ⟨lo, lc, po, pc, rfl, hA1, hb1⟩
  have H1 : Hid (HasArcs w1 (.slice lo zs.length lc) zs ∧ Below W0.heap.size W0 w1) := ⟨hA1, hb1⟩
  clear hA1 hb1 c0 c1 cs
  go_upto_region 2 with fail
  obtain ⟨W2, hW2⟩ : ∃ W2, (w1.alloc (.cells #[.int .i64 (n : Int), .slice lo zs.length lc] 24)).alloc (.cells #[.int .i64 0, .slice po 0 pc] 34) = W2 := ⟨_, rfl⟩
  rw [hW2]
  have bW2 : Below w1.heap.size w1 W2 := by rw [← hW2]; exact ((Below.refl _ w1).alloc (Nat.le_refl _) _).alloc (by simp) _
  have q4 : W2.heap[w1.heap.size]? = some (.cells #[.int .i64 (n : Int), .slice lo zs.length lc] 24) := by rw [← hW2, Below.heap_alloc _ _ _ (by simp)]; exact heap_new _ _
  have q5 : W2.heap[w1.heap.size + 1]? = some (.cells #[.int .i64 0, .slice po 0 pc] 34) := by
    have h := heap_new (w1.alloc (.cells #[.int .i64 (n : Int), .slice lo zs.length lc] 24)) (.cells #[.int .i64 0, .slice po 0 pc] 34)
    rw [hW2] at h
    simpa using h
  have HC : Hid (∀ wx, Below W2.heap.size W2 wx → (wx.cell? ⟨w1.heap.size, 0, none⟩ = some (.int .i64 (n : Int)) ∧ wx.cell? ⟨w1.heap.size, 1, none⟩ = some (.slice lo zs.length lc) ∧ wx.cell? ⟨w1.heap.size + 1, 0, none⟩ = some (.int .i64 0) ∧ wx.cell? ⟨w1.heap.size + 1, 1, none⟩ = some (.slice po 0 pc)) ∧ w1.heap.size + 1 < wx.heap.size ∧ HasArcs wx (.slice lo zs.length lc) zs ∧ Below W0.heap.size W0 wx) := fun wx h => by
    have h4 := (h.block _ (lt_of_get q4)).trans q4
    have h5 := (h.block _ (lt_of_get q5)).trans q5
    exact ⟨⟨(cell_two h4).1, (cell_two h4).2.1, (cell_two h5).1, (cell_two h5).2.1⟩, lt_of_get h5, H1.out.1.keep (bW2.trans (h.mono bW2.size)), (H1.out.2.trans (bW2.mono H1.out.2.size)).trans (h.mono (Nat.le_trans H1.out.2.size bW2.size))⟩
  have HX : Hid (w.heap.size + 1 + 1 < w1.heap.size) := lt_of_get (HK.out w1 H1.out.2).2.1
  obtain ⟨⟨r0, r1, r2, r3⟩, rs, _, _⟩ := HC.out W2 (Below.refl _ _)
  have HBD := bad_calls 0 po 0 pc W2
  have HBD' : Hid (type_of% HBD) := HBD
  clear hW2 bW2 q4 q5 HBD
  go_wp2_with fail
  refine HBD'.out.mono ?_
  rintro e w3 ⟨rfl, hb3⟩
  have H3' : Hid (Below W2.heap.size W2 w3) := hb3
  have HNW : Hid (∀ wx, Below w3.heap.size w3 wx → Calls Tryz.prog 28 #[.agg #[.int .i64 (n : Int), .slice lo zs.length lc]] wx fun e w' => ∃ bb so sc, e = .returned (.agg #[.slice (some ⟨bb, 0, none⟩) n n, .slice so zs.length sc]) ∧ Below W2.heap.size W2 w' ∧ (w'.ownsRow W2.heap.size 91 4 (.slice so zs.length sc) zs.length (flatA4 (zs.map asA4)) ∧ W2.heap.size ≤ bb ∧ w'.heap[bb]? = some (.cells (bC (List.replicate n true)) 4 (0, 0)))) := fun wx hx => by
    have hb := btr H3'.out hx
    refine (rNew11_calls n HNN.out.1 lo lc zs wx (HC.out wx hb).2.2.1 HNN.out.2 HWT.out).mono ?_
    rintro e w' ⟨bb, so, sc, rfl, h1, h2, h3, h4⟩
    exact ⟨bb, so, sc, rfl, btr hb h4, row4_base h1 hb.size, Nat.le_trans hb.size h2, h3⟩
  clear hb3 r0 r1 r2 r3 rs
  obtain ⟨⟨r0, r1, r2, r3⟩, rs, _, _⟩ := HC.out w3 H3'.out
  have m1 : w.heap.size + 1 ≠ w1.heap.size := by have := HX.out; omega
  have m2 : w1.heap.size ≠ w.heap.size + 1 := by have := HX.out; omega
  have m3 : w.heap.size + 1 ≠ w1.heap.size + 1 := by have := HX.out; omega
  have m4 : w1.heap.size + 1 ≠ w.heap.size + 1 := by have := HX.out; omega
  have m5 : w.heap.size + 1 + 1 ≠ w1.heap.size := by have := HX.out; omega
  have m6 : w1.heap.size ≠ w.heap.size + 1 + 1 := by have := HX.out; omega
  have m7 : w.heap.size + 1 + 1 ≠ w1.heap.size + 1 := by have := HX.out; omega
  have m8 : w1.heap.size + 1 ≠ w.heap.size + 1 + 1 := by have := HX.out; omega
  have m9 : w.heap.size ≠ w1.heap.size := by have := HX.out; omega
  have m10 : w1.heap.size ≠ w.heap.size := by have := HX.out; omega
  go_wp2_with fail
  go_region_held3 (fun w' => w'.cell? ⟨w1.heap.size, 0, none⟩ = some (.int .i64 (n : Int)) ∧ w'.cell? ⟨w1.heap.size, 1, none⟩ = some (.slice lo zs.length lc) ∧ w'.cell? ⟨w1.heap.size + 1, 0, none⟩ = some (.int .i64 0) ∧ w'.cell? ⟨w1.heap.size + 1, 1, none⟩ = some (.slice po 0 pc)) (go_keep) (first
    | (go_at_call 28; refine (HNW.out _ (Below.refl _ _).drew).mono ?_; rintro e y1 ⟨bb, so, sc, rfl, hy, hrow⟩; have Y1 : Hid (Below W2.heap.size W2 y1 ∧ y1.ownsRow W2.heap.size 91 4 (.slice so zs.length sc) zs.length (flatA4 (zs.map asA4)) ∧ W2.heap.size ≤ bb ∧ y1.heap[bb]? = some (.cells (bC (List.replicate n true)) 4 (0, 0))) := ⟨hy, hrow⟩; obtain ⟨z1, zs1, _, zb⟩ := HC.out y1 hy; obtain ⟨u1, u2, _⟩ := HK.out y1 zb; obtain ⟨a0, a1, a2, a3⟩ := cell_two u1; obtain ⟨b0, b1, b2, b3⟩ := cell_two u2; have l1 := lt_of_get u1; have l2 := lt_of_get u2; clear hy hrow zb u1 u2))
  obtain ⟨u1, u2, ub⟩ := HK.out y1 (HC.out y1 Y1.out.1).2.2.2
  have hk : ∀ j, j ≠ w.heap.size + 1 → j ≠ w.heap.size + 1 + 1 → ((((y1.setCell ⟨w.heap.size + 1, 0, none⟩ (.slice (some ⟨bb, 0, none⟩) n n)).setCell ⟨w.heap.size + 1, 1, none⟩ (.slice so zs.length sc)).setCell ⟨w.heap.size + 1 + 1, 0, none⟩ (.int .i64 0)).setCell ⟨w.heap.size + 1 + 1, 1, none⟩ (.slice po 0 pc)).heap[j]? = y1.heap[j]? := fun j h1 h2 => (hso _ h2).trans ((hso _ h2).trans ((hso _ h1).trans (hso _ h1)))
  have hz1 : ((((y1.setCell ⟨w.heap.size + 1, 0, none⟩ (.slice (some ⟨bb, 0, none⟩) n n)).setCell ⟨w.heap.size + 1, 1, none⟩ (.slice so zs.length sc)).setCell ⟨w.heap.size + 1 + 1, 0, none⟩ (.int .i64 0)).setCell ⟨w.heap.size + 1 + 1, 1, none⟩ (.slice po 0 pc)).heap[w.heap.size + 1]? = some (.cells #[.slice (some ⟨bb, 0, none⟩) n n, .slice so zs.length sc] 40 (0, 0)) := by
    rw [hso _ (by omega), hso _ (by omega), hsc_same _ (hsc_same _ u1)]
    rfl
  have hz2 : ((((y1.setCell ⟨w.heap.size + 1, 0, none⟩ (.slice (some ⟨bb, 0, none⟩) n n)).setCell ⟨w.heap.size + 1, 1, none⟩ (.slice so zs.length sc)).setCell ⟨w.heap.size + 1 + 1, 0, none⟩ (.int .i64 0)).setCell ⟨w.heap.size + 1 + 1, 1, none⟩ (.slice po 0 pc)).heap[w.heap.size + 1 + 1]? = some (.cells #[.int .i64 0, .slice po 0 pc] 34 (0, 0)) := by
    rw [hsc_same _ (hsc_same _ ((hso _ (by omega)).trans ((hso _ (by omega)).trans u2)))]
    rfl
  have hbz : Below w.heap.size y1 ((((y1.setCell ⟨w.heap.size + 1, 0, none⟩ (.slice (some ⟨bb, 0, none⟩) n n)).setCell ⟨w.heap.size + 1, 1, none⟩ (.slice so zs.length sc)).setCell ⟨w.heap.size + 1 + 1, 0, none⟩ (.int .i64 0)).setCell ⟨w.heap.size + 1 + 1, 1, none⟩ (.slice po 0 pc)) := ((((Below.refl _ y1).setCell (p := ⟨w.heap.size + 1, 0, none⟩) (show w.heap.size ≤ w.heap.size + 1 by omega) _).setCell (p := ⟨w.heap.size + 1, 1, none⟩) (show w.heap.size ≤ w.heap.size + 1 by omega) _).setCell (p := ⟨w.heap.size + 1 + 1, 0, none⟩) (show w.heap.size ≤ w.heap.size + 1 + 1 by omega) _).setCell (p := ⟨w.heap.size + 1 + 1, 1, none⟩) (show w.heap.size ≤ w.heap.size + 1 + 1 by omega) _
  have HE : Hid (type_of% (And.intro hk (And.intro hz1 (And.intro hz2 (ub.trans hbz))))) := ⟨hk, hz1, hz2, ub.trans hbz⟩
  have HWS : Hid (w.heap.size + 1 + 1 < W2.heap.size) := by have h1 := HX.out; have h2 := (HC.out W2 (Below.refl _ _)).2.1; show _ < _; omega
  clear hk hz1 hz2 hbz u1 u2 ub
  go_wp2
  obtain ⟨hk, hz1, hz2, hbz⟩ := HE.out
  generalize ((((y1.setCell ⟨w.heap.size + 1, 0, none⟩ (.slice (some ⟨bb, 0, none⟩) n n)).setCell ⟨w.heap.size + 1, 1, none⟩ (.slice so zs.length sc)).setCell ⟨w.heap.size + 1 + 1, 0, none⟩ (.int .i64 0)).setCell ⟨w.heap.size + 1 + 1, 1, none⟩ (.slice po 0 pc)) = Wf at *
  obtain ⟨f0, f1, _, _⟩ := cell_two hz1
  obtain ⟨f2, f3, _, _⟩ := cell_two hz2
  refine bodyPost_ret (v := .tuple #[.agg #[.slice (some ⟨bb, 0, none⟩) n n, .slice so zs.length sc], .agg #[.int .i64 0, .slice po 0 pc]]) (by simp [results, Tryz.results9, go_sem, f0, f1, f2, f3]) rfl ?_
  obtain ⟨_, y2, y3, y4⟩ := Y1.out
  have hws := HWS.out
  exact ⟨bb, so, sc, po, pc, rfl, row4_base (row4_keep (w' := Wf) y2 (fun g h1 _ => hk g (by omega) (by omega))) (by omega), (hk bb (by omega) (by omega)).trans y4, by omega, hbz⟩
theorem rDocNew11_calls (n : Nat) (ao : Option Addr) (cap : Nat) (xs : List (Int × Int × Int)) (w : World) (hl : HasArcs w (.slice ao xs.length cap) xs) (hg : graphErr (n : Int) xs = (0, [])) :
    Calls Tryz.prog 9 #[.agg #[.int .i64 (n : Int), .slice ao xs.length cap]] w fun e w' => ∃ bb so sc po pc, e = .returned (.tuple #[.agg #[.slice (some ⟨bb, 0, none⟩) n n, .slice so (normA xs).length sc], .agg #[.int .i64 0, .slice po 0 pc]]) ∧ w'.ownsRow w.heap.size 91 4 (.slice so (normA xs).length sc) (normA xs).length (flatA4 ((normA xs).map asA4)) ∧ w'.heap[bb]? = some (.cells (bC (List.replicate n true)) 4 (0, 0)) ∧ Below w.heap.size w w' := by
  refine (rDocNew11_full n ao cap xs w hl hg).mono ?_
  rintro e w' ⟨bb, so, sc, po, pc, rfl, h1, h2, _, h3⟩
  exact ⟨bb, so, sc, po, pc, rfl, h1, h2, h3⟩
end Go.Proofs.YtnclegldhafaeaaGreatDoor
