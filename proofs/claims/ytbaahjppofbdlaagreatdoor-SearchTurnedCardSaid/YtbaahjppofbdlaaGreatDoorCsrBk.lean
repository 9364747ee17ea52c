/- csr.Build of a graph that is not right; csr.Back. -/
import Derived.Test.YtbaahjppofbdlaaGreatDoorCsrBuW
namespace Go.Proofs.YtbaahjppofbdlaaGreatDoor
open Go.RowKit Go.Extern

attribute [local go_sem] Oper.semAt_some

theorem keeps_box {W W' : World} {b : Nat} {c : Array Value} {t : TypeId} (h : W.heap[b]? = some (.cells c t)) (ht : t ≠ 89) (hk : ∀ g, g ≠ b → W'.heap[g]? = W.heap[g]?) : Keeps W W' := fun d x hd => by
  have hne : d ≠ b := fun e => by rw [e, h] at hd; cases hd; exact ht rfl
  rw [hk d hne]
  exact hd

set_option maxRecDepth 100000 in
set_option maxHeartbeats 4000000 in
theorem build_bad (N : Int) (ao : Option Addr) (k0 cap : Nat) (xs : List (Int × Int × Int)) (w : World) (hl : HasArcs w (.slice ao k0 cap) xs) (hm : xs.length ≤ maxLen) (hg : graphErr N xs ≠ (0, [])) :
    Calls Tryz.prog 7 #[.agg #[.int .i64 N, .slice ao k0 cap]] w fun e w' => ∃ T x, e = .returned (.tuple #[.agg #[.slice none 0 0, .slice none 0 0, .slice none 0 0], .iface T x]) ∧ IsTold w' (graphErr N xs) (.iface T x) ∧ Below w.heap.size w w' := by
  obtain rfl := arcs_len hl
  obtain ⟨W0, hW0⟩ : ∃ W0, (w.alloc (.cells #[.int .i64 N, .slice ao xs.length cap] 24)).alloc (.cells #[.slice none 0 0, .slice none 0 0, .slice none 0 0] 29) = W0 := ⟨_, rfl⟩
  have HW0 : Hid ((w.alloc (.cells #[.int .i64 N, .slice ao xs.length cap] 24)).alloc (.cells #[.slice none 0 0, .slice none 0 0, .slice none 0 0] 29) = W0) := hW0
  have hB0 : Below w.heap.size w W0 := by rw [← hW0]; exact ((Below.refl _ w).alloc (Nat.le_refl _) _).alloc (by simp) _
  have k1 : W0.heap[w.heap.size]? = some (.cells #[.int .i64 N, .slice ao xs.length cap] 24) := by rw [← hW0, Below.heap_alloc _ _ _ (by simp)]; exact heap_new _ _
  have k2 : W0.heap[w.heap.size + 1]? = some (.cells #[.slice none 0 0, .slice none 0 0, .slice none 0 0] 29) := by
    have h := heap_new (w.alloc (.cells #[.int .i64 N, .slice ao xs.length cap] 24)) (.cells #[.slice none 0 0, .slice none 0 0, .slice none 0 0] 29)
    rw [hW0] at h
    simpa using h
  have HOF : Hid (type_of% (of_all N ao cap xs W0 (hl.keep hB0) hm)) := of_all N ao cap xs W0 (hl.keep hB0) hm
  have HK : Hid (∀ wx, Below W0.heap.size W0 wx → wx.heap[w.heap.size]? = some (.cells #[.int .i64 N, .slice ao xs.length cap] 24) ∧ wx.heap[w.heap.size + 1]? = some (.cells #[.slice none 0 0, .slice none 0 0, .slice none 0 0] 29) ∧ Below w.heap.size w wx) := fun wx hx =>
    ⟨(hx.block _ (lt_of_get k1)).trans k1, (hx.block _ (lt_of_get k2)).trans k2, hB0.trans (hx.mono hB0.size)⟩
  have HGN : Hid (graphErr N xs ≠ (0, [])) := hg
  clear hl hW0 hB0 k1 k2 hg
  go_enter Tryz.func7, Tryz.ntmps7
  go_wp2_with fail
  rw [HW0.out]
  refine HOF.out.mono ?_
  rintro e w1 ⟨M, lo, m, lc, v, ys, rfl, _, _, ht1, _, hb1⟩
  obtain ⟨T, x, rfl⟩ := told_iface ht1 HGN.out
  have HT1 : Hid (IsTold w1 (graphErr N xs) (.iface T x)) := ht1
  have HB1 : Hid (Below W0.heap.size W0 w1) := hb1
  obtain ⟨g1, g2, _⟩ := HK.out w1 hb1
  obtain ⟨b0, b1, y0, y1⟩ : w1.cell? ⟨w.heap.size, 0, none⟩ = some (.int .i64 N) ∧ w1.cell? ⟨w.heap.size, 1, none⟩ = some (.slice ao xs.length cap) ∧ w1.frozen? ⟨w.heap.size, 0, none⟩ = false ∧ w1.frozen? ⟨w.heap.size, 1, none⟩ = false := by simp [World.cell?, World.frozen?, g1]
  obtain ⟨r0, r1, r2, z0, z1, z2⟩ : w1.cell? ⟨w.heap.size + 1, 0, none⟩ = some (.slice none 0 0) ∧ w1.cell? ⟨w.heap.size + 1, 1, none⟩ = some (.slice none 0 0) ∧ w1.cell? ⟨w.heap.size + 1, 2, none⟩ = some (.slice none 0 0) ∧ w1.frozen? ⟨w.heap.size + 1, 0, none⟩ = false ∧ w1.frozen? ⟨w.heap.size + 1, 1, none⟩ = false ∧ w1.frozen? ⟨w.heap.size + 1, 2, none⟩ = false := by simp [World.cell?, World.frozen?, g2]
  have hs1 : w.heap.size < w1.heap.size := lt_of_get g1
  have hs2 : w.heap.size + 1 < w1.heap.size := lt_of_get g2
  clear ht1 hb1 g1 g2
  go_wp2
  have HB2 := (HK.out w1 HB1.out).2.2
  obtain ⟨g1, g2, _⟩ := HK.out w1 HB1.out
  refine bodyPost_ret (v := .tuple #[.agg #[.slice none 0 0, .slice none 0 0, .slice none 0 0], .iface T x]) (by simp [results, Tryz.results7, go_sem, r0, r1, r2]) rfl ⟨T, x, rfl, ?_, ?_⟩
  · have h1 := HT1.out.keep (keeps_box (W' := (w1.setCell ⟨w.heap.size, 0, none⟩ (.int .i64 M)).setCell ⟨w.heap.size, 1, none⟩ (.slice lo m lc)) g1 (by decide) (fun g hg => (heap_setCell_other _ _ _ _ hg).trans (heap_setCell_other _ _ _ _ hg)))
    refine h1.keep (keeps_box (b := w.heap.size + 1) ((heap_setCell_other _ _ _ _ (by simp)).trans ((heap_setCell_other _ _ _ _ (by simp)).trans g2)) (by decide) (fun g hg => (heap_setCell_other _ _ _ _ hg).trans ((heap_setCell_other _ _ _ _ hg).trans (heap_setCell_other _ _ _ _ hg))))
  · exact ((((HB2.setCell (p := ⟨w.heap.size, 0, none⟩) (Nat.le_refl _) _).setCell (p := ⟨w.heap.size, 1, none⟩) (Nat.le_refl _) _).setCell (p := ⟨w.heap.size + 1, 0, none⟩) (by simp) _).setCell (p := ⟨w.heap.size + 1, 1, none⟩) (by simp) _).setCell (p := ⟨w.heap.size + 1, 2, none⟩) (by simp) _

set_option maxRecDepth 100000 in
set_option maxHeartbeats 4000000 in
theorem back_good (n : Nat) (ao : Option Addr) (k0 cap : Nat) (xs : List (Int × Int × Int)) (w : World) (hl : HasArcs w (.slice ao k0 cap) xs) (hg : graphErr (n : Int) xs = (0, [])) :
    Calls Tryz.prog 8 #[.agg #[.int .i64 n, .slice ao k0 cap]] w fun e w' => ∃ F T V, e = .returned (.tuple #[.agg #[.slice (some ⟨F, 0, none⟩) (n + 1) (n + 1), .slice (some ⟨T, 0, none⟩) (normA (xs.map turn)).length (normA (xs.map turn)).length, .slice (some ⟨V, 0, none⟩) (normA (xs.map turn)).length (normA (xs.map turn)).length], .nilIface]) ∧ (w.heap.size ≤ F ∧ w.heap.size ≤ T ∧ w.heap.size ≤ V ∧ F ≠ T ∧ F ≠ V ∧ T ≠ V) ∧ IntRow w' F (n + 1) (fun u => firstAt (normA (xs.map turn)) u) ∧ IntRow w' T (normA (xs.map turn)).length (fun i => (tos (normA (xs.map turn))).getD i 0) ∧ IntRow w' V (normA (xs.map turn)).length (fun i => (weights (normA (xs.map turn))).getD i 0) ∧ Below w.heap.size w w' := by
  obtain rfl := arcs_len hl
  obtain ⟨W0, hW0⟩ : ∃ W0, (w.alloc (.cells #[.int .i64 n, .slice ao xs.length cap] 24)).alloc (.cells #[.slice none 0 0, .slice none 0 0, .slice none 0 0] 29) = W0 := ⟨_, rfl⟩
  have HW0 : Hid ((w.alloc (.cells #[.int .i64 n, .slice ao xs.length cap] 24)).alloc (.cells #[.slice none 0 0, .slice none 0 0, .slice none 0 0] 29) = W0) := hW0
  have hB0 : Below w.heap.size w W0 := by rw [← hW0]; exact ((Below.refl _ w).alloc (Nat.le_refl _) _).alloc (by simp) _
  have k2 : W0.heap[w.heap.size + 1]? = some (.cells #[.slice none 0 0, .slice none 0 0, .slice none 0 0] 29) := by
    have h := heap_new (w.alloc (.cells #[.int .i64 n, .slice ao xs.length cap] 24)) (.cells #[.slice none 0 0, .slice none 0 0, .slice none 0 0] 29)
    rw [hW0] at h
    simpa using h
  have HRV : Hid (type_of% (rev_good (hl.keep hB0) hg)) := rev_good (hl.keep hB0) hg
  have HK : Hid (∀ wx, Below W0.heap.size W0 wx → wx.heap[w.heap.size + 1]? = some (.cells #[.slice none 0 0, .slice none 0 0, .slice none 0 0] 29) ∧ Below w.heap.size w wx) := fun wx hx =>
    ⟨(hx.block _ (lt_of_get k2)).trans k2, hB0.trans (hx.mono hB0.size)⟩
  have HBU : Hid (∀ (lo : Option Addr) (m lc : Nat) (wx : World), type_of% (build_good n lo m lc (xs.map turn) wx)) := fun lo m lc wx => build_good n lo m lc (xs.map turn) wx
  have HGT : Hid (graphErr (n : Int) (xs.map turn) = (0, [])) := good_turn hg
  clear hl hW0 hB0 k2 hg
  generalize normA (xs.map turn) = zs at *
  go_enter Tryz.func8, Tryz.ntmps8
  go_wp2_with fail
  rw [HW0.out]
  refine HRV.out.mono ?_
  rintro e w1 ⟨lo, m, lc, rfl, hA1, hb1⟩
  have HB1 : Hid (Below W0.heap.size W0 w1) := hb1
  have HA1 : Hid (HasArcs w1 (.slice lo m lc) (xs.map turn)) := hA1
  clear hA1 hb1
  go_wp2_with fail
  have HAL : Hid (Below w1.heap.size w1 (w1.alloc (.cells #[.int .i64 n, .slice lo m lc] 24))) := (Below.refl _ w1).alloc (Nat.le_refl _) _
  refine (HBU.out lo m lc _ (HA1.out.keep HAL.out) HGT.out).mono ?_
  rintro e w2 ⟨F, T, V, rfl, hlow, hf, ht, hv, hb2⟩
  have HR : Hid ((w1.heap.size ≤ F ∧ w1.heap.size ≤ T ∧ w1.heap.size ≤ V ∧ F ≠ T ∧ F ≠ V ∧ T ≠ V) ∧ IntRow w2 F (n + 1) (fun u => firstAt zs u) ∧ IntRow w2 T zs.length (fun i => (tos zs).getD i 0) ∧ IntRow w2 V zs.length (fun i => (weights zs).getD i 0) ∧ Below W0.heap.size W0 w2) := by
    have h1 := HAL.out.size
    refine ⟨⟨by omega, by omega, by omega, hlow.2.2.2.1, hlow.2.2.2.2.1, hlow.2.2.2.2.2⟩, hf, ht, hv, ?_⟩
    have h2 := HB1.out.trans (HAL.out.mono HB1.out.size)
    exact h2.trans (hb2.mono h2.size)
  clear hlow hf ht hv hb2
  obtain ⟨g2, _⟩ := HK.out w2 HR.out.2.2.2.2
  have rl1 : w.heap.size + 1 < w1.heap.size := lt_of_get (HK.out w1 HB1.out).1
  obtain ⟨r0, r1, r2, z0, z1, z2⟩ : w2.cell? ⟨w.heap.size + 1, 0, none⟩ = some (.slice none 0 0) ∧ w2.cell? ⟨w.heap.size + 1, 1, none⟩ = some (.slice none 0 0) ∧ w2.cell? ⟨w.heap.size + 1, 2, none⟩ = some (.slice none 0 0) ∧ w2.frozen? ⟨w.heap.size + 1, 0, none⟩ = false ∧ w2.frozen? ⟨w.heap.size + 1, 1, none⟩ = false ∧ w2.frozen? ⟨w.heap.size + 1, 2, none⟩ = false := by simp [World.cell?, World.frozen?, g2]
  have hs2 : w.heap.size + 1 < w2.heap.size := lt_of_get g2
  clear g2
  go_wp2
  obtain ⟨hlow, hf, ht, hv, hb⟩ := HR.out
  have hbw := (HK.out w2 hb).2
  refine bodyPost_ret (v := .tuple #[.agg #[.slice (some ⟨F, 0, none⟩) (n + 1) (n + 1), .slice (some ⟨T, 0, none⟩) zs.length zs.length, .slice (some ⟨V, 0, none⟩) zs.length zs.length], .nilIface]) (by simp [results, Tryz.results8, go_sem, r0, r1, r2]) rfl ⟨F, T, V, rfl, ⟨by omega, by omega, by omega, hlow.2.2.2.1, hlow.2.2.2.2.1, hlow.2.2.2.2.2⟩, ?_, ?_, ?_, ?_⟩
  · exact ((hf.other (show F ≠ w.heap.size + 1 by omega) 0 _).other (show F ≠ w.heap.size + 1 by omega) 1 _).other (show F ≠ w.heap.size + 1 by omega) 2 _
  · exact ((ht.other (show T ≠ w.heap.size + 1 by omega) 0 _).other (show T ≠ w.heap.size + 1 by omega) 1 _).other (show T ≠ w.heap.size + 1 by omega) 2 _
  · exact ((hv.other (show V ≠ w.heap.size + 1 by omega) 0 _).other (show V ≠ w.heap.size + 1 by omega) 1 _).other (show V ≠ w.heap.size + 1 by omega) 2 _
  · exact ((hbw.setCell (p := ⟨w.heap.size + 1, 0, none⟩) (by simp) _).setCell (p := ⟨w.heap.size + 1, 1, none⟩) (by simp) _).setCell (p := ⟨w.heap.size + 1, 2, none⟩) (by simp) _

set_option maxRecDepth 100000 in
set_option maxHeartbeats 4000000 in
theorem back_bad (N : Int) (ao : Option Addr) (k0 cap : Nat) (xs : List (Int × Int × Int)) (w : World) (hl : HasArcs w (.slice ao k0 cap) xs) (hm : xs.length ≤ maxLen) (hg : graphErr N xs ≠ (0, [])) :
    Calls Tryz.prog 8 #[.agg #[.int .i64 N, .slice ao k0 cap]] w fun e w' => ∃ T x, e = .returned (.tuple #[.agg #[.slice none 0 0, .slice none 0 0, .slice none 0 0], .iface T x]) ∧ IsTold w' (graphErr N xs) (.iface T x) ∧ Below w.heap.size w w' := by
  obtain rfl := arcs_len hl
  obtain ⟨W0, hW0⟩ : ∃ W0, (w.alloc (.cells #[.int .i64 N, .slice ao xs.length cap] 24)).alloc (.cells #[.slice none 0 0, .slice none 0 0, .slice none 0 0] 29) = W0 := ⟨_, rfl⟩
  have HW0 : Hid ((w.alloc (.cells #[.int .i64 N, .slice ao xs.length cap] 24)).alloc (.cells #[.slice none 0 0, .slice none 0 0, .slice none 0 0] 29) = W0) := hW0
  have hB0 : Below w.heap.size w W0 := by rw [← hW0]; exact ((Below.refl _ w).alloc (Nat.le_refl _) _).alloc (by simp) _
  have k2 : W0.heap[w.heap.size + 1]? = some (.cells #[.slice none 0 0, .slice none 0 0, .slice none 0 0] 29) := by
    have h := heap_new (w.alloc (.cells #[.int .i64 N, .slice ao xs.length cap] 24)) (.cells #[.slice none 0 0, .slice none 0 0, .slice none 0 0] 29)
    rw [hW0] at h
    simpa using h
  have HRV : Hid (type_of% (reverse_calls N ao cap xs W0 (hl.keep hB0) hm)) := reverse_calls N ao cap xs W0 (hl.keep hB0) hm
  have HK : Hid (∀ wx, Below W0.heap.size W0 wx → wx.heap[w.heap.size + 1]? = some (.cells #[.slice none 0 0, .slice none 0 0, .slice none 0 0] 29) ∧ Below w.heap.size w wx) := fun wx hx =>
    ⟨(hx.block _ (lt_of_get k2)).trans k2, hB0.trans (hx.mono hB0.size)⟩
  have HGN : Hid (graphErr N xs ≠ (0, [])) := hg
  clear hl hW0 hB0 k2 hg
  go_enter Tryz.func8, Tryz.ntmps8
  go_wp2_with fail
  rw [HW0.out]
  refine HRV.out.mono ?_
  rintro e w1 ⟨M, lo, m, lc, v, ys, rfl, _, _, ht1, _, hb1⟩
  obtain ⟨T, x, rfl⟩ := told_iface ht1 HGN.out
  have HT1 : Hid (IsTold w1 (graphErr N xs) (.iface T x)) := ht1
  have HB1 : Hid (Below W0.heap.size W0 w1) := hb1
  obtain ⟨g2, _⟩ := HK.out w1 hb1
  obtain ⟨r0, r1, r2, z0, z1, z2⟩ : w1.cell? ⟨w.heap.size + 1, 0, none⟩ = some (.slice none 0 0) ∧ w1.cell? ⟨w.heap.size + 1, 1, none⟩ = some (.slice none 0 0) ∧ w1.cell? ⟨w.heap.size + 1, 2, none⟩ = some (.slice none 0 0) ∧ w1.frozen? ⟨w.heap.size + 1, 0, none⟩ = false ∧ w1.frozen? ⟨w.heap.size + 1, 1, none⟩ = false ∧ w1.frozen? ⟨w.heap.size + 1, 2, none⟩ = false := by simp [World.cell?, World.frozen?, g2]
  have hs2 : w.heap.size + 1 < w1.heap.size := lt_of_get g2
  clear ht1 hb1 g2
  go_wp2
  obtain ⟨g2, hbw⟩ := HK.out w1 HB1.out
  have hbs := ((hbw.setCell (p := ⟨w.heap.size + 1, 0, none⟩) (by simp) (.slice none 0 0)).setCell (p := ⟨w.heap.size + 1, 1, none⟩) (by simp) (.slice none 0 0)).setCell (p := ⟨w.heap.size + 1, 2, none⟩) (by simp) (.slice none 0 0)
  have hk := HT1.out.keep (keeps_box (W' := ((w1.setCell ⟨w.heap.size + 1, 0, none⟩ (.slice none 0 0)).setCell ⟨w.heap.size + 1, 1, none⟩ (.slice none 0 0)).setCell ⟨w.heap.size + 1, 2, none⟩ (.slice none 0 0)) g2 (by decide) (fun g hg => (heap_setCell_other _ _ _ _ hg).trans ((heap_setCell_other _ _ _ _ hg).trans (heap_setCell_other _ _ _ _ hg))))
  exact bodyPost_ret (v := .tuple #[.agg #[.slice none 0 0, .slice none 0 0, .slice none 0 0], .iface T x]) (by simp [results, Tryz.results8, go_sem, r0, r1, r2, hs2]) rfl ⟨T, x, rfl, hk.keep (Below.keeps ((Below.refl _ _).alloc (Nat.le_refl _) _)), hbs.alloc hbs.size _⟩
end Go.Proofs.YtbaahjppofbdlaaGreatDoor
