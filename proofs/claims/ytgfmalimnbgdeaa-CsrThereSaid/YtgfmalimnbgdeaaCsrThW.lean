/- The law CsrThere, walked at right graphs: Build and Back, their graphs, and layer 4's. -/
import Derived.Test.YtgfmalimnbgdeaaCsrWake
import Derived.Test.YtgfmalimnbgdeaaCsrGr
namespace Go.Proofs.Ytgfmalimnbgdeaa
open Go.RowKit Go.Extern

attribute [local go_sem] Oper.semAt_some

/-- a graph in a box of its own, its arcs in memory. -/
structure Gr (wx : World) (b : Nat) (N : Int) (ao : Option Addr) (n cap : Nat) (xs : List (Int × Int × Int)) : Prop where
  box : wx.heap[b]? = some (.cells #[.int .i64 N, .slice ao n cap] 24)
  arcs : HasArcs wx (.slice ao n cap) xs
/-- arrays in a box of their own. -/
structure Cb (wx : World) (b n : Nat) (zs : List (Int × Int × Int)) (F T V : Nat) : Prop where
  box : wx.heap[b]? = some (.cells #[.slice (some ⟨F, 0, none⟩) (n + 1) (n + 1), .slice (some ⟨T, 0, none⟩) zs.length zs.length, .slice (some ⟨V, 0, none⟩) zs.length zs.length] 28)
  arr : CsrIn wx n zs (some ⟨F, 0, none⟩) (some ⟨T, 0, none⟩) (some ⟨V, 0, none⟩) (n + 1) zs.length zs.length
section
variable {w wx w' : World} {b k : Nat} {N : Int} {ao : Option Addr} {n cap F T V : Nat} {xs zs : List (Int × Int × Int)}
theorem Gr.keep (h : Gr wx b N ao n cap xs) (hb : Below wx.heap.size wx w') : Gr w' b N ao n cap xs := ⟨(hb.block _ (lt_of_get h.box)).trans h.box, h.arcs.keep hb⟩
theorem Gr.cells (h : Gr wx b N ao n cap xs) : wx.cell? ⟨b, 0, none⟩ = some (.int .i64 N) ∧ wx.cell? ⟨b, 1, none⟩ = some (.slice ao n cap) ∧ b < wx.heap.size := ⟨by simp [World.cell?, h.box], by simp [World.cell?, h.box], lt_of_get h.box⟩
theorem Cb.keep (h : Cb wx b n zs F T V) (hb : Below wx.heap.size wx w') : Cb w' b n zs F T V := ⟨(hb.block _ (lt_of_get h.box)).trans h.box, h.arr.keep hb⟩
theorem Cb.cells (h : Cb wx b n zs F T V) : wx.cell? ⟨b, 0, none⟩ = some (.slice (some ⟨F, 0, none⟩) (n + 1) (n + 1)) ∧ wx.cell? ⟨b, 1, none⟩ = some (.slice (some ⟨T, 0, none⟩) zs.length zs.length) ∧ wx.cell? ⟨b, 2, none⟩ = some (.slice (some ⟨V, 0, none⟩) zs.length zs.length) ∧ b < wx.heap.size := ⟨(box3 h.box).1, (box3 h.box).2.1, (box3 h.box).2.2, lt_of_get h.box⟩
theorem below_new (wx : World) (o : Obj) : Below wx.heap.size wx (wx.alloc o) := (Below.refl _ wx).alloc (Nat.le_refl _) _
theorem rows_csr (hf : IntRow w F (n + 1) (fun u => firstAt zs u)) (ht : IntRow w T zs.length (fun i => (tos zs).getD i 0)) (hv : IntRow w V zs.length (fun i => (weights zs).getD i 0)) : CsrIn w n zs (some ⟨F, 0, none⟩) (some ⟨T, 0, none⟩) (some ⟨V, 0, none⟩) (n + 1) zs.length zs.length := by
  refine ⟨hf.ints (n + 1) (firsts_len n zs) fun i a hi => ?_, ht.ints zs.length (tos_len zs) fun i a hi => ?_, hv.ints zs.length (weights_len zs) fun i a hi => ?_⟩
  · have hl := (List.getElem?_eq_some_iff.1 hi).1
    rw [firsts_len] at hl
    rw [firsts_at zs (show i ≤ n by omega)] at hi
    exact Option.some.inj hi
  · show (tos zs).getD i 0 = a
    rw [List.getD_eq_getElem?_getD, hi]; rfl
  · show (weights zs).getD i 0 = a
    rw [List.getD_eq_getElem?_getD, hi]; rfl
theorem build_csr (hl : HasArcs w (.slice ao k cap) xs) (hg : graphErr (n : Int) xs = (0, [])) : Calls Try.prog 6 #[.agg #[.int .i64 n, .slice ao k cap]] w fun e w' => ∃ F T V, e = .returned (.tuple #[.agg #[.slice (some ⟨F, 0, none⟩) (n + 1) (n + 1), .slice (some ⟨T, 0, none⟩) (normA xs).length (normA xs).length, .slice (some ⟨V, 0, none⟩) (normA xs).length (normA xs).length], .nilIface]) ∧ CsrIn w' n (normA xs) (some ⟨F, 0, none⟩) (some ⟨T, 0, none⟩) (some ⟨V, 0, none⟩) (n + 1) (normA xs).length (normA xs).length ∧ Below w.heap.size w w' := by
  refine (build_good n ao _ cap xs w hl hg).mono ?_
  rintro e w' ⟨F, T, V, rfl, _, hf, ht, hv, hb⟩
  exact ⟨F, T, V, rfl, rows_csr hf ht hv, hb⟩
theorem back_csr (hl : HasArcs w (.slice ao k cap) xs) (hg : graphErr (n : Int) xs = (0, [])) : Calls Try.prog 7 #[.agg #[.int .i64 n, .slice ao k cap]] w fun e w' => ∃ F T V, e = .returned (.tuple #[.agg #[.slice (some ⟨F, 0, none⟩) (n + 1) (n + 1), .slice (some ⟨T, 0, none⟩) (normA (xs.map turn)).length (normA (xs.map turn)).length, .slice (some ⟨V, 0, none⟩) (normA (xs.map turn)).length (normA (xs.map turn)).length], .nilIface]) ∧ CsrIn w' n (normA (xs.map turn)) (some ⟨F, 0, none⟩) (some ⟨T, 0, none⟩) (some ⟨V, 0, none⟩) (n + 1) (normA (xs.map turn)).length (normA (xs.map turn)).length ∧ Below w.heap.size w w' := by
  refine (back_good n ao _ cap xs w hl hg).mono ?_
  rintro e w' ⟨F, T, V, rfl, _, hf, ht, hv, hb⟩
  exact ⟨F, T, V, rfl, rows_csr hf ht hv, hb⟩
theorem graph_arcs (hz : Fine n zs) (h : CsrIn w n zs (some ⟨F, 0, none⟩) (some ⟨T, 0, none⟩) (some ⟨V, 0, none⟩) (n + 1) zs.length zs.length) : Calls Try.prog 10 #[.agg #[.slice (some ⟨F, 0, none⟩) (n + 1) (n + 1), .slice (some ⟨T, 0, none⟩) zs.length zs.length, .slice (some ⟨V, 0, none⟩) zs.length zs.length]] w fun e w' => ∃ lo lc, e = .returned (.tuple #[.agg #[.int .i64 n, .slice lo zs.length lc], .nilIface]) ∧ HasArcs w' (.slice lo zs.length lc) zs ∧ Below w.heap.size w w' := by
  refine (graph_good n zs _ _ _ _ _ _ w hz h).mono ?_
  rintro e w' ⟨lo, lc, rfl, ho, hb⟩
  exact ⟨lo, lc, rfl, arcs_of_rowC ho, hb⟩
end

set_option maxRecDepth 100000 in
set_option maxHeartbeats 8000000 in
theorem there_good (n : Nat) (ao : Option Addr) (k0 cap : Nat) (xs : List (Int × Int × Int)) (w : World) (hl : HasArcs w (.slice ao k0 cap) xs) (hg : graphErr (n : Int) xs = (0, [])) : Calls Try.prog 3 #[.agg #[.int .i64 n, .slice ao k0 cap]] w fun e w' => e = .returned (.bool true) ∧ Below w.heap.size w w' := by
  have HGD : Hid (graphErr (n : Int) xs = (0, [])) := hg
  have HGT : Hid (graphErr (n : Int) (xs.map turn) = (0, [])) := good_turn hg
  have HFZ : Hid (Fine n (normA xs)) := fine_norm hg
  have HFT : Hid (Fine n (normA (xs.map turn))) := fine_norm (good_turn hg)
  have HL : Hid (HasArcs w (.slice ao k0 cap) xs) := hl
  obtain ⟨zs, hzs⟩ : ∃ zs, normA xs = zs := ⟨_, rfl⟩
  obtain ⟨zt, hzt⟩ : ∃ zt, normA (xs.map turn) = zt := ⟨_, rfl⟩
  have HZ : Hid (normA xs = zs ∧ normA (xs.map turn) = zt) := ⟨hzs, hzt⟩
  rw [hzs] at HFZ
  rw [hzt] at HFT
  clear hl hg hzs hzt
  go_enter Try.func3, Try.ntmps3
  go_wp2_with fail
  have HN0 : Hid ((w.alloc (.cells #[.int .i64 n, .slice ao k0 cap] 24)).heap[w.heap.size]? = some (.cells #[.int .i64 n, .slice ao k0 cap] 24)) := heap_new _ _
  have HB0 : Hid (Below w.heap.size w (w.alloc (.cells #[.int .i64 n, .slice ao k0 cap] 24))) := below_new w _
  generalize w.alloc (.cells #[.int .i64 n, .slice ao k0 cap] 24) = W0 at *
  have I0 : Hid (Gr W0 w.heap.size n ao k0 cap xs ∧ Below w.heap.size w W0) := ⟨⟨HN0.out, HL.out.keep HB0.out⟩, HB0.out⟩
  clear HN0 HB0
  have S1 : Hid (type_of% (awake_calls W0)) := awake_calls W0
  refine S1.out.mono ?_
  rintro e w1 ⟨rfl, h⟩
  have J1 : Hid (Gr w1 w.heap.size n ao k0 cap xs ∧ Below w.heap.size w w1) := ⟨I0.out.1.keep h, I0.out.2.trans (h.mono I0.out.2.size)⟩
  clear h S1
  obtain ⟨g0, g1, gs⟩ := J1.out.1.cells
  go_wp2_with fail
  clear g0 g1 gs
  have S2 : Hid (type_of% (build_csr (J1.out.1.arcs) HGD.out)) := build_csr (J1.out.1.arcs) HGD.out
  rw [HZ.out.1] at S2
  refine S2.out.mono ?_
  rintro e w2 ⟨F, T, V, rfl, hA, h⟩
  have J2 : Hid (Gr w2 w.heap.size n ao k0 cap xs ∧ Below w.heap.size w w2) := ⟨J1.out.1.keep h, J1.out.2.trans (h.mono J1.out.2.size)⟩
  have A2 : Hid (CsrIn w2 n zs (some ⟨F, 0, none⟩) (some ⟨T, 0, none⟩) (some ⟨V, 0, none⟩) (n + 1) zs.length zs.length) := hA
  clear h S2 hA
  obtain ⟨g0, g1, gs⟩ := J2.out.1.cells
  go_wp2_with fail
  clear g0 g1 gs
  have hB := below_new w2 (.cells #[.slice (some ⟨F, 0, none⟩) (n + 1) (n + 1), .slice (some ⟨T, 0, none⟩) zs.length zs.length, .slice (some ⟨V, 0, none⟩) zs.length zs.length] 28)
  have hN := heap_new w2 (.cells #[.slice (some ⟨F, 0, none⟩) (n + 1) (n + 1), .slice (some ⟨T, 0, none⟩) zs.length zs.length, .slice (some ⟨V, 0, none⟩) zs.length zs.length] 28)
  generalize w2.alloc (.cells #[.slice (some ⟨F, 0, none⟩) (n + 1) (n + 1), .slice (some ⟨T, 0, none⟩) zs.length zs.length, .slice (some ⟨V, 0, none⟩) zs.length zs.length] 28) = W2 at *
  have K2 : Hid (Gr W2 w.heap.size n ao k0 cap xs ∧ Cb W2 w2.heap.size n zs F T V ∧ Below w.heap.size w W2) := ⟨J2.out.1.keep hB, ⟨hN, A2.out.keep hB⟩, J2.out.2.trans (hB.mono J2.out.2.size)⟩
  clear hB hN
  generalize w2.heap.size = cb at *
  have S3 : Hid (type_of% (back_csr (K2.out.1.arcs) HGD.out)) := back_csr (K2.out.1.arcs) HGD.out
  rw [HZ.out.2] at S3
  refine S3.out.mono ?_
  rintro e w3 ⟨F', T', V', rfl, hA, h⟩
  have J3 : Hid (Gr w3 w.heap.size n ao k0 cap xs ∧ Cb w3 cb n zs F T V ∧ Below w.heap.size w w3) := ⟨K2.out.1.keep h, K2.out.2.1.keep h, K2.out.2.2.trans (h.mono K2.out.2.2.size)⟩
  have A3 : Hid (CsrIn w3 n zt (some ⟨F', 0, none⟩) (some ⟨T', 0, none⟩) (some ⟨V', 0, none⟩) (n + 1) zt.length zt.length) := hA
  clear h S3 hA
  obtain ⟨g0, g1, gs⟩ := J3.out.1.cells
  obtain ⟨c0, c1, c2, cs⟩ := J3.out.2.1.cells
  go_wp2_with fail
  clear g0 g1 gs c0 c1 c2 cs
  have hB := below_new w3 (.cells #[.slice (some ⟨F', 0, none⟩) (n + 1) (n + 1), .slice (some ⟨T', 0, none⟩) zt.length zt.length, .slice (some ⟨V', 0, none⟩) zt.length zt.length] 28)
  have hN := heap_new w3 (.cells #[.slice (some ⟨F', 0, none⟩) (n + 1) (n + 1), .slice (some ⟨T', 0, none⟩) zt.length zt.length, .slice (some ⟨V', 0, none⟩) zt.length zt.length] 28)
  generalize w3.alloc (.cells #[.slice (some ⟨F', 0, none⟩) (n + 1) (n + 1), .slice (some ⟨T', 0, none⟩) zt.length zt.length, .slice (some ⟨V', 0, none⟩) zt.length zt.length] 28) = W3 at *
  have K3 : Hid (Gr W3 w.heap.size n ao k0 cap xs ∧ Cb W3 cb n zs F T V ∧ Cb W3 w3.heap.size n zt F' T' V' ∧ Below w.heap.size w W3) := ⟨J3.out.1.keep hB, J3.out.2.1.keep hB, ⟨hN, A3.out.keep hB⟩, J3.out.2.2.trans (hB.mono J3.out.2.2.size)⟩
  clear hB hN
  generalize w3.heap.size = bb at *
  have S4 : Hid (type_of% (of_good (K3.out.1.arcs) HGD.out)) := of_good (K3.out.1.arcs) HGD.out
  rw [HZ.out.1] at S4
  refine S4.out.mono ?_
  rintro e w4 ⟨no, nn, nc, rfl, hA, h⟩
  have J4 : Hid (Gr w4 w.heap.size n ao k0 cap xs ∧ Cb w4 cb n zs F T V ∧ Cb w4 bb n zt F' T' V' ∧ Below w.heap.size w w4) := ⟨K3.out.1.keep h, K3.out.2.1.keep h, K3.out.2.2.1.keep h, K3.out.2.2.2.trans (h.mono K3.out.2.2.2.size)⟩
  have A4 : Hid (HasArcs w4 (.slice no nn nc) zs) := hA
  clear h S4 hA
  obtain ⟨g0, g1, gs⟩ := J4.out.1.cells
  obtain ⟨c0, c1, c2, cs⟩ := J4.out.2.1.cells
  obtain ⟨b0, b1, b2, bs⟩ := J4.out.2.2.1.cells
  go_wp2_with fail
  clear g0 g1 gs c0 c1 c2 cs b0 b1 b2 bs
  have hB := below_new w4 (.cells #[.int .i64 n, .slice no nn nc] 24)
  have hN := heap_new w4 (.cells #[.int .i64 n, .slice no nn nc] 24)
  generalize w4.alloc (.cells #[.int .i64 n, .slice no nn nc] 24) = W4 at *
  have K4 : Hid (Gr W4 w.heap.size n ao k0 cap xs ∧ Cb W4 cb n zs F T V ∧ Cb W4 bb n zt F' T' V' ∧ Gr W4 w4.heap.size n no nn nc zs ∧ Below w.heap.size w W4) := ⟨J4.out.1.keep hB, J4.out.2.1.keep hB, J4.out.2.2.1.keep hB, ⟨hN, A4.out.keep hB⟩, J4.out.2.2.2.trans (hB.mono J4.out.2.2.2.size)⟩
  clear hB hN
  generalize w4.heap.size = nb at *
  have S5 : Hid (type_of% (rev_good (K4.out.1.arcs) HGD.out)) := rev_good (K4.out.1.arcs) HGD.out
  refine S5.out.mono ?_
  rintro e w5 ⟨ro, rn, rc, rfl, hA, h⟩
  have J5 : Hid (Gr w5 w.heap.size n ao k0 cap xs ∧ Cb w5 cb n zs F T V ∧ Cb w5 bb n zt F' T' V' ∧ Gr w5 nb n no nn nc zs ∧ Below w.heap.size w w5) := ⟨K4.out.1.keep h, K4.out.2.1.keep h, K4.out.2.2.1.keep h, K4.out.2.2.2.1.keep h, K4.out.2.2.2.2.trans (h.mono K4.out.2.2.2.2.size)⟩
  have A5 : Hid (HasArcs w5 (.slice ro rn rc) (xs.map turn)) := hA
  clear h S5 hA
  obtain ⟨g0, g1, gs⟩ := J5.out.1.cells
  obtain ⟨c0, c1, c2, cs⟩ := J5.out.2.1.cells
  obtain ⟨b0, b1, b2, bs⟩ := J5.out.2.2.1.cells
  obtain ⟨nx0, nx1, nxs⟩ := J5.out.2.2.2.1.cells
  go_wp2_with fail
  clear g0 g1 gs c0 c1 c2 cs b0 b1 b2 bs nx0 nx1 nxs
  have hB := below_new w5 (.cells #[.int .i64 n, .slice ro rn rc] 24)
  have hN := heap_new w5 (.cells #[.int .i64 n, .slice ro rn rc] 24)
  generalize w5.alloc (.cells #[.int .i64 n, .slice ro rn rc] 24) = W5 at *
  have HT : Hid (W5.heap[w5.heap.size]? = some (.cells #[.int .i64 n, .slice ro rn rc] 24) ∧ HasArcs W5 (.slice ro rn rc) (xs.map turn) ∧ Below w5.heap.size w5 W5) := ⟨hN, A5.out.keep hB, hB⟩
  clear hB hN
  have S6 : Hid (type_of% (of_good HT.out.2.1 HGT.out)) := of_good HT.out.2.1 HGT.out
  rw [HZ.out.2] at S6
  refine S6.out.mono ?_
  rintro e w6 ⟨so, sn, sc, rfl, hA, h⟩
  have hT := (h.block _ (lt_of_get HT.out.1)).trans HT.out.1
  obtain ⟨t0, t1, tz0, tz1, ts⟩ : w6.cell? ⟨w5.heap.size, 0, none⟩ = some (.int .i64 n) ∧ w6.cell? ⟨w5.heap.size, 1, none⟩ = some (.slice ro rn rc) ∧ w6.frozen? ⟨w5.heap.size, 0, none⟩ = false ∧ w6.frozen? ⟨w5.heap.size, 1, none⟩ = false ∧ w5.heap.size < w6.heap.size := ⟨by simp [World.cell?, hT], by simp [World.cell?, hT], by simp [World.frozen?, hT], by simp [World.frozen?, hT], lt_of_get hT⟩
  have hBt : Below w5.heap.size w5 ((w6.setCell ⟨w5.heap.size, 0, none⟩ (.int .i64 n)).setCell ⟨w5.heap.size, 1, none⟩ (.slice so sn sc)) := ((HT.out.2.2.trans (h.mono HT.out.2.2.size)).setCell (p := ⟨w5.heap.size, 0, none⟩) (Nat.le_refl _) _).setCell (p := ⟨w5.heap.size, 1, none⟩) (Nat.le_refl _) _
  have K6 : Hid (Gr ((w6.setCell ⟨w5.heap.size, 0, none⟩ (.int .i64 n)).setCell ⟨w5.heap.size, 1, none⟩ (.slice so sn sc)) w.heap.size n ao k0 cap xs ∧ Cb ((w6.setCell ⟨w5.heap.size, 0, none⟩ (.int .i64 n)).setCell ⟨w5.heap.size, 1, none⟩ (.slice so sn sc)) cb n zs F T V ∧ Cb ((w6.setCell ⟨w5.heap.size, 0, none⟩ (.int .i64 n)).setCell ⟨w5.heap.size, 1, none⟩ (.slice so sn sc)) bb n zt F' T' V' ∧ Gr ((w6.setCell ⟨w5.heap.size, 0, none⟩ (.int .i64 n)).setCell ⟨w5.heap.size, 1, none⟩ (.slice so sn sc)) nb n no nn nc zs ∧ Gr ((w6.setCell ⟨w5.heap.size, 0, none⟩ (.int .i64 n)).setCell ⟨w5.heap.size, 1, none⟩ (.slice so sn sc)) w5.heap.size n so sn sc zt ∧ Below w.heap.size w ((w6.setCell ⟨w5.heap.size, 0, none⟩ (.int .i64 n)).setCell ⟨w5.heap.size, 1, none⟩ (.slice so sn sc))) := ⟨J5.out.1.keep hBt, J5.out.2.1.keep hBt, J5.out.2.2.1.keep hBt, J5.out.2.2.2.1.keep hBt, ⟨box_two hT _ _, hA.lay hT _ _⟩, J5.out.2.2.2.2.trans (hBt.mono J5.out.2.2.2.2.size)⟩
  clear hA h hT hBt S6 HT
  have hts : ¬ cb = w5.heap.size := fun e => by have := (J5.out.2.1.cells).2.2.2; omega
  go_upto_region 10 with fail
  generalize (w6.setCell ⟨w5.heap.size, 0, none⟩ (.int .i64 n)).setCell ⟨w5.heap.size, 1, none⟩ (.slice so sn sc) = W6 at *
  clear t0 t1 tz0 tz1 ts hts
  generalize w5.heap.size = tb at *
  obtain ⟨g0, g1, gs⟩ := K6.out.1.cells
  obtain ⟨c0, c1, c2, cs⟩ := K6.out.2.1.cells
  obtain ⟨b0, b1, b2, bs⟩ := K6.out.2.2.1.cells
  obtain ⟨nx0, nx1, nxs⟩ := K6.out.2.2.2.1.cells
  obtain ⟨t0, t1, ts⟩ := K6.out.2.2.2.2.1.cells
  go_wp2_with fail
  clear g0 g1 gs c0 c1 c2 cs b0 b1 b2 bs nx0 nx1 nxs t0 t1 ts
  have S7 : Hid (type_of% (graph_arcs HFZ.out (K6.out.2.1.arr))) := graph_arcs HFZ.out (K6.out.2.1.arr)
  refine S7.out.mono ?_
  rintro e w7 ⟨xo, xc, rfl, hA, h⟩
  have J7 : Hid (Gr w7 w.heap.size n ao k0 cap xs ∧ Cb w7 cb n zs F T V ∧ Cb w7 bb n zt F' T' V' ∧ Gr w7 nb n no nn nc zs ∧ Gr w7 tb n so sn sc zt ∧ Below w.heap.size w w7) := ⟨K6.out.1.keep h, K6.out.2.1.keep h, K6.out.2.2.1.keep h, K6.out.2.2.2.1.keep h, K6.out.2.2.2.2.1.keep h, K6.out.2.2.2.2.2.trans (h.mono K6.out.2.2.2.2.2.size)⟩
  have A7 : Hid (HasArcs w7 (.slice xo zs.length xc) zs) := hA
  clear h S7 hA
  obtain ⟨g0, g1, gs⟩ := J7.out.1.cells
  obtain ⟨c0, c1, c2, cs⟩ := J7.out.2.1.cells
  obtain ⟨b0, b1, b2, bs⟩ := J7.out.2.2.1.cells
  obtain ⟨nx0, nx1, nxs⟩ := J7.out.2.2.2.1.cells
  obtain ⟨t0, t1, ts⟩ := J7.out.2.2.2.2.1.cells
  go_wp2_with fail
  clear g0 g1 gs c0 c1 c2 cs b0 b1 b2 bs nx0 nx1 nxs t0 t1 ts
  have hB := below_new w7 (.cells #[.int .i64 n, .slice xo zs.length xc] 24)
  have hN := heap_new w7 (.cells #[.int .i64 n, .slice xo zs.length xc] 24)
  generalize w7.alloc (.cells #[.int .i64 n, .slice xo zs.length xc] 24) = W7 at *
  have K7 : Hid (Gr W7 w.heap.size n ao k0 cap xs ∧ Cb W7 cb n zs F T V ∧ Cb W7 bb n zt F' T' V' ∧ Gr W7 nb n no nn nc zs ∧ Gr W7 tb n so sn sc zt ∧ Gr W7 w7.heap.size n xo zs.length xc zs ∧ Below w.heap.size w W7) := ⟨J7.out.1.keep hB, J7.out.2.1.keep hB, J7.out.2.2.1.keep hB, J7.out.2.2.2.1.keep hB, J7.out.2.2.2.2.1.keep hB, ⟨hN, A7.out.keep hB⟩, J7.out.2.2.2.2.2.trans (hB.mono J7.out.2.2.2.2.2.size)⟩
  clear hB hN
  generalize w7.heap.size = xb at *
  have S8 : Hid (type_of% (graph_arcs HFT.out (K7.out.2.2.1.arr))) := graph_arcs HFT.out (K7.out.2.2.1.arr)
  refine S8.out.mono ?_
  rintro e w8 ⟨yo, yc, rfl, hA, h⟩
  have J8 : Hid (Gr w8 w.heap.size n ao k0 cap xs ∧ Cb w8 cb n zs F T V ∧ Cb w8 bb n zt F' T' V' ∧ Gr w8 nb n no nn nc zs ∧ Gr w8 tb n so sn sc zt ∧ Gr w8 xb n xo zs.length xc zs ∧ Below w.heap.size w w8) := ⟨K7.out.1.keep h, K7.out.2.1.keep h, K7.out.2.2.1.keep h, K7.out.2.2.2.1.keep h, K7.out.2.2.2.2.1.keep h, K7.out.2.2.2.2.2.1.keep h, K7.out.2.2.2.2.2.2.trans (h.mono K7.out.2.2.2.2.2.2.size)⟩
  have A8 : Hid (HasArcs w8 (.slice yo zt.length yc) zt) := hA
  clear h S8 hA
  obtain ⟨g0, g1, gs⟩ := J8.out.1.cells
  obtain ⟨c0, c1, c2, cs⟩ := J8.out.2.1.cells
  obtain ⟨b0, b1, b2, bs⟩ := J8.out.2.2.1.cells
  obtain ⟨nx0, nx1, nxs⟩ := J8.out.2.2.2.1.cells
  obtain ⟨t0, t1, ts⟩ := J8.out.2.2.2.2.1.cells
  obtain ⟨x0, x1, xs⟩ := J8.out.2.2.2.2.2.1.cells
  go_wp2_with fail
  clear g0 g1 gs c0 c1 c2 cs b0 b1 b2 bs nx0 nx1 nxs t0 t1 ts x0 x1 xs
  have hB := below_new w8 (.cells #[.int .i64 n, .slice yo zt.length yc] 24)
  have hN := heap_new w8 (.cells #[.int .i64 n, .slice yo zt.length yc] 24)
  generalize w8.alloc (.cells #[.int .i64 n, .slice yo zt.length yc] 24) = W8 at *
  have K8 : Hid (Gr W8 w.heap.size n ao k0 cap xs ∧ Cb W8 cb n zs F T V ∧ Cb W8 bb n zt F' T' V' ∧ Gr W8 nb n no nn nc zs ∧ Gr W8 tb n so sn sc zt ∧ Gr W8 xb n xo zs.length xc zs ∧ Gr W8 w8.heap.size n yo zt.length yc zt ∧ Below w.heap.size w W8) := ⟨J8.out.1.keep hB, J8.out.2.1.keep hB, J8.out.2.2.1.keep hB, J8.out.2.2.2.1.keep hB, J8.out.2.2.2.2.1.keep hB, J8.out.2.2.2.2.2.1.keep hB, ⟨hN, A8.out.keep hB⟩, J8.out.2.2.2.2.2.2.trans (hB.mono J8.out.2.2.2.2.2.2.size)⟩
  clear hB hN
  generalize w8.heap.size = yb at *
  have S9 : Hid (type_of% (check_good n zs _ _ _ _ _ _ W8 HFZ.out (K8.out.2.1.arr))) := check_good n zs _ _ _ _ _ _ W8 HFZ.out (K8.out.2.1.arr)
  refine S9.out.mono ?_
  rintro e w9 ⟨rfl, h⟩
  have J9 : Hid (Gr w9 w.heap.size n ao k0 cap xs ∧ Cb w9 cb n zs F T V ∧ Cb w9 bb n zt F' T' V' ∧ Gr w9 nb n no nn nc zs ∧ Gr w9 tb n so sn sc zt ∧ Gr w9 xb n xo zs.length xc zs ∧ Gr w9 yb n yo zt.length yc zt ∧ Below w.heap.size w w9) := ⟨K8.out.1.keep h, K8.out.2.1.keep h, K8.out.2.2.1.keep h, K8.out.2.2.2.1.keep h, K8.out.2.2.2.2.1.keep h, K8.out.2.2.2.2.2.1.keep h, K8.out.2.2.2.2.2.2.1.keep h, K8.out.2.2.2.2.2.2.2.trans (h.mono K8.out.2.2.2.2.2.2.2.size)⟩
  clear h S9
  obtain ⟨g0, g1, gs⟩ := J9.out.1.cells
  obtain ⟨c0, c1, c2, cs⟩ := J9.out.2.1.cells
  obtain ⟨b0, b1, b2, bs⟩ := J9.out.2.2.1.cells
  obtain ⟨nx0, nx1, nxs⟩ := J9.out.2.2.2.1.cells
  obtain ⟨t0, t1, ts⟩ := J9.out.2.2.2.2.1.cells
  obtain ⟨x0, x1, xs⟩ := J9.out.2.2.2.2.2.1.cells
  obtain ⟨y0, y1, ys⟩ := J9.out.2.2.2.2.2.2.1.cells
  go_wp2_with fail
  clear g0 g1 gs c0 c1 c2 cs b0 b1 b2 bs nx0 nx1 nxs t0 t1 ts x0 x1 xs y0 y1 ys
  have S10 : Hid (type_of% (check_good n zt _ _ _ _ _ _ w9 HFT.out (J9.out.2.2.1.arr))) := check_good n zt _ _ _ _ _ _ w9 HFT.out (J9.out.2.2.1.arr)
  refine S10.out.mono ?_
  rintro e w10 ⟨rfl, h⟩
  have J10 : Hid (Gr w10 w.heap.size n ao k0 cap xs ∧ Cb w10 cb n zs F T V ∧ Cb w10 bb n zt F' T' V' ∧ Gr w10 nb n no nn nc zs ∧ Gr w10 tb n so sn sc zt ∧ Gr w10 xb n xo zs.length xc zs ∧ Gr w10 yb n yo zt.length yc zt ∧ Below w.heap.size w w10) := ⟨J9.out.1.keep h, J9.out.2.1.keep h, J9.out.2.2.1.keep h, J9.out.2.2.2.1.keep h, J9.out.2.2.2.2.1.keep h, J9.out.2.2.2.2.2.1.keep h, J9.out.2.2.2.2.2.2.1.keep h, J9.out.2.2.2.2.2.2.2.trans (h.mono J9.out.2.2.2.2.2.2.2.size)⟩
  clear h S10
  obtain ⟨g0, g1, gs⟩ := J10.out.1.cells
  obtain ⟨c0, c1, c2, cs⟩ := J10.out.2.1.cells
  obtain ⟨b0, b1, b2, bs⟩ := J10.out.2.2.1.cells
  obtain ⟨nx0, nx1, nxs⟩ := J10.out.2.2.2.1.cells
  obtain ⟨t0, t1, ts⟩ := J10.out.2.2.2.2.1.cells
  obtain ⟨x0, x1, xs⟩ := J10.out.2.2.2.2.2.1.cells
  obtain ⟨y0, y1, ys⟩ := J10.out.2.2.2.2.2.2.1.cells
  go_wp2_with fail
  clear g0 g1 gs c0 c1 c2 cs b0 b1 b2 bs nx0 nx1 nxs t0 t1 ts x0 x1 xs y0 y1 ys
  have S11 : Hid (type_of% (same_yes n _ _ _ _ _ _ zs w10 (J10.out.2.2.2.2.2.1.arcs) (J10.out.2.2.2.1.arcs) (by have := HFZ.out.short; unfold maxLen; omega))) := same_yes n _ _ _ _ _ _ zs w10 (J10.out.2.2.2.2.2.1.arcs) (J10.out.2.2.2.1.arcs) (by have := HFZ.out.short; unfold maxLen; omega)
  refine S11.out.mono ?_
  rintro e w11 ⟨rfl, h⟩
  have J11 : Hid (Gr w11 w.heap.size n ao k0 cap xs ∧ Cb w11 cb n zs F T V ∧ Cb w11 bb n zt F' T' V' ∧ Gr w11 nb n no nn nc zs ∧ Gr w11 tb n so sn sc zt ∧ Gr w11 xb n xo zs.length xc zs ∧ Gr w11 yb n yo zt.length yc zt ∧ Below w.heap.size w w11) := ⟨J10.out.1.keep h, J10.out.2.1.keep h, J10.out.2.2.1.keep h, J10.out.2.2.2.1.keep h, J10.out.2.2.2.2.1.keep h, J10.out.2.2.2.2.2.1.keep h, J10.out.2.2.2.2.2.2.1.keep h, J10.out.2.2.2.2.2.2.2.trans (h.mono J10.out.2.2.2.2.2.2.2.size)⟩
  clear h S11
  obtain ⟨g0, g1, gs⟩ := J11.out.1.cells
  obtain ⟨c0, c1, c2, cs⟩ := J11.out.2.1.cells
  obtain ⟨b0, b1, b2, bs⟩ := J11.out.2.2.1.cells
  obtain ⟨nx0, nx1, nxs⟩ := J11.out.2.2.2.1.cells
  obtain ⟨t0, t1, ts⟩ := J11.out.2.2.2.2.1.cells
  obtain ⟨x0, x1, xs⟩ := J11.out.2.2.2.2.2.1.cells
  obtain ⟨y0, y1, ys⟩ := J11.out.2.2.2.2.2.2.1.cells
  go_wp2_with fail
  clear g0 g1 gs c0 c1 c2 cs b0 b1 b2 bs nx0 nx1 nxs t0 t1 ts x0 x1 xs y0 y1 ys
  have S12 : Hid (type_of% (same_yes n _ _ _ _ _ _ zt w11 (J11.out.2.2.2.2.2.2.1.arcs) (J11.out.2.2.2.2.1.arcs) (by have := HFT.out.short; unfold maxLen; omega))) := same_yes n _ _ _ _ _ _ zt w11 (J11.out.2.2.2.2.2.2.1.arcs) (J11.out.2.2.2.2.1.arcs) (by have := HFT.out.short; unfold maxLen; omega)
  refine S12.out.mono ?_
  rintro e w12 ⟨rfl, h⟩
  have J12 : Hid (Gr w12 w.heap.size n ao k0 cap xs ∧ Cb w12 cb n zs F T V ∧ Cb w12 bb n zt F' T' V' ∧ Gr w12 nb n no nn nc zs ∧ Gr w12 tb n so sn sc zt ∧ Gr w12 xb n xo zs.length xc zs ∧ Gr w12 yb n yo zt.length yc zt ∧ Below w.heap.size w w12) := ⟨J11.out.1.keep h, J11.out.2.1.keep h, J11.out.2.2.1.keep h, J11.out.2.2.2.1.keep h, J11.out.2.2.2.2.1.keep h, J11.out.2.2.2.2.2.1.keep h, J11.out.2.2.2.2.2.2.1.keep h, J11.out.2.2.2.2.2.2.2.trans (h.mono J11.out.2.2.2.2.2.2.2.size)⟩
  clear h S12
  have HBE : Hid (Below w.heap.size w w12) := J12.out.2.2.2.2.2.2.2
  go_wp2
  go_ret
  exact ⟨rfl, HBE.out⟩
end Go.Proofs.Ytgfmalimnbgdeaa
