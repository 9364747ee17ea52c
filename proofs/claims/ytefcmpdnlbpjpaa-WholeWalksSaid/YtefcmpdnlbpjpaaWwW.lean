/- the law WholeWalks at a graph that is small and a list that is not long. -/
import Derived.Test.YtefcmpdnlbpjpaaWwA
import Derived.Test.YtefcmpdnlbpjpaaWwS
import Derived.Test.YtefcmpdnlbpjpaaWkT
import Derived.Test.YtefcmpdnlbpjpaaWkS
import Derived.Test.YtefcmpdnlbpjpaaInts
import Derived.Deep.RegionHeld3
import Derived.BigQuiet
namespace Go.Proofs.Ytefcmpdnlbpjpaa
open Go.RowKit Go.Extern

attribute [local go_sem] Oper.semAt_some

set_option maxRecDepth 100000 in
set_option maxHeartbeats 16000000 in
theorem walks_near (n : Nat) (ao : Option Addr) (cap : Nat) (xs : List (Int × Int × Int)) (w : World) (hX : HasArcs w (.slice ao xs.length cap) xs) (hg : graphErr (n : Int) xs = (0, [])) (hn : n ≤ 10) (hxl : xs.length ≤ 200) (lo : Option Addr) (lc : Nat) (l : List Int) (hl : HasInts w (.slice lo l.length lc) l) (hll : l.length ≤ 60) (hno : lo = none → lc = 0) (s m t : Int) :
    Calls Try.prog 3 #[.agg #[.int .i64 n, .slice ao xs.length cap], .slice lo l.length lc, .int .i64 s, .int .i64 m, .int .i64 t] w fun e w' => e = .returned (.bool true) ∧ Below w.heap.size w w' := by
  obtain ⟨zs, hzs⟩ : ∃ zs, normA xs = zs := ⟨_, rfl⟩
  have hz : Fine n zs := by rw [← hzs]; exact fine_norm hg
  obtain ⟨W0, hW0⟩ : ∃ W0, w.alloc (.cells #[.int .i64 n, .slice ao xs.length cap] 24) = W0 := ⟨_, rfl⟩
  have HW0 : Hid (w.alloc (.cells #[.int .i64 n, .slice ao xs.length cap] 24) = W0) := hW0
  have hB0 : Below w.heap.size w W0 := by rw [← hW0]; exact (Below.refl _ w).alloc (Nat.le_refl _) _
  have hbx : W0.heap[w.heap.size]? = some (.cells #[.int .i64 n, .slice ao xs.length cap] 24) := by rw [← hW0]; exact heap_new _ _
  have HG : Hid (∀ wx, Below W0.heap.size W0 wx → (wx.cell? ⟨w.heap.size, 0, none⟩ = some (.int .i64 n) ∧ wx.cell? ⟨w.heap.size, 1, none⟩ = some (.slice ao xs.length cap) ∧ w.heap.size < wx.heap.size) ∧ HasArcs wx (.slice ao xs.length cap) xs ∧ HasInts wx (.slice lo l.length lc) l ∧ Below w.heap.size w wx) := fun wx hwx => by
    have hgg := (hwx.block _ (lt_of_get hbx)).trans hbx
    have hb := hB0.trans (hwx.mono hB0.size)
    exact ⟨⟨(cell_two hgg).1, (cell_two hgg).2.1, lt_of_get hgg⟩, hX.keep hb, hl.keep hb, hb⟩
  have HSM : Hid (∀ wx, Below W0.heap.size W0 wx → Calls Try.prog 6 #[.agg #[.int .i64 n, .slice ao xs.length cap], .int .i64 10] wx fun e w' => e = .returned (.bool true) ∧ Below wx.heap.size wx w') := fun wx hwx => by
    have h := small_calls (n : Int) ao cap xs wx (HG.out wx hwx).2.1 (by unfold maxLen; omega)
    rwa [show fewB (n : Int) xs 10 = true from decide_eq_true ⟨hg, by omega, by omega⟩, decide_eq_true hxl] at h
  have HBU : Hid (∀ wx, Below W0.heap.size W0 wx → Calls Try.prog 4 #[.agg #[.int .i64 n, .slice ao xs.length cap]] wx fun e w' => ∃ F T V, e = .returned (.tuple #[.agg #[.slice (some ⟨F, 0, none⟩) (n + 1) (n + 1), .slice (some ⟨T, 0, none⟩) zs.length zs.length, .slice (some ⟨V, 0, none⟩) zs.length zs.length], .nilIface]) ∧ CsrIn w' n zs (some ⟨F, 0, none⟩) (some ⟨T, 0, none⟩) (some ⟨V, 0, none⟩) (n + 1) zs.length zs.length ∧ Below wx.heap.size wx w') := fun wx hwx => by
    have := build_csr (HG.out wx hwx).2.1 hg
    rwa [hzs] at this
  have HDI : Hid (∀ wx, Below W0.heap.size W0 wx → Calls Try.prog 9 #[.agg #[.int .i64 n, .slice ao xs.length cap]] wx fun e w' => ∃ db rs, e = .returned (.slice (some ⟨db, 0, none⟩) n n) ∧ Ds.MatP wx.heap.size w' db n n rs (Ds.dist n xs) ∧ Below wx.heap.size wx w') := fun wx hwx => Ds.dist_calls n (by omega) ao xs.length cap xs wx (HG.out wx hwx).2.1 (fun a ha => by
    have h := ((good_iff _ _).1 hg).2 a ha
    unfold arcBad at h
    split at h
    · cases h
    · omega) (Ds.fine_good hg) (by omega)
  have HZ : Hid (Fine n zs ∧ normA xs = zs ∧ graphErr (n : Int) xs = (0, [])) := ⟨hz, hzs, hg⟩
  have HNO : Hid (lo = none → lc = 0) := hno
  clear hW0 hB0 hbx hX hg hz hzs hl hno
  go_enter Try.func3, Try.ntmps3
  go_upto_region 1 with fail
  rw [HW0.out]
  have HTB : Hid (type_of% (two_build W0)) := two_build W0
  go_wp2_with fail
  refine HTB.out.mono ?_
  rintro e w1 ⟨F2, T2, V2, rfl, hC, hb⟩
  have hal := below1 w1 (.cells #[.slice (some ⟨F2, 0, none⟩) 3 3, .slice (some ⟨T2, 0, none⟩) 1 1, .slice (some ⟨V2, 0, none⟩) 1 1] 27)
  have H1 : Hid (Below W0.heap.size W0 (w1.alloc (.cells #[.slice (some ⟨F2, 0, none⟩) 3 3, .slice (some ⟨T2, 0, none⟩) 1 1, .slice (some ⟨V2, 0, none⟩) 1 1] 27)) ∧ CsrIn (w1.alloc (.cells #[.slice (some ⟨F2, 0, none⟩) 3 3, .slice (some ⟨T2, 0, none⟩) 1 1, .slice (some ⟨V2, 0, none⟩) 1 1] 27)) 2 Z2 (some ⟨F2, 0, none⟩) (some ⟨T2, 0, none⟩) (some ⟨V2, 0, none⟩) 3 1 1 ∧ (w1.alloc (.cells #[.slice (some ⟨F2, 0, none⟩) 3 3, .slice (some ⟨T2, 0, none⟩) 1 1, .slice (some ⟨V2, 0, none⟩) 1 1] 27)).heap[w1.heap.size]? = some (.cells #[.slice (some ⟨F2, 0, none⟩) 3 3, .slice (some ⟨T2, 0, none⟩) 1 1, .slice (some ⟨V2, 0, none⟩) 1 1] 27)) := ⟨btr hb hal, hC.keep hal, heap_new _ _⟩
  clear hb hC hal HTB
  go_upto_region 2 with fail
  generalize w1.alloc (.cells #[.slice (some ⟨F2, 0, none⟩) 3 3, .slice (some ⟨T2, 0, none⟩) 1 1, .slice (some ⟨V2, 0, none⟩) 1 1] 27) = w2 at *
  generalize w1.heap.size = tb at *
  obtain ⟨x0, x1, x2⟩ := box3 H1.out.2.2
  have xl := lt_of_get H1.out.2.2
  have HTL : Hid (type_of% (two_length F2 T2 V2 w2 H1.out.2.1)) := two_length F2 T2 V2 w2 H1.out.2.1
  go_wp2_with fail
  refine HTL.out.mono ?_
  rintro e w3 ⟨rfl, hb⟩
  have H3 : Hid (Below W0.heap.size W0 w3) := btr H1.out.1 hb
  clear hb x0 x1 x2 xl HTL H1
  obtain ⟨⟨g0, g1, gs⟩, _⟩ := HG.out w3 H3.out
  go_wp2_with fail
  refine (HSM.out w3 H3.out).mono ?_
  rintro e w4 ⟨rfl, hb⟩
  have H4 : Hid (Below W0.heap.size W0 w4) := btr H3.out hb
  have l60 : ¬ (l.length : Int) > 60 := by omega
  have l60' : decide ((60 : Int) < (l.length : Int)) = false := decide_eq_false (by omega)
  have l60'' : decide (60 < l.length) = false := decide_eq_false (by omega)
  clear hb g0 g1 gs
  obtain ⟨⟨g0, g1, gs⟩, _⟩ := HG.out w4 H4.out
  go_wp2_with fail
  refine (HBU.out w4 H4.out).mono ?_
  rintro e w5 ⟨F, T, V, rfl, hC, hb⟩
  have hal := below1 w5 (.cells #[.slice (some ⟨F, 0, none⟩) (n + 1) (n + 1), .slice (some ⟨T, 0, none⟩) zs.length zs.length, .slice (some ⟨V, 0, none⟩) zs.length zs.length] 27)
  have H5 : Hid (Below W0.heap.size W0 (w5.alloc (.cells #[.slice (some ⟨F, 0, none⟩) (n + 1) (n + 1), .slice (some ⟨T, 0, none⟩) zs.length zs.length, .slice (some ⟨V, 0, none⟩) zs.length zs.length] 27)) ∧ CsrIn (w5.alloc (.cells #[.slice (some ⟨F, 0, none⟩) (n + 1) (n + 1), .slice (some ⟨T, 0, none⟩) zs.length zs.length, .slice (some ⟨V, 0, none⟩) zs.length zs.length] 27)) n zs (some ⟨F, 0, none⟩) (some ⟨T, 0, none⟩) (some ⟨V, 0, none⟩) (n + 1) zs.length zs.length ∧ (w5.alloc (.cells #[.slice (some ⟨F, 0, none⟩) (n + 1) (n + 1), .slice (some ⟨T, 0, none⟩) zs.length zs.length, .slice (some ⟨V, 0, none⟩) zs.length zs.length] 27)).heap[w5.heap.size]? = some (.cells #[.slice (some ⟨F, 0, none⟩) (n + 1) (n + 1), .slice (some ⟨T, 0, none⟩) zs.length zs.length, .slice (some ⟨V, 0, none⟩) zs.length zs.length] 27)) := ⟨btr (btr H4.out hb) hal, hC.keep hal, heap_new _ _⟩
  clear hb hC hal g0 g1 gs l60 l60' l60''
  go_upto_region 8 with fail
  generalize w5.alloc (.cells #[.slice (some ⟨F, 0, none⟩) (n + 1) (n + 1), .slice (some ⟨T, 0, none⟩) zs.length zs.length, .slice (some ⟨V, 0, none⟩) zs.length zs.length] 27) = w6 at *
  generalize w5.heap.size = xb at *
  have HXK : Hid (∀ wx, Below w6.heap.size w6 wx → (wx.cell? ⟨xb, 0, none⟩ = some (.slice (some ⟨F, 0, none⟩) (n + 1) (n + 1)) ∧ wx.cell? ⟨xb, 1, none⟩ = some (.slice (some ⟨T, 0, none⟩) zs.length zs.length) ∧ wx.cell? ⟨xb, 2, none⟩ = some (.slice (some ⟨V, 0, none⟩) zs.length zs.length)) ∧ xb < wx.heap.size ∧ CsrIn wx n zs (some ⟨F, 0, none⟩) (some ⟨T, 0, none⟩) (some ⟨V, 0, none⟩) (n + 1) zs.length zs.length) := fun wx hwx => by
    have hg := (hwx.block _ (lt_of_get H5.out.2.2)).trans H5.out.2.2
    exact ⟨box3 hg, lt_of_get hg, H5.out.2.1.keep hwx⟩
  have HGX : Hid (∀ wx, Below w6.heap.size w6 wx → (wx.cell? ⟨w.heap.size, 0, none⟩ = some (.int .i64 n) ∧ wx.cell? ⟨w.heap.size, 1, none⟩ = some (.slice ao xs.length cap) ∧ w.heap.size < wx.heap.size) ∧ HasInts wx (.slice lo l.length lc) l ∧ Below w.heap.size w wx) := fun wx h => by
    have h' := HG.out wx (btr H5.out.1 h)
    exact ⟨h'.1, h'.2.2.1, h'.2.2.2⟩
  have HDX : Hid (∀ wx, Below w6.heap.size w6 wx → Calls Try.prog 9 #[.agg #[.int .i64 n, .slice ao xs.length cap]] wx fun e w' => ∃ db rs, e = .returned (.slice (some ⟨db, 0, none⟩) n n) ∧ Ds.MatP wx.heap.size w' db n n rs (Ds.dist n xs) ∧ Below wx.heap.size wx w') := fun wx h => HDI.out wx (btr H5.out.1 h)
  clear H5 H4 H3 HSM HBU HDI HG HW0
  obtain ⟨⟨x0, x1, x2⟩, xl, xC⟩ := HXK.out w6 (Below.refl _ _)
  go_wp2_with fail
  refine (sMatrix_good n zs (some ⟨F, 0, none⟩) (some ⟨T, 0, none⟩) (some ⟨V, 0, none⟩) (n + 1) zs.length zs.length w6 HZ.out.1 xC (by omega)).mono ?_
  rintro e w7 ⟨rb, vs, rfl, hvl, hRA, hMt, hb⟩
  have H7 : Hid (Below w6.heap.size w6 w7 ∧ vs.length = n ∧ RowsAt w7 rb vs ∧ Mat w7 n zs vs) := ⟨hb, hvl, hRA, hMt⟩
  clear hb hvl hRA hMt x0 x1 x2 xl xC
  have HM : Hid (∀ i : Nat, i < n → ∃ mb D, IsDist n zs i D ∧ ∀ wx, Below w7.heap.size w7 wx → wx.cell? ⟨rb, i, none⟩ = some (.slice (some ⟨mb, 0, none⟩) n n) ∧ rb < wx.heap.size ∧ U64s wx mb D) := fun i hi => by
    obtain ⟨_, hvl, hRA, hMt⟩ := H7.out
    obtain ⟨v, hv⟩ : ∃ v, vs[i]? = some v := ⟨vs[i]'(by rw [hvl]; exact hi), List.getElem?_eq_getElem _⟩
    obtain ⟨mb, D, rfl, hD, hU⟩ := hMt i v hv
    refine ⟨mb, D, hD, fun wx hx => ?_⟩
    obtain ⟨q0, ql, _⟩ := hRA.at hv
    exact ⟨(hx.cell (p := ⟨rb, i, none⟩) ql).trans q0, Nat.lt_of_lt_of_le ql hx.size, (hx.block _ (lt_of_get hU)).trans hU⟩
  obtain ⟨⟨g0, g1, gs⟩, _⟩ := HGX.out w7 H7.out.1
  go_wp2_with fail
  refine (HDX.out w7 H7.out.1).mono ?_
  rintro e w8 ⟨db, rs, rfl, hMP, hb⟩
  have HSA : Hid (Calls Try.prog 8 #[.slice (some ⟨rb, 0, none⟩) n n, .slice (some ⟨db, 0, none⟩) n n] w8 fun e w' => e = .returned (.bool true) ∧ Below w8.heap.size w8 w') := by
    obtain ⟨us, h1, h2, h3⟩ := mat_of HZ.out.2.2 (by omega) hMP (fun i hi => by
      obtain ⟨_, D, hD, _⟩ := HM.out i hi
      exact ⟨D, by rw [HZ.out.2.1]; exact hD⟩)
    rw [HZ.out.2.1] at h3
    exact sameMatrix_yes (some ⟨rb, 0, none⟩) (some ⟨db, 0, none⟩) n n n zs vs us w8 H7.out.2.1 h1 ((rows_of_at H7.out.2.2.1).keep hb) h2 (H7.out.2.2.2.keep hb) h3 (by omega)
  have H8 : Hid (Below w7.heap.size w7 w8) := hb
  clear hb hMP g0 g1 gs
  go_wp2_with fail
  refine HSA.out.mono ?_
  rintro e w9 ⟨rfl, hb⟩
  have H9 : Hid (Below w7.heap.size w7 w9) := btr H8.out hb
  clear hb HSA H8 HDX
  have HOT : Hid ((w9.alloc (.cells #[.int .i64 s, .int .i64 m, .int .i64 t] 3)).ownsRow w9.heap.size 3 1 (.slice (some ⟨w9.heap.size, 0, none⟩) 3 3) [s, m, t].length (iv [s, m, t])) := own_three w9 s m t
  have HLI : Hid (HasInts (w9.alloc (.cells #[.int .i64 s, .int .i64 m, .int .i64 t] 3)) (.slice lo l.length lc) l) := (HGX.out w9 (btr H7.out.1 H9.out)).2.1.keep (below1 _ _)
  go_wp2_with (at_builtin; refine wpList_append_ints3 rfl _ _ rfl w9.heap.size (.slice (some ⟨w9.heap.size, 0, none⟩) 3 3) [s, m, t] rfl HOT.out lo lc l rfl HLI.out HNO.out (by simp only [List.length_cons, List.length_nil]; omega) (below1 _ _).size ?_; intro av w10 hown hgr; rw [show ([s, m, t] ++ l).length = l.length + 3 by simp] at hown; obtain ⟨po, pc, hv3⟩ := iown_slice hown; subst hv3; have H10 : Hid (HasInts w10 (.slice po (l.length + 3) pc) ([s, m, t] ++ l) ∧ Below w9.heap.size w9 w10) := ⟨ints_of_iown (l := [s, m, t] ++ l) (by rw [show ([s, m, t] ++ l).length = l.length + 3 by simp]; exact hown), below_g (below1 _ _) hgr (fun k e => by cases e; exact Nat.le_refl _)⟩; clear hown hgr)
  clear HOT HLI
  have HB6 : Hid (Below w7.heap.size w7 w10 ∧ Below w6.heap.size w6 w10) := ⟨btr H9.out H10.out.2, btr H7.out.1 (btr H9.out H10.out.2)⟩
  have HAI : Hid (∀ (k : Nat) (v : Int), ([s, m, t] ++ l)[k]? = some v → ∃ b off, po = some ⟨b, off, none⟩ ∧ ∀ wx, Below w10.heap.size w10 wx → wx.cell? ⟨b, off + k, none⟩ = some (.int .i64 v) ∧ b < wx.heap.size) := fun k v hv => by
    obtain ⟨b, off, e, hlt, hc⟩ := H10.out.1.at hv
    exact ⟨b, off, e, fun wx hx => ⟨(hx.cell (p := ⟨b, off + k, none⟩) hlt).trans hc, Nat.lt_of_lt_of_le hlt hx.size⟩⟩
  have hAl : ([s, m, t] ++ l).length = l.length + 3 := by simp
  have HST : Hid (([s, m, t] ++ l)[0]? = some s ∧ ([s, m, t] ++ l)[1]? = some m ∧ ([s, m, t] ++ l)[2]? = some t ∧ ∀ v ∈ l, v ∈ [s, m, t] ++ l) := ⟨rfl, rfl, rfl, fun v hv => List.mem_append_right _ hv⟩
  generalize [s, m, t] ++ l = A at *
  go_loopw [98] (fun iv wr => ∃ k : Nat, k ≤ l.length + 3 ∧ iv = .int .i64 k ∧ Below w10.heap.size w10 wr ∧ ∀ (j : Nat) (v : Int), j < k → A[j]? = some v → 0 ≤ v ∧ v < (n : Int)) (fun iv _ => l.length + 3 - (intOf iv).toNat)
  case atStart => exact ⟨0, Nat.zero_le _, rfl, Below.refl _ _, fun j v hj => by omega⟩
  case round =>
    obtain ⟨k, hk, rfl, hbw, hall⟩ := hrel
    have HB : Hid (Below w10.heap.size w10 wr) := hbw
    have HALL : Hid (∀ (j : Nat) (v : Int), j < k → A[j]? = some v → 0 ≤ v ∧ v < (n : Int)) := hall
    obtain ⟨⟨g0, g1, gs⟩, _, hBZ⟩ := HGX.out wr (btr HB6.out.2 hbw)
    have HBZ : Hid (Below w.heap.size w wr) := hBZ
    clear hbw hall hBZ
    by_cases hlt : k < l.length + 3
    · obtain ⟨v, hv⟩ : ∃ v, A[k]? = some v := ⟨A[k]'(by omega), List.getElem?_eq_getElem _⟩
      obtain ⟨b, off, rfl, hcell⟩ := HAI.out k v hv
      obtain ⟨a0, al⟩ := hcell wr HB.out
      have HAV : Hid (A[k]? = some v) := hv
      have k1 : (k : Int) < (l.length : Int) + 3 := by omega
      have k2 : (0 : Int) ≤ (k : Int) := by omega
      clear hcell hv
      by_cases h1 : v < 0
      · have f1 : decide (v < 0) = true := decide_eq_true h1
        go_wp2
        go_ret
        exact ⟨rfl, HBZ.out⟩
      · by_cases h2 : (n : Int) ≤ v
        · have h2' : v ≥ (n : Int) := h2
          go_wp2
          go_ret
          exact ⟨rfl, HBZ.out⟩
        · have h2' : ¬ v ≥ (n : Int) := h2
          go_wp2
          go_roundw
          case rel =>
            refine ⟨k + 1, by omega, by go_num, HB.out, fun j u hj hu => ?_⟩
            rcases Nat.lt_or_ge j k with h | h
            · exact HALL.out j u h hu
            · obtain rfl : j = k := by omega
              rw [HAV.out] at hu
              cases hu
              omega
          case measure => simp [intOf]; omega
    · obtain rfl : k = l.length + 3 := by omega
      have hin : ∀ v ∈ A, 0 ≤ v ∧ v < (n : Int) := fun v hv => by
        obtain ⟨j, hj⟩ := List.getElem?_of_mem hv
        exact HALL.out j v (by have := (List.getElem?_eq_some_iff.1 hj).1; omega) hj
      have hs := HALL.out 0 s (by omega) HST.out.1
      have hm := HALL.out 1 m (by omega) HST.out.2.1
      have ht := HALL.out 2 t (by omega) HST.out.2.2.1
      have HNL : Hid (Nodes n l) := fun v hv => hin v (HST.out.2.2.2 v hv)
      obtain ⟨s', rfl⟩ : ∃ s' : Nat, s = (s' : Int) := ⟨s.toNat, by omega⟩
      obtain ⟨m', rfl⟩ : ∃ m' : Nat, m = (m' : Int) := ⟨m.toNat, by omega⟩
      obtain ⟨t', rfl⟩ : ∃ t' : Nat, t = (t' : Int) := ⟨t.toNat, by omega⟩
      clear hin HALL HAI HST
      have HLE : Hid (∃ L E, LenIs n zs l L E) := len_total n zs l
      obtain ⟨L, E, hLE⟩ := HLE.out
      have HLE' : Hid (LenIs n zs l L E) := hLE
      have HTW : Hid (∀ wx, Below w10.heap.size w10 wx → Calls Try.prog 10 #[.slice lo l.length lc] wx fun e w' => ∃ mo mc, e = .returned (.slice mo l.length mc) ∧ (HasInts w' (.slice mo l.length mc) l ∧ l.length ≤ mc) ∧ Below wx.heap.size wx w') := fun wx hx => by
        refine (twinInts_calls lo lc l wx (HGX.out wx (btr HB6.out.2 hx)).2.1 (by omega)).mono ?_
        rintro e w' ⟨mo, mc, he, ho, hb⟩
        exact ⟨mo, mc, he, ⟨ints_of_iown ho, own_cap ho⟩, hb⟩
      have HLN : Hid (∀ wx mo mc, Below w10.heap.size w10 wx → HasInts wx (.slice mo l.length mc) l → l.length ≤ mc → Calls Try.prog 5 #[.agg #[.slice (some ⟨F, 0, none⟩) (n + 1) (n + 1), .slice (some ⟨T, 0, none⟩) zs.length zs.length, .slice (some ⟨V, 0, none⟩) zs.length zs.length], .slice mo l.length mc] wx fun e w' => ∃ v, e = .returned (.tuple #[.int .u64 L, v]) ∧ IsTold w' E v ∧ Below wx.heap.size wx w') := fun wx mo mc hx h1 h2 => length_fine n zs (some ⟨F, 0, none⟩) (some ⟨T, 0, none⟩) (some ⟨V, 0, none⟩) (n + 1) zs.length zs.length wx HZ.out.1 (fun wy hy => (HXK.out wy (btr HB6.out.2 (btr hx hy))).2.2) (Nat.le_refl _) mo mc l h1 h2 (by omega) L E HLE'.out
      clear hLE HLE g0 g1 gs
      obtain ⟨⟨x0, x1, x2⟩, xl, _⟩ := HXK.out wr (btr HB6.out.2 HB.out)
      go_upto_region 17 with fail
      go_region_held3 (fun w' => w'.cell? ⟨xb, 0, none⟩ = some (.slice (some ⟨F, 0, none⟩) (n + 1) (n + 1)) ∧ w'.cell? ⟨xb, 1, none⟩ = some (.slice (some ⟨T, 0, none⟩) zs.length zs.length) ∧ w'.cell? ⟨xb, 2, none⟩ = some (.slice (some ⟨V, 0, none⟩) zs.length zs.length)) (go_keep) (first
        | (go_at_call 10; refine (HTW.out _ HB.out.drew).mono ?_; rintro r w11 ⟨mo, mc, rfl, hI, hb3⟩; have H11 : Hid (Below w10.heap.size w10 w11 ∧ HasInts w11 (.slice mo l.length mc) l ∧ l.length ≤ mc) := ⟨HB.out.drew.trans (hb3.mono HB.out.size), hI⟩; have r2 := (hb3.cell (p := ⟨xb, 0, none⟩) xl).trans x0; have r3 := (hb3.cell (p := ⟨xb, 1, none⟩) xl).trans x1; have r4 := (hb3.cell (p := ⟨xb, 2, none⟩) xl).trans x2; have rl : xb < w11.heap.size := Nat.lt_of_lt_of_le xl hb3.size; clear hb3 hI)
        | (go_at_call 5; refine (HLN.out _ mo mc H11.out.1 H11.out.2.1 H11.out.2.2).mono ?_; rintro r w12 ⟨ev, rfl, hT, hb3⟩; have H12 : Hid (Below w10.heap.size w10 w12 ∧ IsTold w12 E ev) := ⟨btr H11.out.1 hb3, hT⟩; have y2 := (hb3.cell (p := ⟨xb, 0, none⟩) rl).trans r2; have y3 := (hb3.cell (p := ⟨xb, 1, none⟩) rl).trans r3; have y4 := (hb3.cell (p := ⟨xb, 2, none⟩) rl).trans r4; clear hb3 hT))
      try clear x0 x1 x2 xl
      try clear r2 r3 r4 rl
      try clear y2 y3 y4
      have HM10 : Hid (∀ i : Nat, i < n → ∃ mb D, IsDist n zs i D ∧ ∀ wx, Below w10.heap.size w10 wx → wx.cell? ⟨rb, i, none⟩ = some (.slice (some ⟨mb, 0, none⟩) n n) ∧ rb < wx.heap.size ∧ U64s wx mb D) := fun i hi => by
        obtain ⟨mb, D, h1, h2⟩ := HM.out i hi
        exact ⟨mb, D, h1, fun wx hx => h2 wx (btr HB6.out.1 hx)⟩
      have HX10 : Hid (∀ wx, Below w10.heap.size w10 wx → (wx.cell? ⟨xb, 0, none⟩ = some (.slice (some ⟨F, 0, none⟩) (n + 1) (n + 1)) ∧ wx.cell? ⟨xb, 1, none⟩ = some (.slice (some ⟨T, 0, none⟩) zs.length zs.length) ∧ wx.cell? ⟨xb, 2, none⟩ = some (.slice (some ⟨V, 0, none⟩) zs.length zs.length)) ∧ xb < wx.heap.size ∧ CsrIn wx n zs (some ⟨F, 0, none⟩) (some ⟨T, 0, none⟩) (some ⟨V, 0, none⟩) (n + 1) zs.length zs.length) := fun wx hx => HXK.out wx (btr HB6.out.2 hx)
      have HG10 : Hid (∀ wx, Below w10.heap.size w10 wx → HasInts wx (.slice lo l.length lc) l ∧ Below w.heap.size w wx) := fun wx hx => (HGX.out wx (btr HB6.out.2 hx)).2
      have hcase : (∃ Ty x, ev = .iface Ty x) ∨ (ev = .nilIface ∧ ∃ (q a z b off mb : Nat) (D : List Int) (dz : Int), (l.length = q + 1 ∧ lo = some ⟨b, off, none⟩ ∧ a < n ∧ z < n ∧ ¬ L < dz) ∧ D[z]? = some dz ∧ ∀ wx, Below w10.heap.size w10 wx → (wx.cell? ⟨b, off, none⟩ = some (.int .i64 a) ∧ wx.cell? ⟨b, off + q, none⟩ = some (.int .i64 z) ∧ b < wx.heap.size) ∧ wx.cell? ⟨rb, a, none⟩ = some (.slice (some ⟨mb, 0, none⟩) n n) ∧ rb < wx.heap.size ∧ U64s wx mb D) := by
        rcases HLE'.out with ⟨_, _, e3⟩ | ⟨k, v, hk, hbad, _⟩ | ⟨_, k, v, u, ws, _, _, _, _, _, e3⟩ | ⟨hN, h0, ws, hw, e2, e3⟩
        · left
          exact told_iface9 H12.out.2 (by rw [e3]; simp)
        · exact absurd (HNL.out v (List.mem_of_getElem? hk)) hbad
        · left
          exact told_iface9 H12.out.2 (by rw [e3]; simp)
        · right
          have hT := H12.out.2
          rw [e3] at hT
          refine ⟨told_nil hT, ?_⟩
          obtain ⟨q, hq⟩ : ∃ q, l.length = q + 1 := ⟨l.length - 1, by have := List.length_pos_iff.2 h0; omega⟩
          obtain ⟨a0, ha⟩ : ∃ a, l[0]? = some a := ⟨l[0]'(by omega), List.getElem?_eq_getElem _⟩
          obtain ⟨z0, hz0⟩ : ∃ z, l[q]? = some z := ⟨l[q]'(by omega), List.getElem?_eq_getElem _⟩
          have ha' := hN a0 (List.mem_of_getElem? ha)
          have hz' := hN z0 (List.mem_of_getElem? hz0)
          obtain ⟨a, rfl⟩ : ∃ a : Nat, a0 = (a : Int) := ⟨a0.toNat, by omega⟩
          obtain ⟨z, rfl⟩ : ∃ z : Nat, z0 = (z : Int) := ⟨z0.toNat, by omega⟩
          obtain ⟨mb, D, hD, hrow⟩ := HM10.out a (by omega)
          obtain ⟨dz, hdz, _, _, _, hle⟩ := walk_far hD (by omega) hw hq ha hz0
          obtain ⟨b, off, e, _, _⟩ := (HG10.out w10 (Below.refl _ _)).1.at ha
          refine ⟨q, a, z, b, off, mb, D, dz, ⟨hq, e, by omega, by omega, by omega⟩, hdz, fun wx hx => ⟨?_, hrow wx hx⟩⟩
          obtain ⟨b1, off1, e1, hl1, c1⟩ := (HG10.out wx hx).1.at ha
          obtain ⟨b2, off2, e2', _, c2⟩ := (HG10.out wx hx).1.at hz0
          rw [e] at e1 e2'
          cases e1
          cases e2'
          exact ⟨by simpa using c1, c2, hl1⟩
      have H12B : Hid (Below w10.heap.size w10 w12) := H12.out.1
      clear H11 H12 HTW HLN HLE' HNL H10 H9 H7 HB HBZ HM HXK HGX HB6
      rcases hcase with ⟨Ty, x, rfl⟩ | ⟨rfl, q, a, z, b, off, mb, D, dz, ⟨hq, rfl, ha, hz, hcmp⟩, hdz, hcell⟩
      case' inl =>
        go_wp2_with fail
        go_quiet (fail)
        have HZ0 : Hid (Below w10.heap.size w10 (w12.drewN nq)) := below_drewN H12B.out nq
        generalize w12.drewN nq = wz at *
      case' inr =>
        obtain ⟨⟨c0, c1, cl⟩, d0, dl, hU⟩ := hcell w12 H12B.out
        obtain ⟨u0, ul, _⟩ := hU.at hdz
        have e1 : IntKind.i64.wrap ((l.length : Int) - 1) = (q : Int) := by rw [IntKind.wrap_i64] <;> omega
        have e2 : (q : Int) < (l.length : Int) := by omega
        have e3 : (0 : Int) ≤ (q : Int) := by omega
        have e4 : ((l.length : Int) == 0) = false := beq_eq_false_iff_ne.2 (by omega)
        have e5 : (0 : Int) < (l.length : Int) := by omega
        have e6 : (a : Int) < (n : Int) := by omega
        have e7 : (0 : Int) ≤ (a : Int) := by omega
        have e8 : (z : Int) < (n : Int) := by omega
        have e9 : (0 : Int) ≤ (z : Int) := by omega
        have e10 : decide (L < dz) = false := decide_eq_false hcmp
        have e11 : decide ((l.length : Int) = 0) = false := decide_eq_false (by omega)
        have e12 : ¬ (l.length : Int) = 0 := by omega
        clear hcell hU hq
        go_wp2_with fail
        go_quiet (fail)
        have HZ0 : Hid (Below w10.heap.size w10 (w12.drewN nq)) := below_drewN H12B.out nq
        clear c0 c1 cl d0 dl u0 ul e1 e2 e3 e4 e5 e6 e7 e8 e9 e10 e11 e12 hdz hcmp ha hz
        generalize w12.drewN nq = wz at *
      all_goals
        obtain ⟨ms, DS, hDS, hrs⟩ := HM10.out s' (by omega)
        obtain ⟨mm, DM, hDM, hrm⟩ := HM10.out m' (by omega)
        obtain ⟨dsm, hdsm, bsm⟩ := hDS.2 m' (by omega)
        obtain ⟨dmt, hdmt, bmt⟩ := hDM.2 t' (by omega)
        obtain ⟨dst, hdst, _⟩ := hDS.2 t' (by omega)
        have HDD : Hid ((IsDist n zs s' DS ∧ DS[m']? = some dsm ∧ DS[t']? = some dst) ∧ (IsDist n zs m' DM ∧ DM[t']? = some dmt)) := ⟨⟨hDS, hdsm, hdst⟩, hDM, hdmt⟩
        have HBD : Hid ((dsm ≠ 18446744073709551615 → 0 ≤ dsm ∧ dsm ≤ 140737488355328) ∧ (dmt ≠ 18446744073709551615 → 0 ≤ dmt ∧ dmt ≤ 140737488355328)) := ⟨fun h => bsm.elim (fun g => ⟨g.1, g.2.1⟩) (fun g => absurd g.1 h), fun h => bmt.elim (fun g => ⟨g.1, g.2.1⟩) (fun g => absurd g.1 h)⟩
        have HRD : Hid (∀ wx, Below w10.heap.size w10 wx → ((wx.cell? ⟨rb, s', none⟩ = some (.slice (some ⟨ms, 0, none⟩) n n) ∧ wx.cell? ⟨rb, m', none⟩ = some (.slice (some ⟨mm, 0, none⟩) n n) ∧ rb < wx.heap.size) ∧ (wx.cell? ⟨ms, m', none⟩ = some (.int .u64 dsm) ∧ wx.cell? ⟨ms, t', none⟩ = some (.int .u64 dst) ∧ ms < wx.heap.size) ∧ wx.cell? ⟨mm, t', none⟩ = some (.int .u64 dmt) ∧ mm < wx.heap.size)) := fun wx hx => by
          obtain ⟨a1, a2, a3⟩ := hrs wx hx
          obtain ⟨b1, _, b3⟩ := hrm wx hx
          obtain ⟨c1, c2, _⟩ := a3.at hdsm
          obtain ⟨d1, _, _⟩ := a3.at hdst
          obtain ⟨e1, e2, _⟩ := b3.at hdmt
          exact ⟨⟨a1, b1, a2⟩, ⟨c1, d1, c2⟩, e1, e2⟩
        have HBZ : Hid (Below w.heap.size w wz) := (HG10.out wz HZ0.out).2
        obtain ⟨⟨r1, r2, rl⟩, ⟨u1, u2, ul⟩, v1, vl⟩ := HRD.out wz HZ0.out
        have i1 : (s' : Int) < (n : Int) := by omega
        have i2 : (0 : Int) ≤ (s' : Int) := by omega
        have i3 : (m' : Int) < (n : Int) := by omega
        have i4 : (0 : Int) ≤ (m' : Int) := by omega
        have i5 : (t' : Int) < (n : Int) := by omega
        have i6 : (0 : Int) ≤ (t' : Int) := by omega
        clear hDS hrs hDM hrm hdsm hdmt hdst bsm bmt
        by_cases f1 : dsm = 18446744073709551615
        · subst f1
          go_wp2
          go_ret
          exact ⟨rfl, HBZ.out⟩
        · have f1a : (dsm == 18446744073709551615) = false := beq_eq_false_iff_ne.2 f1
          have f1b : decide (dsm = 18446744073709551615) = false := decide_eq_false f1
          by_cases f2 : dmt = 18446744073709551615
          · subst f2
            go_wp2
            go_ret
            exact ⟨rfl, HBZ.out⟩
          · have f2a : (dmt == 18446744073709551615) = false := beq_eq_false_iff_ne.2 f2
            have f2b : decide (dmt = 18446744073709551615) = false := decide_eq_false f2
            obtain ⟨p1, p2⟩ := HBD.out.1 f1
            obtain ⟨p3, p4⟩ := HBD.out.2 f2
            have HF : Hid (dsm ≠ 18446744073709551615 ∧ dmt ≠ 18446744073709551615) := ⟨f1, f2⟩
            clear HBD
            obtain ⟨⟨x0, x1, x2⟩, xl, xC⟩ := HX10.out wz HZ0.out
            go_wp2_with fail
            refine (path_known (some ⟨F, 0, none⟩) (some ⟨T, 0, none⟩) (some ⟨V, 0, none⟩) (n + 1) zs.length zs.length wz HZ.out.1 xC s' m' (by omega) (by omega) HDD.out.1.1 HDD.out.1.2.1 HF.out.1).mono ?_
            rintro e w14 ⟨g1, q1, pc1, X1, ws1, rfl, hX1, hb⟩
            have H14 : Hid (Below w10.heap.size w10 w14) := btr HZ0.out hb
            have HX1 : Hid (X1.length = q1 + 1 ∧ q1 + 1 ≤ pc1 ∧ HasInts w14 (.slice (some ⟨g1, 0, none⟩) (q1 + 1) pc1) X1 ∧ PathIs n zs s' m' dsm X1 ws1) := hX1
            clear hb hX1 x0 x1 x2 xl xC r1 r2 rl u1 u2 ul v1 vl f1 f1a f1b f2 f2a f2b
            obtain ⟨⟨x0, x1, x2⟩, xl, xC⟩ := HX10.out w14 H14.out
            go_wp2_with fail
            refine (path_known (some ⟨F, 0, none⟩) (some ⟨T, 0, none⟩) (some ⟨V, 0, none⟩) (n + 1) zs.length zs.length w14 HZ.out.1 xC m' t' (by omega) (by omega) HDD.out.2.1 HDD.out.2.2 HF.out.2).mono ?_
            rintro e w15 ⟨g2, q2, pc2, X2, ws2, rfl, hX2, hb⟩
            have H15 : Hid (Below w10.heap.size w10 w15 ∧ Below w14.heap.size w14 w15) := ⟨btr H14.out hb, hb⟩
            have HX2 : Hid (X2.length = q2 + 1 ∧ q2 + 1 ≤ pc2 ∧ HasInts w15 (.slice (some ⟨g2, 0, none⟩) (q2 + 1) pc2) X2 ∧ PathIs n zs m' t' dmt X2 ws2) := hX2
            clear hb hX2 x0 x1 x2 xl xC
            have HQ : Hid (q1 ≤ 10 ∧ q2 ≤ 10) := by
              have h1 := HX1.out.2.2.2.len
              have h2 := HX2.out.2.2.2.len
              rw [HX1.out.1] at h1
              rw [HX2.out.1] at h2
              exact ⟨by omega, by omega⟩
            have HI1 : Hid (∀ wx, Below w15.heap.size w15 wx → HasInts wx (.slice (some ⟨g1, 0, none⟩) (q1 + 1) pc1) X1) := fun wx hx => HX1.out.2.2.1.keep (btr H15.out.2 hx)
            have HI2 : Hid (∀ wx, Below w15.heap.size w15 wx → HasInts wx (.slice (some ⟨g2, 0, none⟩) (q2 + 1) pc2) X2) := fun wx hx => HX2.out.2.2.1.keep hx
            have HLA : Hid (∀ wx, Below w15.heap.size w15 wx → Calls Try.prog 5 #[.agg #[.slice (some ⟨F, 0, none⟩) (n + 1) (n + 1), .slice (some ⟨T, 0, none⟩) zs.length zs.length, .slice (some ⟨V, 0, none⟩) zs.length zs.length], .slice (some ⟨g1, 0, none⟩) (q1 + 1) pc1] wx fun e w' => e = .returned (.tuple #[.int .u64 dsm, .nilIface]) ∧ Below wx.heap.size wx w') := fun wx hx => by
              have hp := HX1.out.2.2.2
              have h := len_walk (some ⟨F, 0, none⟩) (some ⟨T, 0, none⟩) (some ⟨V, 0, none⟩) (n + 1) zs.length zs.length wx HZ.out.1 (HX10.out wx (btr H15.out.1 hx)).2.2 (Nat.le_refl _) (some ⟨g1, 0, none⟩) (q1 + 1) pc1 X1 ws1 HX1.out.1 (HI1.out wx hx) HX1.out.2.1 (by have := HQ.out; omega) hp.node (by intro h; have := HX1.out.1; rw [h] at this; simp at this) hp.walk
              rwa [hp.sum] at h
            have HLB : Hid (∀ wx, Below w15.heap.size w15 wx → Calls Try.prog 5 #[.agg #[.slice (some ⟨F, 0, none⟩) (n + 1) (n + 1), .slice (some ⟨T, 0, none⟩) zs.length zs.length, .slice (some ⟨V, 0, none⟩) zs.length zs.length], .slice (some ⟨g2, 0, none⟩) (q2 + 1) pc2] wx fun e w' => e = .returned (.tuple #[.int .u64 dmt, .nilIface]) ∧ Below wx.heap.size wx w') := fun wx hx => by
              have hp := HX2.out.2.2.2
              have h := len_walk (some ⟨F, 0, none⟩) (some ⟨T, 0, none⟩) (some ⟨V, 0, none⟩) (n + 1) zs.length zs.length wx HZ.out.1 (HX10.out wx (btr H15.out.1 hx)).2.2 (Nat.le_refl _) (some ⟨g2, 0, none⟩) (q2 + 1) pc2 X2 ws2 HX2.out.1 (HI2.out wx hx) HX2.out.2.1 (by have := HQ.out; omega) hp.node (by intro h; have := HX2.out.1; rw [h] at this; simp at this) hp.walk
              rwa [hp.sum] at h
            obtain ⟨⟨x0, x1, x2⟩, xl, _⟩ := HX10.out w15 H15.out.1
            go_wp2_with fail
            refine (HLA.out w15 (Below.refl _ _)).mono ?_
            rintro e w16 ⟨rfl, hb⟩
            have H16 : Hid (Below w15.heap.size w15 w16) := hb
            clear hb x0 x1 x2 xl
            obtain ⟨⟨x0, x1, x2⟩, xl, _⟩ := HX10.out w16 (btr H15.out.1 H16.out)
            go_wp2_with fail
            refine (HLB.out w16 H16.out).mono ?_
            rintro e w17 ⟨rfl, hb⟩
            have H17 : Hid (Below w15.heap.size w15 w17) := btr H16.out hb
            clear hb x0 x1 x2 xl
            obtain ⟨R, hR⟩ : ∃ R, X2 = (m' : Int) :: R := by
              have h0 := HX2.out.2.2.2.first
              cases hX : X2 with
              | nil => rw [hX] at h0; simp at h0
              | cons y r => rw [hX] at h0; simp at h0; exact ⟨r, by rw [h0]⟩
            have hRl : R.length = q2 := by have := HX2.out.1; rw [hR] at this; simpa using this
            have hlast : X1[q1]? = some (m' : Int) := by
              have h := HX1.out.2.2.2.last
              rw [HX1.out.1, Nat.add_sub_cancel] at h
              exact h
            have HJN : Hid (Calls Try.prog 12 #[.slice (some ⟨g1, 0, none⟩) (q1 + 1) pc1, .slice (some ⟨g2, 0, none⟩) (q2 + 1) pc2] w17 fun e w' => ∃ so sc, e = .returned (.tuple #[.slice so (q1 + 1 + q2) sc, .nilIface]) ∧ (HasInts w' (.slice so (q1 + 1 + q2) sc) (X1 ++ R) ∧ q1 + 1 + q2 ≤ sc) ∧ Below w17.heap.size w17 w') := by
              have hy := HI2.out w17 H17.out
              rw [hR] at hy
              have h := join_meet g1 0 q1 pc1 g2 0 pc2 (m' : Int) X1 R w17 HX1.out.1 (HI1.out w17 H17.out) hlast (by rw [hRl]; exact hy) (by rw [hRl]; exact HX2.out.2.1) (by rw [HX1.out.1, hRl]; have := HQ.out; omega)
              rw [hRl] at h
              refine h.mono ?_
              rintro e w' ⟨so, sc, he, ho, hb⟩
              have hJl : (X1 ++ R).length = q1 + 1 + q2 := by rw [List.length_append, HX1.out.1, hRl]
              have hI := ints_of_iown ho
              have hc := own_cap ho
              rw [hJl] at he hI hc
              exact ⟨so, sc, by rw [he]; simp [jErr], ⟨hI, hc⟩, hb⟩
            have HJW : Hid (WalkIs zs (X1 ++ R) (ws1 ++ ws2) ∧ (ws1 ++ ws2).sum = dsm + dmt ∧ Nodes n (X1 ++ R) ∧ (X1 ++ R).length = q1 + 1 + q2) := by
              have h1 := HX1.out.2.2.2
              have h2 := HX2.out.2.2.2
              have hw2 := h2.walk
              rw [hR] at hw2
              refine ⟨walk_join h1.walk HX1.out.1 hlast hw2, by rw [List.sum_append, h1.sum, h2.sum], fun v hv => ?_, by rw [List.length_append, HX1.out.1, hRl]⟩
              rcases List.mem_append.1 hv with h | h
              · exact h1.node v h
              · exact h2.node v (by rw [hR]; exact List.mem_cons_of_mem _ h)
            have HJF : Hid ((X1 ++ R)[0]? = some (s' : Int) ∧ (X1 ++ R)[q1 + q2]? = some (t' : Int)) := by
              refine ⟨by rw [List.getElem?_append_left (by have := HX1.out.1; omega)]; exact HX1.out.2.2.2.first, ?_⟩
              have h := HX2.out.2.2.2.last
              rw [HX2.out.1, Nat.add_sub_cancel, hR] at h
              cases q2 with
              | zero =>
                rw [List.getElem?_append_left (by have := HX1.out.1; omega), Nat.add_zero, hlast]
                simpa using h
              | succ q2 =>
                rw [List.getElem?_append_right (by have := HX1.out.1; omega), HX1.out.1, show q1 + (q2 + 1) - (q1 + 1) = q2 by omega]
                simpa using h
            clear hRl hlast
            go_wp2_with fail
            refine HJN.out.mono ?_
            rintro e w18 ⟨so, sc, rfl, hJ, hb⟩
            have H18 : Hid (Below w15.heap.size w15 w18 ∧ HasInts w18 (.slice so (q1 + 1 + q2) sc) (X1 ++ R) ∧ q1 + 1 + q2 ≤ sc) := ⟨btr H17.out hb, hJ⟩
            clear hb hJ HJN
            have HX2R : Hid (X2 = (m' : Int) :: R) := hR
            clear hR
            generalize X1 ++ R = J at *
            have HLJ : Hid (Calls Try.prog 5 #[.agg #[.slice (some ⟨F, 0, none⟩) (n + 1) (n + 1), .slice (some ⟨T, 0, none⟩) zs.length zs.length, .slice (some ⟨V, 0, none⟩) zs.length zs.length], .slice so (q1 + 1 + q2) sc] w18 fun e w' => e = .returned (.tuple #[.int .u64 (dsm + dmt), .nilIface]) ∧ Below w18.heap.size w18 w') := by
              have h := len_walk (some ⟨F, 0, none⟩) (some ⟨T, 0, none⟩) (some ⟨V, 0, none⟩) (n + 1) zs.length zs.length w18 HZ.out.1 (HX10.out w18 (btr H15.out.1 H18.out.1)).2.2 (Nat.le_refl _) so (q1 + 1 + q2) sc J (ws1 ++ ws2) HJW.out.2.2.2 H18.out.2.1 H18.out.2.2 (by have := HQ.out; omega) HJW.out.2.2.1 (by intro h; have := HJW.out.2.2.2; rw [h] at this; simp at this; omega) HJW.out.1
              rwa [HJW.out.2.1] at h
            obtain ⟨⟨x0, x1, x2⟩, xl, _⟩ := HX10.out w18 (btr H15.out.1 H18.out.1)
            go_wp2_with fail
            refine HLJ.out.mono ?_
            rintro e w19 ⟨rfl, hb⟩
            have H19 : Hid (Below w15.heap.size w15 w19 ∧ HasInts w19 (.slice so (q1 + 1 + q2) sc) J) := ⟨btr H18.out.1 hb, H18.out.2.1.keep hb⟩
            clear hb x0 x1 x2 xl HLJ
            have HWF : Hid (∀ ys : List Int, Nodes n ys → ∀ x ∈ ys, (Lit.int .i64 x).wf = true) := fun ys h x hx => by
              have := h x hx
              unfold Lit.wf
              rw [Bool.and_eq_true, decide_eq_true_eq, decide_eq_true_eq, show IntKind.i64.min = -9223372036854775808 from rfl, show IntKind.i64.max = 9223372036854775807 from rfl]
              omega
            have HSJ : Hid (Calls Try.prog 13 #[.slice so (q1 + 1 + q2) sc] w19 fun e w' => ∃ so2 sl sc2, e = .returned (.slice so2 sl sc2) ∧ ((simpS J).length = sl ∧ HasInts w' (.slice so2 sl sc2) (simpS J) ∧ sl ≤ sc2) ∧ Below w19.heap.size w19 w') := by
              have hJl := HJW.out.2.2.2
              have h := simple_calls so sc J w19 (by rw [hJl]; exact H19.out.2) (HWF.out J HJW.out.2.2.1) (by rw [hJl]; have := HQ.out; omega)
              rw [hJl] at h
              refine h.mono ?_
              rintro e w' ⟨so2, sc2, he, ho, hb⟩
              exact ⟨so2, _, sc2, he, ⟨rfl, ints_of_iown ho, own_cap ho⟩, hb⟩
            have hJ0 : J ≠ [] := fun h => by
              have := HJW.out.2.2.2
              rw [h] at this
              simp at this
              omega
            obtain ⟨hSN, hS0, wk, hSW, hSle⟩ := simp_len HZ.out.1 HJW.out.2.2.1 hJ0 HJW.out.1
            have HSW : Hid (Nodes n (simpS J) ∧ simpS J ≠ [] ∧ WalkIs zs (simpS J) wk) := ⟨hSN, hS0, hSW⟩
            rw [HJW.out.2.1] at hSle
            have hdk : dst ≤ wk.sum := by
              have hI := simp_all zs hJ0
              have hp := hI.pos
              have h2 := hI.last
              rw [HJW.out.2.2.2, show q1 + 1 + q2 - 1 = q1 + q2 by omega, HJF.out.2] at h2
              obtain ⟨d, g1, _, _, _, g2⟩ := walk_far (q := (simpS J).length - 1) HDD.out.1.1 (by omega) hSW (by omega) (hI.head.trans HJF.out.1) h2
              rw [HDD.out.1.2.2] at g1
              cases g1
              exact g2
            have hSl := simpS_len J
            rw [HJW.out.2.2.2] at hSl
            have HSL : Hid ((simpS J).length ≤ q1 + 1 + q2) := hSl
            clear hSN hS0 hSW hJ0 hSl
            go_wp2_with fail
            refine HSJ.out.mono ?_
            rintro e w20 ⟨so2, sl, sc2, rfl, hS, hb⟩
            have H20 : Hid (Below w15.heap.size w15 w20 ∧ (simpS J).length = sl ∧ HasInts w20 (.slice so2 sl sc2) (simpS J) ∧ sl ≤ sc2) := ⟨btr H19.out.1 hb, hS⟩
            clear hb hS HSJ
            have HLS : Hid (Calls Try.prog 5 #[.agg #[.slice (some ⟨F, 0, none⟩) (n + 1) (n + 1), .slice (some ⟨T, 0, none⟩) zs.length zs.length, .slice (some ⟨V, 0, none⟩) zs.length zs.length], .slice so2 sl sc2] w20 fun e w' => e = .returned (.tuple #[.int .u64 wk.sum, .nilIface]) ∧ Below w20.heap.size w20 w') := len_walk (some ⟨F, 0, none⟩) (some ⟨T, 0, none⟩) (some ⟨V, 0, none⟩) (n + 1) zs.length zs.length w20 HZ.out.1 (HX10.out w20 (btr H15.out.1 H20.out.1)).2.2 (Nat.le_refl _) so2 sl sc2 (simpS J) wk H20.out.2.1 H20.out.2.2.1 H20.out.2.2.2 (by have h1 := H20.out.2.1; have h2 := HSL.out; have h3 := HQ.out; omega) HSW.out.1 HSW.out.2.1 HSW.out.2.2
            obtain ⟨⟨x0, x1, x2⟩, xl, _⟩ := HX10.out w20 (btr H15.out.1 H20.out.1)
            go_wp2_with fail
            refine HLS.out.mono ?_
            rintro e w21 ⟨rfl, hb⟩
            have H21 : Hid (Below w15.heap.size w15 w21) := btr H20.out.1 hb
            clear hb x0 x1 x2 xl HLS HSW
            generalize wk.sum = kk at *
            have HSH : Hid (Calls Try.prog 14 #[.agg #[.slice (some ⟨F, 0, none⟩) (n + 1) (n + 1), .slice (some ⟨T, 0, none⟩) zs.length zs.length, .slice (some ⟨V, 0, none⟩) zs.length zs.length], .slice (some ⟨g1, 0, none⟩) (q1 + 1) pc1] w21 fun e w' => e = .returned (.tuple #[.bool true, .nilIface]) ∧ Below w21.heap.size w21 w') := by
              have hp := HX1.out.2.2.2
              have hlast := hp.last
              rw [HX1.out.1, Nat.add_sub_cancel] at hlast
              refine (shortest_ex n zs (some ⟨F, 0, none⟩) (some ⟨T, 0, none⟩) (some ⟨V, 0, none⟩) (n + 1) zs.length zs.length w21 HZ.out.1 (HX10.out w21 (btr H15.out.1 H21.out)).2.2 g1 0 pc1 q1 s' m' X1 (HI1.out w21 H21.out) (by have := HQ.out; omega) hp.first (by omega) hlast (by omega) dsm (fun wx hx => HLA.out wx (btr H21.out hx))).mono ?_
              rintro e w' ⟨b, he, ⟨D, dx, hD, hdx, hb1⟩, hb⟩
              rw [hD.unique HDD.out.1.1, HDD.out.1.2.1] at hdx
              cases hdx
              rw [he, hb1]
              exact ⟨by simp, hb⟩
            obtain ⟨⟨x0, x1, x2⟩, xl, _⟩ := HX10.out w21 (btr H15.out.1 H21.out)
            go_wp2_with fail
            refine HSH.out.mono ?_
            rintro e w22 ⟨rfl, hb⟩
            have H22 : Hid (Below w15.heap.size w15 w22) := btr H21.out hb
            clear hb x0 x1 x2 xl HSH
            obtain ⟨⟨r1, r2, rl⟩, ⟨u1, u2, ul⟩, v1, vl⟩ := HRD.out w22 (btr H15.out.1 H22.out)
            have sw : IntKind.u64.wrap (dsm + dmt) = dsm + dmt := by rw [IntKind.wrap_u64] <;> omega
            have k1 : ¬ kk > dsm + dmt := by omega
            have k2 : ¬ kk < dst := by omega
            have k3 : decide (dsm + dmt < kk) = false := decide_eq_false (by omega)
            have k4 : decide (kk < dst) = false := decide_eq_false k2
            have k5 : decide (kk > dsm + dmt) = false := decide_eq_false k1
            go_wp2_with fail
            clear r1 r2 rl u1 u2 ul v1 vl sw k1 k2 k3 k4 k5
            have HS1 : Hid (∀ wx, Below w15.heap.size w15 wx → Calls Try.prog 13 #[.slice (some ⟨g1, 0, none⟩) (q1 + 1) pc1] wx fun e w' => ∃ so sc, e = .returned (.slice so (q1 + 1) sc) ∧ HasInts w' (.slice so (q1 + 1) sc) X1 ∧ Below wx.heap.size wx w') := fun wx hx => by
              have hXl := HX1.out.1
              have hself := simp_self HX1.out.2.2.2.nodup X1.length (Nat.le_refl _)
              rw [List.take_length] at hself
              have h := simple_calls (some ⟨g1, 0, none⟩) pc1 X1 wx (by rw [hXl]; exact HI1.out wx hx) (HWF.out X1 HX1.out.2.2.2.node) (by rw [hXl]; have := HQ.out; omega)
              rw [hXl, hself, hXl] at h
              refine h.mono ?_
              rintro e w' ⟨so2, sc2, he, ho, hb⟩
              exact ⟨so2, sc2, he, ints_of_iown (l := X1) (by rw [hXl]; exact ho), hb⟩
            have HS2 : Hid (∀ wx, Below w15.heap.size w15 wx → Calls Try.prog 13 #[.slice (some ⟨g2, 0, none⟩) (q2 + 1) pc2] wx fun e w' => ∃ so sc, e = .returned (.slice so (q2 + 1) sc) ∧ HasInts w' (.slice so (q2 + 1) sc) X2 ∧ Below wx.heap.size wx w') := fun wx hx => by
              have hXl := HX2.out.1
              have hself := simp_self HX2.out.2.2.2.nodup X2.length (Nat.le_refl _)
              rw [List.take_length] at hself
              have h := simple_calls (some ⟨g2, 0, none⟩) pc2 X2 wx (by rw [hXl]; exact HI2.out wx hx) (HWF.out X2 HX2.out.2.2.2.node) (by rw [hXl]; have := HQ.out; omega)
              rw [hXl, hself, hXl] at h
              refine h.mono ?_
              rintro e w' ⟨so2, sc2, he, ho, hb⟩
              exact ⟨so2, sc2, he, ints_of_iown (l := X2) (by rw [hXl]; exact ho), hb⟩
            refine (HS1.out w22 H22.out).mono ?_
            rintro e w24 ⟨so4, sc4, rfl, hI4, hb⟩
            have H24 : Hid (Below w15.heap.size w15 w24 ∧ HasInts w24 (.slice so4 (q1 + 1) sc4) X1) := ⟨btr H22.out hb, hI4⟩
            clear hb hI4
            go_wp2_with fail
            refine (sameInts_yes (.slice so4 (q1 + 1) sc4) (.slice (some ⟨g1, 0, none⟩) (q1 + 1) pc1) X1 w24 H24.out.2 (HI1.out w24 H24.out.1) (by rw [HX1.out.1]; have := HQ.out; unfold maxLen; omega)).mono ?_
            rintro e w25 ⟨rfl, hb⟩
            have H25 : Hid (Below w15.heap.size w15 w25) := btr H24.out.1 hb
            clear hb
            go_wp2_with fail
            refine (HS2.out w25 H25.out).mono ?_
            rintro e w26 ⟨so6, sc6, rfl, hI6, hb⟩
            have H26 : Hid (Below w15.heap.size w15 w26 ∧ HasInts w26 (.slice so6 (q2 + 1) sc6) X2) := ⟨btr H25.out hb, hI6⟩
            clear hb hI6
            go_wp2_with fail
            refine (sameInts_yes (.slice so6 (q2 + 1) sc6) (.slice (some ⟨g2, 0, none⟩) (q2 + 1) pc2) X2 w26 H26.out.2 (HI2.out w26 H26.out.1) (by rw [HX2.out.1]; have := HQ.out; unfold maxLen; omega)).mono ?_
            rintro e w27 ⟨rfl, hb⟩
            have H27 : Hid (Below w.heap.size w w27) := (HG10.out w27 (btr (btr H15.out.1 H26.out.1) hb)).2
            clear hb
            go_wp2
            go_ret
            exact ⟨rfl, H27.out⟩
end Go.Proofs.Ytefcmpdnlbpjpaa
