/- the law SearchMetric at a graph that is not great. -/
import Derived.Test.YtnkfggccahohpaaSmM
import Derived.Test.YtnkfggccahohpaaSaX
import Derived.Test.YtnkfggccahohpaaScM
import Derived.Test.YtnkfggccahohpaaWjF
import Derived.BigQuiet
namespace Go.Proofs.Ytnkfggccahohpaa
open Go.RowKit Go.Extern

attribute [local go_sem] Oper.semAt_some

set_option maxRecDepth 100000 in
set_option maxHeartbeats 16000000 in
theorem metric8_near (n : Nat) (ao : Option Addr) (cap : Nat) (xs : List (Int × Int × Int)) (w : World) (hX : HasArcs w (.slice ao xs.length cap) xs) (hg : graphErr (n : Int) xs = (0, [])) (hn : n ≤ 12) (hxl : xs.length ≤ 2000) :
    Calls Try.prog 3 #[.agg #[.int .i64 n, .slice ao xs.length cap]] w fun e w' => e = .returned (.bool true) ∧ Below w.heap.size w w' := by
  obtain ⟨zs, hzs⟩ : ∃ zs, normA xs = zs := ⟨_, rfl⟩
  have hz : Fine n zs := by rw [← hzs]; exact fine_norm hg
  obtain ⟨W0, hW0⟩ : ∃ W0, w.alloc (.cells #[.int .i64 n, .slice ao xs.length cap] 24) = W0 := ⟨_, rfl⟩
  have HW0 : Hid (w.alloc (.cells #[.int .i64 n, .slice ao xs.length cap] 24) = W0) := hW0
  have hB0 : Below w.heap.size w W0 := by rw [← hW0]; exact (Below.refl _ w).alloc (Nat.le_refl _) _
  have hbx : W0.heap[w.heap.size]? = some (.cells #[.int .i64 n, .slice ao xs.length cap] 24) := by rw [← hW0]; exact heap_new _ _
  have HG : Hid (∀ wx, Below W0.heap.size W0 wx → (wx.cell? ⟨w.heap.size, 0, none⟩ = some (.int .i64 n) ∧ wx.cell? ⟨w.heap.size, 1, none⟩ = some (.slice ao xs.length cap) ∧ w.heap.size < wx.heap.size) ∧ HasArcs wx (.slice ao xs.length cap) xs ∧ Below w.heap.size w wx) := fun wx hwx => by
    have hgg := (hwx.block _ (lt_of_get hbx)).trans hbx
    have hb := hB0.trans (hwx.mono hB0.size)
    exact ⟨⟨(cell_two hgg).1, (cell_two hgg).2.1, lt_of_get hgg⟩, hX.keep hb, hb⟩
  have HFW : Hid (∀ wx, Below W0.heap.size W0 wx → Calls Try.prog 5 #[.agg #[.int .i64 n, .slice ao xs.length cap], .int .i64 12] wx fun e w' => e = .returned (.bool true) ∧ Below wx.heap.size wx w') := fun wx hwx => by
    have := few_calls (n : Int) ao cap xs 12 wx (HG.out wx hwx).2.1 (by unfold maxLen; omega)
    rwa [show fewB (n : Int) xs 12 = true from decide_eq_true ⟨hg, by omega, hxl⟩] at this
  have HBU : Hid (∀ wx, Below W0.heap.size W0 wx → Calls Try.prog 6 #[.agg #[.int .i64 n, .slice ao xs.length cap]] wx fun e w' => ∃ F T V, e = .returned (.tuple #[.agg #[.slice (some ⟨F, 0, none⟩) (n + 1) (n + 1), .slice (some ⟨T, 0, none⟩) zs.length zs.length, .slice (some ⟨V, 0, none⟩) zs.length zs.length], .nilIface]) ∧ CsrIn w' n zs (some ⟨F, 0, none⟩) (some ⟨T, 0, none⟩) (some ⟨V, 0, none⟩) (n + 1) zs.length zs.length ∧ Below wx.heap.size wx w') := fun wx hwx => by
    have := build_csr (HG.out wx hwx).2.1 hg
    rwa [hzs] at this
  have HZ : Hid (Fine n zs ∧ normA xs = zs) := ⟨hz, hzs⟩
  have HAR : Hid (∀ (k : Nat) (a : Int × Int × Int), xs[k]? = some a → (0 ≤ a.1 ∧ a.1 < (n : Int)) ∧ (0 ≤ a.2.1 ∧ a.2.1 < (n : Int)) ∧ 0 ≤ a.2.2 ∧ a.2.2 ≤ 2147483647) := fun k a ha => by
    have h := ((good_iff _ _).1 hg).2 a (List.mem_of_getElem? ha)
    unfold arcBad at h
    split at h
    · omega
    · split at h
      · omega
      · omega
  clear hW0 hB0 hbx hX hg hz hzs
  go_enter Try.func3, Try.ntmps3
  go_wp2_with fail
  rw [HW0.out]
  refine (awake8_calls W0).mono ?_
  rintro e w1 ⟨rfl, hb⟩
  have HB1 : Hid (Below W0.heap.size W0 w1) := hb
  clear hb
  obtain ⟨⟨g0, g1, gs⟩, _⟩ := HG.out w1 HB1.out
  go_wp2_with fail
  refine (HFW.out w1 HB1.out).mono ?_
  rintro e w2 ⟨rfl, hb⟩
  have HB2 : Hid (Below W0.heap.size W0 w2) := btr HB1.out hb
  clear hb HB1 g0 g1 gs
  obtain ⟨⟨g0, g1, gs⟩, _⟩ := HG.out w2 HB2.out
  go_wp2_with fail
  refine (HBU.out w2 HB2.out).mono ?_
  rintro e w3 ⟨F, T, V, rfl, hC, hb⟩
  have hal := (Below.refl _ w3).alloc (Nat.le_refl _) (.cells #[.slice (some ⟨F, 0, none⟩) (n + 1) (n + 1), .slice (some ⟨T, 0, none⟩) zs.length zs.length, .slice (some ⟨V, 0, none⟩) zs.length zs.length] 29)
  have H3 : Hid (Below W0.heap.size W0 (w3.alloc (.cells #[.slice (some ⟨F, 0, none⟩) (n + 1) (n + 1), .slice (some ⟨T, 0, none⟩) zs.length zs.length, .slice (some ⟨V, 0, none⟩) zs.length zs.length] 29)) ∧ CsrIn (w3.alloc (.cells #[.slice (some ⟨F, 0, none⟩) (n + 1) (n + 1), .slice (some ⟨T, 0, none⟩) zs.length zs.length, .slice (some ⟨V, 0, none⟩) zs.length zs.length] 29)) n zs (some ⟨F, 0, none⟩) (some ⟨T, 0, none⟩) (some ⟨V, 0, none⟩) (n + 1) zs.length zs.length) := ⟨btr (btr HB2.out hb) hal, hC.keep hal⟩
  clear hb hC hal g0 g1 gs
  go_wp2_with fail
  generalize w3.alloc (.cells #[.slice (some ⟨F, 0, none⟩) (n + 1) (n + 1), .slice (some ⟨T, 0, none⟩) zs.length zs.length, .slice (some ⟨V, 0, none⟩) zs.length zs.length] 29) = w4 at *
  refine (sMatrix_good n zs (some ⟨F, 0, none⟩) (some ⟨T, 0, none⟩) (some ⟨V, 0, none⟩) (n + 1) zs.length zs.length w4 HZ.out.1 H3.out.2 (by omega)).mono ?_
  rintro e w5 ⟨rb, vs, rfl, hvl, hRA, hMt, hb⟩
  have HB5 : Hid (Below W0.heap.size W0 w5) := btr H3.out.1 hb
  have HM : Hid (∀ i : Nat, i < n → ∃ db D, IsDist n zs i D ∧ ∀ wx, Below w5.heap.size w5 wx → wx.cell? ⟨rb, i, none⟩ = some (.slice (some ⟨db, 0, none⟩) n n) ∧ rb < wx.heap.size ∧ U64s wx db D) := fun i hi => by
    obtain ⟨v, hv⟩ : ∃ v, vs[i]? = some v := ⟨vs[i]'(by rw [hvl]; exact hi), List.getElem?_eq_getElem _⟩
    obtain ⟨db, D, rfl, hD, hU⟩ := hMt i v hv
    refine ⟨db, D, hD, fun wx hx => ?_⟩
    obtain ⟨q0, ql, _⟩ := hRA.at hv
    exact ⟨(hx.cell (p := ⟨rb, i, none⟩) ql).trans q0, Nat.lt_of_lt_of_le ql hx.size, (hx.block _ (lt_of_get hU)).trans hU⟩
  have HGX : Hid (∀ wx, Below w5.heap.size w5 wx → (wx.cell? ⟨w.heap.size, 0, none⟩ = some (.int .i64 n) ∧ wx.cell? ⟨w.heap.size, 1, none⟩ = some (.slice ao xs.length cap) ∧ w.heap.size < wx.heap.size) ∧ HasArcs wx (.slice ao xs.length cap) xs ∧ Below w.heap.size w wx) := fun wx hx => HG.out wx (btr HB5.out hx)
  clear hb hvl hRA hMt
  obtain ⟨⟨g0, g1, gs⟩, _⟩ := HGX.out w5 (Below.refl _ _)
  go_wp2_with fail
  clear g0 g1 gs
  go_loopw [46] (fun iv wr => ∃ i : Nat, i ≤ n ∧ iv = .int .i64 i ∧ Below w5.heap.size w5 wr) (fun iv _ => n - (intOf iv).toNat)
  case atStart => exact ⟨0, Nat.zero_le _, rfl, Below.refl _ _⟩
  case round =>
    obtain ⟨i, hi, rfl, hbw⟩ := hrel
    have HB : Hid (Below w5.heap.size w5 wr) := hbw
    obtain ⟨⟨g0, g1, gs⟩, _⟩ := HGX.out wr hbw
    clear hbw
    by_cases hlt : i < n
    · obtain ⟨db, D, hD, hrow⟩ := HM.out i hlt
      obtain ⟨q0, ql, hU⟩ := hrow wr HB.out
      obtain ⟨p0, pl, _⟩ := hU.at (dist_self hD hlt)
      have s1 : (i : Int) < (n : Int) := by omega
      have s2 : (0 : Int) ≤ (i : Int) := by omega
      clear hD hrow hU
      as_aux_lemma =>
        go_wp2_with fail
        go_quiet (fail)
        have HB4 : Hid (Below w5.heap.size w5 (wr.drewN nq)) := below_drewN HB.out nq
        go_wp2
        go_roundw
        case rel => exact ⟨i + 1, by omega, by go_num, HB4.out⟩
        case measure => simp [intOf]; omega
    · obtain rfl : n = i := by omega
      go_wp2_with fail
      clear g0 g1 gs
      generalize wr = wA at *
      go_loopw [71] (fun kv wr => ∃ k : Nat, k ≤ xs.length ∧ kv = .int .i64 k ∧ Below w5.heap.size w5 wr) (fun kv _ => xs.length - (intOf kv).toNat)
      case atStart => exact ⟨0, Nat.zero_le _, rfl, HB.out⟩
      case round =>
        obtain ⟨k, hk, rfl, hbw⟩ := hrel
        have HB2 : Hid (Below w5.heap.size w5 wr) := hbw
        by_cases hlt2 : k < xs.length
        · obtain ⟨a, ha⟩ : ∃ a, xs[k]? = some a := ⟨xs[k], List.getElem?_eq_getElem hlt2⟩
          obtain ⟨b, off, rfl, bl, p0, p1, p2⟩ := (HGX.out wr hbw).2.1.at ha
          obtain ⟨⟨h1, h2⟩, ⟨h3, h4⟩, h5, h6⟩ := HAR.out k a ha
          obtain ⟨a0, a1, a2⟩ := a
          simp only at p0 p1 p2 h1 h2 h3 h4 h5 h6
          obtain ⟨u, rfl⟩ : ∃ u : Nat, a0 = (u : Int) := ⟨a0.toNat, by omega⟩
          obtain ⟨v, rfl⟩ : ∃ v : Nat, a1 = (v : Int) := ⟨a1.toNat, by omega⟩
          obtain ⟨db, D, hD, hrow⟩ := HM.out u (by omega)
          obtain ⟨z, hzv, _⟩ := hD.2 v (by omega)
          have hle : ¬ z > a2 := by
            have := dist_arc (xs := xs) (by rw [HZ.out.2]; exact hD) (by omega) (by omega) h5 (List.mem_of_getElem? ha) hzv
            omega
          have hal : Below wr.heap.size wr (wr.alloc (.cells #[.int .i64 u, .int .i64 v, .int .i64 a2] 40)) := (Below.refl _ wr).alloc (Nat.le_refl _) _
          have H6 : Hid (Below w5.heap.size w5 (wr.alloc (.cells #[.int .i64 u, .int .i64 v, .int .i64 a2] 40)) ∧ (wr.alloc (.cells #[.int .i64 u, .int .i64 v, .int .i64 a2] 40)).heap[wr.heap.size]? = some (.cells #[.int .i64 u, .int .i64 v, .int .i64 a2] 40)) := ⟨btr hbw hal, heap_new _ _⟩
          have s0 : IntKind.u64.wrap a2 = a2 := by rw [IntKind.wrap_u64] <;> omega
          have s1 : (u : Int) < (n : Int) := by omega
          have s2 : (0 : Int) ≤ (u : Int) := by omega
          have s3 : (v : Int) < (n : Int) := by omega
          have s4 : (0 : Int) ≤ (v : Int) := by omega
          have s5 : (k : Int) < (xs.length : Int) := by omega
          have s6 : (0 : Int) ≤ (k : Int) := by omega
          clear hal hbw hD ha
          go_upto_region 18 with fail
          generalize wr.alloc (.cells #[.int .i64 u, .int .i64 v, .int .i64 a2] 40) = w6 at *
          generalize wr.heap.size = hf at *
          clear p0 p1 p2 bl
          obtain ⟨q0, ql, hU⟩ := hrow w6 H6.out.1
          obtain ⟨q1, ql1, _⟩ := hU.at hzv
          obtain ⟨e0, e1, e2⟩ := box3 H6.out.2
          have el := lt_of_get H6.out.2
          clear hrow hU hzv
          as_aux_lemma =>
            go_quiet (fail)
            have HB4 : Hid (Below w5.heap.size w5 (w6.drewN nq)) := below_drewN H6.out.1 nq
            go_wp2
            go_roundw
            case rel => exact ⟨k + 1, by omega, by go_num, HB4.out⟩
            case measure => simp [intOf]; omega
        · obtain rfl : k = xs.length := by omega
          clear hbw
          go_wp2_with fail
          generalize wr = wB at *
          go_loopw [91] (fun iv wr => ∃ i : Nat, i ≤ n ∧ iv = .int .i64 i ∧ Below w5.heap.size w5 wr) (fun iv _ => n - (intOf iv).toNat)
          case atStart => exact ⟨0, Nat.zero_le _, rfl, HB2.out⟩
          case round =>
            obtain ⟨i, hi3, rfl, hbw⟩ := hrel
            have HB3 : Hid (Below w5.heap.size w5 wr) := hbw
            clear hbw
            by_cases hin : i < n
            · obtain ⟨da, A, hA, hrowA⟩ := HM.out i hin
              have HA : Hid (IsDist n zs i A ∧ ∀ wx, Below w5.heap.size w5 wx → wx.cell? ⟨rb, i, none⟩ = some (.slice (some ⟨da, 0, none⟩) n n) ∧ rb < wx.heap.size ∧ U64s wx da A) := ⟨hA, hrowA⟩
              have s1 : (i : Int) < (n : Int) := by omega
              have s2 : (0 : Int) ≤ (i : Int) := by omega
              clear hA hrowA
              go_wp2_with fail
              generalize wr = wC at *
              go_loopw [96] (fun jv wr => ∃ j : Nat, j ≤ n ∧ jv = .int .i64 j ∧ Below w5.heap.size w5 wr) (fun jv _ => n - (intOf jv).toNat)
              case atStart => exact ⟨0, Nat.zero_le _, rfl, HB3.out⟩
              case round =>
                obtain ⟨j, hj4, rfl, hbw⟩ := hrel
                have HB4 : Hid (Below w5.heap.size w5 wr) := hbw
                clear hbw
                by_cases hjn : j < n
                · obtain ⟨z, hz, hzd⟩ := HA.out.1.2 j hjn
                  have HJ : Hid (A[j]? = some z ∧ ((0 ≤ z ∧ z ≤ 140737488355328) ∨ z = 18446744073709551615)) := ⟨hz, hzd.elim (fun h => Or.inl ⟨h.1, h.2.1⟩) (fun h => Or.inr h.1)⟩
                  have s3 : (j : Int) < (n : Int) := by omega
                  have s4 : (0 : Int) ≤ (j : Int) := by omega
                  clear hz hzd
                  go_wp2_with fail
                  generalize wr = wD at *
                  go_loopw [101] (fun kv wr => ∃ k : Nat, k ≤ n ∧ kv = .int .i64 k ∧ Below w5.heap.size w5 wr) (fun kv _ => n - (intOf kv).toNat)
                  case atStart => exact ⟨0, Nat.zero_le _, rfl, HB4.out⟩
                  case round =>
                    obtain ⟨k, hk5, rfl, hbw⟩ := hrel
                    have HB5 : Hid (Below w5.heap.size w5 wr) := hbw
                    obtain ⟨q0, ql, hUA⟩ := HA.out.2 wr hbw
                    obtain ⟨q1, ql1, _⟩ := hUA.at HJ.out.1
                    by_cases hkn : k < n
                    · obtain ⟨dk, B, hBk, hrowB⟩ := HM.out k hkn
                      obtain ⟨q2, _, hUB⟩ := hrowB wr hbw
                      obtain ⟨x, hx, _⟩ := HA.out.1.2 k hkn
                      obtain ⟨y, hy, _⟩ := hBk.2 j hjn
                      obtain ⟨q3, _, _⟩ := hUA.at hx
                      obtain ⟨q4, ql4, _⟩ := hUB.at hy
                      have s5 : (k : Int) < (n : Int) := by omega
                      have s6 : (0 : Int) ≤ (k : Int) := by omega
                      have HT : Hid (x ≠ 18446744073709551615 → y ≠ 18446744073709551615 → z ≤ x + y ∧ 0 ≤ x ∧ x ≤ 140737488355328 ∧ 0 ≤ y ∧ y ≤ 140737488355328) := fun h1 h2 => dist_tri HA.out.1 hBk hkn hjn hx hy HJ.out.1 h1 h2
                      clear hBk hrowB hUA hUB hx hy hbw
                      by_cases hxf : x = 18446744073709551615
                      · subst hxf
                        as_aux_lemma =>
                          go_wp2_with fail
                          go_quiet (fail)
                          have HB6 : Hid (Below w5.heap.size w5 (wr.drewN nq)) := below_drewN HB5.out nq
                          go_wp2
                          go_roundw
                          case rel => exact ⟨k + 1, by omega, by go_num, HB6.out⟩
                          case measure => simp [intOf]; omega
                      · have fx1 : (x == 18446744073709551615) = false := beq_eq_false_iff_ne.2 hxf
                        have fx2 : (x != 18446744073709551615) = true := bne_iff_ne.2 hxf
                        have fx3 : decide (x = 18446744073709551615) = false := decide_eq_false hxf
                        by_cases hyf : y = 18446744073709551615
                        · subst hyf
                          as_aux_lemma =>
                            go_wp2_with fail
                            go_quiet (fail)
                            have HB6 : Hid (Below w5.heap.size w5 (wr.drewN nq)) := below_drewN HB5.out nq
                            go_wp2
                            go_roundw
                            case rel => exact ⟨k + 1, by omega, by go_num, HB6.out⟩
                            case measure => simp [intOf]; omega
                        · have ht := HT.out hxf hyf
                          have fy1 : (y == 18446744073709551615) = false := beq_eq_false_iff_ne.2 hyf
                          have fy2 : (y != 18446744073709551615) = true := bne_iff_ne.2 hyf
                          have fy3 : decide (y = 18446744073709551615) = false := decide_eq_false hyf
                          have s7 : IntKind.u64.wrap (x + y) = x + y := by rw [IntKind.wrap_u64] <;> omega
                          have s8 : ¬ z > x + y := by omega
                          clear ht
                          as_aux_lemma =>
                            go_wp2_with fail
                            go_quiet (fail)
                            have HB6 : Hid (Below w5.heap.size w5 (wr.drewN nq)) := below_drewN HB5.out nq
                            go_wp2
                            go_roundw
                            case rel => exact ⟨k + 1, by omega, by go_num, HB6.out⟩
                            case measure => simp [intOf]; omega
                    · obtain rfl : n = k := by omega
                      clear hUA hbw
                      by_cases hij : i = j
                      · subst hij
                        go_wp2
                        go_roundw
                        case rel => exact ⟨i + 1, by omega, by go_num, HB5.out⟩
                        case measure => simp [intOf]; omega
                      · have hij1 : ¬ (i : Int) = (j : Int) := by omega
                        have fi1 : ((i : Int) == (j : Int)) = false := beq_eq_false_iff_ne.2 hij1
                        have fi2 : ((i : Int) != (j : Int)) = true := bne_iff_ne.2 hij1
                        have fi3 : decide ((i : Int) = (j : Int)) = false := decide_eq_false hij1
                        by_cases hzf : z = 18446744073709551615
                        · subst hzf
                          go_wp2
                          go_roundw
                          case rel => exact ⟨j + 1, by omega, by go_num, HB5.out⟩
                          case measure => simp [intOf]; omega
                        · have fz1 : (z == 18446744073709551615) = false := beq_eq_false_iff_ne.2 hzf
                          have fz2 : (z != 18446744073709551615) = true := bne_iff_ne.2 hzf
                          have fz3 : decide (z = 18446744073709551615) = false := decide_eq_false hzf
                          obtain ⟨u0, r0, y0, hmem, hu1, hu2, hAy, hyf, hyr⟩ := dist_last (xs := xs) (by rw [HZ.out.2]; exact HZ.out.1) (by rw [HZ.out.2]; exact HA.out.1) hjn hij HJ.out.1 hzf
                          obtain ⟨qq, hqq⟩ := List.getElem?_of_mem hmem
                          have HQ : Hid (xs[qq]? = some ((u0 : Int), (j : Int), r0) ∧ u0 ≠ j ∧ A[u0]? = some y0 ∧ y0 ≠ 18446744073709551615 ∧ y0 + r0 = z) := ⟨hqq, hu2, hAy, hyf, hyr⟩
                          obtain ⟨⟨g0, g1, gs⟩, _⟩ := HGX.out wr HB5.out
                          clear hmem hu1 hu2 hAy hyf hyr hqq
                          go_wp2_with fail
                          clear g0 g1 gs q0 ql q1 ql1
                          generalize wr = wE at *
                          go_loopw [13, 164] (fun bv kv wr => ∃ (k : Nat) (b : Bool), k ≤ xs.length ∧ kv = .int .i64 k ∧ bv = .bool b ∧ (b = true ∨ k ≤ qq) ∧ Below w5.heap.size w5 wr) (fun _ kv _ => xs.length - (intOf kv).toNat)
                          case atStart => exact ⟨0, false, Nat.zero_le _, rfl, rfl, Or.inr (Nat.zero_le _), HB5.out⟩
                          case round =>
                            obtain ⟨k, b, hk6, rfl, rfl, hbq, hbw⟩ := hrel
                            have HB7 : Hid (Below w5.heap.size w5 wr) := hbw
                            by_cases hkl : k < xs.length
                            · obtain ⟨a, ha⟩ : ∃ a, xs[k]? = some a := ⟨xs[k], List.getElem?_eq_getElem hkl⟩
                              obtain ⟨ab, off, rfl, bl, p0, p1, p2⟩ := (HGX.out wr hbw).2.1.at ha
                              obtain ⟨⟨h1, h2⟩, ⟨h3, h4⟩, h5, h6⟩ := HAR.out k a ha
                              obtain ⟨a0, a1, a2⟩ := a
                              simp only at p0 p1 p2 h1 h2 h3 h4 h5 h6
                              obtain ⟨u, rfl⟩ : ∃ u : Nat, a0 = (u : Int) := ⟨a0.toNat, by omega⟩
                              obtain ⟨v, rfl⟩ : ∃ v : Nat, a1 = (v : Int) := ⟨a1.toNat, by omega⟩
                              obtain ⟨y, hy, hyd⟩ := HA.out.1.2 u (by omega)
                              have HY : Hid (y ≠ 18446744073709551615 → 0 ≤ y ∧ y ≤ 140737488355328) := fun h => by
                                rcases hyd with h' | h'
                                · exact ⟨h'.1, h'.2.1⟩
                                · exact absurd h'.1 h
                              have HNQ : Hid ((v ≠ j ∨ u = j ∨ y = 18446744073709551615 ∨ y + a2 ≠ z) → k ≤ qq → k + 1 ≤ qq) := fun h hq => by
                                rcases Nat.lt_or_ge k qq with h' | h'
                                · exact h'
                                · obtain rfl : k = qq := by omega
                                  obtain ⟨g1, g2, g3, g4, g5⟩ := HQ.out
                                  rw [ha] at g1
                                  injection g1 with g1
                                  injection g1 with e1 e2
                                  injection e2 with e2 e3
                                  have eu : u = u0 := by omega
                                  have ev : v = j := by omega
                                  subst eu
                                  subst e3
                                  rw [hy] at g3
                                  injection g3 with g3
                                  subst g3
                                  rcases h with h | h | h | h
                                  · exact absurd ev h
                                  · exact absurd h g2
                                  · exact absurd h g4
                                  · exact absurd g5 h
                              have hal : Below wr.heap.size wr (wr.alloc (.cells #[.int .i64 u, .int .i64 v, .int .i64 a2] 40)) := (Below.refl _ wr).alloc (Nat.le_refl _) _
                              have H6 : Hid (Below w5.heap.size w5 (wr.alloc (.cells #[.int .i64 u, .int .i64 v, .int .i64 a2] 40)) ∧ (wr.alloc (.cells #[.int .i64 u, .int .i64 v, .int .i64 a2] 40)).heap[wr.heap.size]? = some (.cells #[.int .i64 u, .int .i64 v, .int .i64 a2] 40)) := ⟨btr hbw hal, heap_new _ _⟩
                              have s0 : IntKind.u64.wrap a2 = a2 := by rw [IntKind.wrap_u64] <;> omega
                              have t1 : (u : Int) < (n : Int) := by omega
                              have t2 : (0 : Int) ≤ (u : Int) := by omega
                              have t5 : (k : Int) < (xs.length : Int) := by omega
                              have t6 : (0 : Int) ≤ (k : Int) := by omega
                              have HYA : Hid (A[u]? = some y) := hy
                              clear hal hbw ha hyd hy
                              go_upto_region 38 with fail
                              generalize wr.alloc (.cells #[.int .i64 u, .int .i64 v, .int .i64 a2] 40) = w6 at *
                              generalize wr.heap.size = hf at *
                              clear p0 p1 p2 bl
                              obtain ⟨q0, ql, hU⟩ := HA.out.2 w6 H6.out.1
                              obtain ⟨q1, ql1, _⟩ := hU.at HJ.out.1
                              obtain ⟨q2, _, _⟩ := hU.at HYA.out
                              obtain ⟨e0, e1, e2⟩ := box3 H6.out.2
                              have el := lt_of_get H6.out.2
                              clear hU
                              cases b with
                              | true =>
                                as_aux_lemma =>
                                  go_quiet (fail)
                                  have HB8 : Hid (Below w5.heap.size w5 (w6.drewN nq)) := below_drewN H6.out.1 nq
                                  go_wp2
                                  go_roundw
                                  case rel => exact ⟨k + 1, true, by omega, by go_num, rfl, Or.inl rfl, HB8.out⟩
                                  case measure => simp [intOf]; omega
                              | false =>
                                have hkq : k ≤ qq := by
                                  rcases hbq with h | h
                                  · cases h
                                  · exact h
                                clear hbq
                                by_cases c1 : v = j
                                · obtain rfl : j = v := c1.symm
                                  by_cases c2 : u = j
                                  · have hn2 := HNQ.out (Or.inr (Or.inl c2)) hkq
                                    obtain rfl : j = u := c2.symm
                                    as_aux_lemma =>
                                      go_quiet (fail)
                                      have HB8 : Hid (Below w5.heap.size w5 (w6.drewN nq)) := below_drewN H6.out.1 nq
                                      go_wp2
                                      go_roundw
                                      case rel => exact ⟨k + 1, false, by omega, by go_num, rfl, Or.inr hn2, HB8.out⟩
                                      case measure => simp [intOf]; omega
                                  · have c2' : ¬ (u : Int) = (j : Int) := by omega
                                    have fu1 : ((u : Int) == (j : Int)) = false := beq_eq_false_iff_ne.2 c2'
                                    have fu2 : ((u : Int) != (j : Int)) = true := bne_iff_ne.2 c2'
                                    have fu3 : decide ((u : Int) = (j : Int)) = false := decide_eq_false c2'
                                    by_cases c3 : y = 18446744073709551615
                                    · have hn2 := HNQ.out (Or.inr (Or.inr (Or.inl c3))) hkq
                                      subst c3
                                      as_aux_lemma =>
                                        go_quiet (fail)
                                        have HB8 : Hid (Below w5.heap.size w5 (w6.drewN nq)) := below_drewN H6.out.1 nq
                                        go_wp2
                                        go_roundw
                                        case rel => exact ⟨k + 1, false, by omega, by go_num, rfl, Or.inr hn2, HB8.out⟩
                                        case measure => simp [intOf]; omega
                                    · have hyr := HY.out c3
                                      have fw1 : (y == 18446744073709551615) = false := beq_eq_false_iff_ne.2 c3
                                      have fw2 : (y != 18446744073709551615) = true := bne_iff_ne.2 c3
                                      have fw3 : decide (y = 18446744073709551615) = false := decide_eq_false c3
                                      have s7 : IntKind.u64.wrap (y + a2) = y + a2 := by rw [IntKind.wrap_u64] <;> omega
                                      by_cases c4 : y + a2 = z
                                      · clear hyr
                                        subst c4
                                        as_aux_lemma =>
                                          go_quiet (fail)
                                          have HB8 : Hid (Below w5.heap.size w5 (w6.drewN nq)) := below_drewN H6.out.1 nq
                                          go_wp2
                                          go_roundw
                                          case rel => exact ⟨k + 1, true, by omega, by go_num, rfl, Or.inl rfl, HB8.out⟩
                                          case measure => simp [intOf]; omega
                                      · have hn2 := HNQ.out (Or.inr (Or.inr (Or.inr c4))) hkq
                                        have fs1 : ((y + a2) == z) = false := beq_eq_false_iff_ne.2 c4
                                        have fs2 : ((y + a2) != z) = true := bne_iff_ne.2 c4
                                        have fs3 : decide ((y + a2) = z) = false := decide_eq_false c4
                                        clear hyr
                                        as_aux_lemma =>
                                          go_quiet (fail)
                                          have HB8 : Hid (Below w5.heap.size w5 (w6.drewN nq)) := below_drewN H6.out.1 nq
                                          go_wp2
                                          go_roundw
                                          case rel => exact ⟨k + 1, false, by omega, by go_num, rfl, Or.inr hn2, HB8.out⟩
                                          case measure => simp [intOf]; omega
                                · have hn2 := HNQ.out (Or.inl c1) hkq
                                  have c1' : ¬ (v : Int) = (j : Int) := by omega
                                  have fv1 : ((v : Int) == (j : Int)) = false := beq_eq_false_iff_ne.2 c1'
                                  have fv2 : ((v : Int) != (j : Int)) = true := bne_iff_ne.2 c1'
                                  have fv3 : decide ((v : Int) = (j : Int)) = false := decide_eq_false c1'
                                  as_aux_lemma =>
                                    go_quiet (fail)
                                    have HB8 : Hid (Below w5.heap.size w5 (w6.drewN nq)) := below_drewN H6.out.1 nq
                                    go_wp2
                                    go_roundw
                                    case rel => exact ⟨k + 1, false, by omega, by go_num, rfl, Or.inr hn2, HB8.out⟩
                                    case measure => simp [intOf]; omega
                            · obtain rfl : k = xs.length := by omega
                              have hbt : b = true := by
                                rcases hbq with h | h
                                · exact h
                                · have := (List.getElem?_eq_some_iff.1 HQ.out.1).1
                                  omega
                              subst hbt
                              clear hbw
                              go_wp2
                              go_roundw
                              case rel => exact ⟨j + 1, by omega, by go_num, HB7.out⟩
                              case measure => simp [intOf]; omega
                · obtain rfl : n = j := by omega
                  go_wp2
                  go_roundw
                  case rel => exact ⟨i + 1, by omega, by go_num, HB4.out⟩
                  case measure => simp [intOf]; omega
            · obtain rfl : n = i := by omega
              have HBY : Hid (Below w.heap.size w wr) := (HGX.out wr HB3.out).2.2
              go_wp2
              go_ret
              exact ⟨rfl, HBY.out⟩
end Go.Proofs.Ytnkfggccahohpaa
