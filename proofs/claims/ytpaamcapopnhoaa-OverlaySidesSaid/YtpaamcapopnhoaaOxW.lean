/- OverlaySides, walked. -/
import Derived.Test.YtpaamcapopnhoaaOxM
import Derived.Test.YtpaamcapopnhoaaOwI
import Derived.Deep.QuietTactic
import Derived.BigQuiet
import Derived.Deep.Cut
namespace Go.Proofs.Ytpaamcapopnhoaa
open Go.RowKit Go.Extern Go.Sort

attribute [local go_sem] Oper.semAt_some

set_option maxRecDepth 100000 in
set_option maxHeartbeats 4000000 in
theorem sides_good (n : Nat) (ao : Option Addr) (cap : Nat) (xs : List (Int × Int × Int)) (w : World) (hX : HasArcs w (.slice ao xs.length cap) xs) (hxl : xs.length ≤ maxLen) (hfew : fewB (n : Int) xs 30 = true) (hg : graphErr (n : Int) xs = (0, [])) (oo : Option Addr) (oc : Nat) (ops : List Op5) (hO : HasOp5 w (.slice oo ops.length oc) ops) (h300 : ops.length ≤ 300) :
    Calls Try.prog 3 #[.agg #[.int .i64 (n : Int), .slice ao xs.length cap], .slice oo ops.length oc] w fun e w' => e = .returned (.bool true) ∧ Below w.heap.size w w' := by
  obtain ⟨W0, hW0⟩ : ∃ W0, w.alloc (.cells #[.int .i64 (n : Int), .slice ao xs.length cap] 24) = W0 := ⟨_, rfl⟩
  have HW0 : Hid (w.alloc (.cells #[.int .i64 (n : Int), .slice ao xs.length cap] 24) = W0) := hW0
  have hB0 : Below w.heap.size w W0 := by rw [← hW0]; exact (Below.refl _ w).alloc (Nat.le_refl _) _
  have hbx : W0.heap[w.heap.size]? = some (.cells #[.int .i64 (n : Int), .slice ao xs.length cap] 24) := by rw [← hW0]; exact heap_new _ _
  have HG : Hid (∀ wx, Below W0.heap.size W0 wx → (wx.cell? ⟨w.heap.size, 0, none⟩ = some (.int .i64 (n : Int)) ∧ wx.cell? ⟨w.heap.size, 1, none⟩ = some (.slice ao xs.length cap) ∧ w.heap.size < wx.heap.size) ∧ HasArcs wx (.slice ao xs.length cap) xs ∧ HasOp5 wx (.slice oo ops.length oc) ops ∧ Below w.heap.size w wx) := fun wx hwx => by
    have hgg := (hwx.block _ (lt_of_get hbx)).trans hbx
    have hb := hB0.trans (hwx.mono hB0.size)
    exact ⟨⟨(cell_two hgg).1, (cell_two hgg).2.1, lt_of_get hgg⟩, hX.keep hb, hO.keep hb, hb⟩
  have HAW : Hid (type_of% (awake11_calls W0)) := awake11_calls W0
  have HFW : Hid (∀ wx, Below W0.heap.size W0 wx → Calls Try.prog 7 #[.agg #[.int .i64 (n : Int), .slice ao xs.length cap], .int .i64 30] wx fun e w' => e = .returned (.bool true) ∧ Below wx.heap.size wx w') := fun wx hwx => by
    have h := few_calls (n : Int) ao cap xs 30 wx (HG.out wx hwx).2.1 hxl
    rw [hfew] at h
    exact h
  have HNW : Hid (∀ wx, Below W0.heap.size W0 wx → Calls Try.prog 8 #[.agg #[.int .i64 (n : Int), .slice ao xs.length cap]] wx fun e w' => ∃ pb R, e = .returned (.tuple #[.pointer (some ⟨pb, 0, none⟩), .nilIface]) ∧ OvN noP wx.heap.size w' pb n (List.replicate n true) R ∧ Below wx.heap.size wx w') := fun wx hwx => by
    refine (ovn_new (n := n) ao xs.length cap xs wx (HG.out wx hwx).2.1 hg).mono ?_
    rintro e w' ⟨pb, R, rfl, h1, _, h2⟩
    exact ⟨pb, R, rfl, h1, h2⟩
  clear hW0 hB0 hbx hX hO hfew hg
  go_enter Try.func3, Try.ntmps3
  go_wp2_with fail
  rw [HW0.out]
  refine HAW.out.mono ?_
  rintro e w1 ⟨rfl, hb1⟩
  have HB1 : Hid (Below W0.heap.size W0 w1) := hb1
  obtain ⟨⟨c0, c1, cs⟩, _, _, _⟩ := HG.out w1 hb1
  clear hb1
  go_wp2_with fail
  refine (HFW.out w1 HB1.out).mono ?_
  rintro e w2 ⟨rfl, hb2⟩
  have HB2 : Hid (Below W0.heap.size W0 w2) := HB1.out.trans (hb2.mono HB1.out.size)
  clear hb2 c0 c1 cs
  obtain ⟨⟨c0, c1, cs⟩, _, hop, _⟩ := HG.out w2 HB2.out
  have HOP : Hid (HasOp5 w2 (.slice oo ops.length oc) ops) := hop
  clear hop
  go_wp2_with fail
  refine (HNW.out w2 HB2.out).mono ?_
  rintro e w3 ⟨pb, R0, rfl, hO3, hb3⟩
  have HH3 : Hid (OvN noP w2.heap.size w3 pb n (List.replicate n true) R0 ∧ Below w2.heap.size w2 w3) := ⟨hO3, hb3⟩
  clear hO3 hb3 c0 c1 cs
  go_wp2_with fail
  go_loopw [44] (fun iv wr => ∃ (k : Nat) (bs : List Bool) (R : Bool → Nat → Rw), k ≤ ops.length ∧ iv = .int .i64 (k : Nat) ∧ OvN noP w2.heap.size wr pb n bs R ∧ Below w2.heap.size w2 wr) (fun iv _ => ops.length - (intOf iv).toNat)
  case atStart => exact ⟨0, _, R0, Nat.zero_le _, rfl, HH3.out.1, HH3.out.2⟩
  case round =>
    obtain ⟨k, bs, R, hkl, rfl, hOv, hB⟩ := hrel
    by_cases hlt : k < ops.length
    · obtain ⟨q, hq⟩ : ∃ q, ops[k]? = some q := ⟨ops[k], List.getElem?_eq_getElem hlt⟩
      obtain ⟨b, off, rfl, bl, e0, e1, e2, e3, e4⟩ := (HOP.out.keep hB).at hq
      obtain ⟨kd, x, y, wt, via⟩ := q
      simp only at e0 e1 e2 e3 e4
      have hGd := IsOv.guard hOv (opObj (kd, x, y, wt, via))
      obtain ⟨Wa, hWa⟩ : ∃ Wa, wr.alloc (.cells #[.int .u8 kd, .int .i64 x, .int .i64 y, .int .u64 wt, .int .i64 via] 35) = Wa := ⟨_, rfl⟩
      have hGa : OvN (P1 wr.heap.size (opObj (kd, x, y, wt, via))) w2.heap.size Wa pb n bs R := by rw [← hWa]; exact hGd
      have bWa : Below w2.heap.size w2 Wa := by rw [← hWa]; exact hB.alloc (IsOv.size hOv) _
      have HWA : Hid (wr.alloc (.cells #[.int .u8 kd, .int .i64 x, .int .i64 y, .int .u64 wt, .int .i64 via] 35) = Wa) := hWa
      have HGA : Hid (OvN (P1 wr.heap.size (opObj (kd, x, y, wt, via))) w2.heap.size Wa pb n bs R ∧ Below w2.heap.size w2 Wa) := ⟨hGa, bWa⟩
      obtain ⟨g0, g1, g2, g3, g4, gl⟩ := op_cells (IsOv.seen hGa)
      simp only at g0 g1 g2 g3 g4
      have i1 : (k : Int) < (ops.length : Int) := by omega
      have i2 : (0 : Int) ≤ (k : Int) := by omega
      clear hWa hGd hGa bWa hOv hB hq
      by_cases hk1 : kd = 1
      · subst hk1
        as_aux_lemma =>
          go_wp2_with fail
          rw [HWA.out]
          go_wp2_with fail
          refine (HGA.out.1.put x y wt via).mono ?_
          rintro e wc ⟨b1, v1, R1, rfl, hOc, hbc⟩
          have HGC : Hid (OvN (P1 wr.heap.size (opObj (1, x, y, wt, via))) w2.heap.size wc pb n bs R1 ∧ Below w2.heap.size w2 wc) := ⟨hOc, HGA.out.2.trans hbc⟩
          clear hOc hbc g0 g1 g2 g3 g4 gl e0 e1 e2 e3 e4 bl
          obtain ⟨g0, g1, g2, g3, g4, gl⟩ := op_cells (IsOv.seen HGC.out.1)
          simp only at g0 g1 g2 g3 g4
          go_wp2
          go_roundw
          case rel => exact ⟨k + 1, bs, R1, by omega, by go_num, IsOv.drop HGC.out.1, HGC.out.2⟩
          case measure => simp [intOf]; omega
      · by_cases hk2 : kd = 2
        · subst hk2
          as_aux_lemma =>
            go_wp2_with fail
            rw [HWA.out]
            go_wp2_with fail
            refine (HGA.out.1.remove x).mono ?_
            rintro e wc ⟨v1, bs1, R1, rfl, hOc, hbc⟩
            have HGC : Hid (OvN (P1 wr.heap.size (opObj (2, x, y, wt, via))) w2.heap.size wc pb n bs1 R1 ∧ Below w2.heap.size w2 wc) := ⟨hOc, HGA.out.2.trans hbc⟩
            clear hOc hbc g0 g1 g2 g3 g4 gl e0 e1 e2 e3 e4 bl
            go_wp2
            go_roundw
            case rel => exact ⟨k + 1, bs1, R1, by omega, by go_num, IsOv.drop HGC.out.1, HGC.out.2⟩
            case measure => simp [intOf]; omega
        · skip
          as_aux_lemma =>
            go_wp2_with fail
            rw [HWA.out]
            go_wp2
            go_roundw
            case rel => exact ⟨k + 1, bs, R, by omega, by go_num, IsOv.drop HGA.out.1, HGA.out.2⟩
            case measure => simp [intOf]; omega
    · obtain rfl : k = ops.length := by omega
      as_aux_lemma =>
        have HZ : Hid (OvN noP w2.heap.size wr pb n bs R ∧ Below W0.heap.size W0 wr) := ⟨hOv, HB2.out.trans (hB.mono HB2.out.size)⟩
        have HIV : Hid (OvInv n bs R ∧ ∀ s v, v < n → (rowL bs R s v).length ≤ 65536) := ⟨IsOv.inv hOv, fun s v hv => IsOv.rowLe hOv s hv⟩
        have HN : Hid (n ≤ 65536) := (IsOv.bl hOv).2
        have HOU : Hid (∀ v, v < n → ∀ wx, Below wr.heap.size wr wx → Calls Try.prog 11 #[.pointer (some ⟨pb, 0, none⟩), .int .i64 (v : Int)] wx fun e w' => ∃ so sc, e = .returned (.slice so (rowL bs R false v).length sc) ∧ HasHs w' (.slice so (rowL bs R false v).length sc) (rowL bs R false v) ∧ Below wr.heap.size wr w') := fun v hv wx hx => by
          refine (IsOv.outL (IsOv.keep hOv hx) hv).mono ?_
          rintro e w' ⟨so, sc, rfl, h1, h2⟩
          exact ⟨so, sc, rfl, h1, btr hx h2⟩
        have HIN : Hid (∀ v, v < n → ∀ wx, Below wr.heap.size wr wx → Calls Try.prog 12 #[.pointer (some ⟨pb, 0, none⟩), .int .i64 (v : Int)] wx fun e w' => ∃ so sc, e = .returned (.slice so (rowL bs R true v).length sc) ∧ HasHs w' (.slice so (rowL bs R true v).length sc) (rowL bs R true v) ∧ Below wx.heap.size wx w') := fun v hv wx hx => IsOv.inL (IsOv.keep hOv hx) hv
        have HAL : Hid (∀ v, v < n → ∀ wx, Below wr.heap.size wr wx → Calls Try.prog 13 #[.pointer (some ⟨pb, 0, none⟩), .int .i64 (v : Int)] wx fun e w' => e = .returned (.bool (liv bs v)) ∧ w' = wx) := fun v hv wx hx => by
          have h := IsOv.alive (IsOv.keep hOv hx) (v : Int)
          rw [alive_liv hv] at h
          exact h
        have HWT : Hid (∀ x y k, weightM n bs R x y = some k → ∀ wx, Below wr.heap.size wr wx → Calls Try.prog 14 #[.pointer (some ⟨pb, 0, none⟩), .int .i64 x, .int .i64 y] wx fun e w' => e = .returned (.tuple #[.int .u64 k, .bool true]) ∧ Below wx.heap.size wx w') := fun x y k hk wx hx => by
          have h := IsOv.weight (IsOv.keep hOv hx) x y
          rw [hk] at h
          exact h
        have HLA : Hid (∀ wx, Below wr.heap.size wr wx → Calls Try.prog 15 #[.pointer (some ⟨pb, 0, none⟩)] wx fun e w' => e = .returned (.int .i64 (arcSum n bs R : Nat)) ∧ w' = wx) := fun wx hx => IsOv.narcs (IsOv.keep hOv hx)
        have HLL : Hid (∀ wx, Below wr.heap.size wr wx → Calls Try.prog 16 #[.pointer (some ⟨pb, 0, none⟩)] wx fun e w' => e = .returned (.int .i64 (aliveN n bs : Nat)) ∧ w' = wx) := fun wx hx => IsOv.len (IsOv.keep hOv hx)
        have HF : Hid (∀ wx, Below wr.heap.size wr wx → Below w.heap.size w wx) := fun wx hx => (HG.out wx (btr HZ.out.2 hx)).2.2.2
        obtain ⟨⟨c0, c1, cs⟩, _⟩ := HG.out wr HZ.out.2
        clear hOv hB hlt hkl
        go_wp2_with fail
        clear c0 c1 cs
        generalize wr = Z at *
        go_loopw [9, 10, 71] (fun v9 v10 iv wr => ∃ k : Nat, k ≤ n ∧ v9 = .int .i64 (sumN k (fun u => (rowL bs R false u).length) : Nat) ∧ v10 = .int .i64 (sumN k (fun u => if liv bs u then 1 else 0) : Nat) ∧ iv = .int .i64 (k : Nat) ∧ Below Z.heap.size Z wr) (fun _ _ iv _ => n - (intOf iv).toNat)
        case atStart => exact ⟨0, Nat.zero_le _, rfl, rfl, rfl, Below.refl _ _⟩
        case round =>
          obtain ⟨v, hvn, rfl, rfl, rfl, hbw⟩ := hrel
          have HB4 : Hid (Below Z.heap.size Z wr) := hbw
          clear hbw
          by_cases hlt : v < n
          · have i1 : (v : Int) < (n : Int) := by omega
            have i2 : (0 : Int) ≤ (v : Int) := by omega
            have i3 : (v : Int) < 65536 := by have := HN.out; omega
            obtain ⟨A, hA⟩ : ∃ A, sumN v (fun u => (rowL bs R false u).length) = A := ⟨_, rfl⟩
            obtain ⟨C, hC⟩ : ∃ C, sumN v (fun u => if liv bs u then 1 else 0) = C := ⟨_, rfl⟩
            have HAC : Hid (sumN v (fun u => (rowL bs R false u).length) = A ∧ sumN v (fun u => if liv bs u then 1 else 0) = C ∧ A ≤ 4294967296 ∧ C ≤ 65536) := by
              refine ⟨hA, hC, ?_, ?_⟩
              · have h1 := sumN_le v (fun u => (rowL bs R false u).length) 65536 (fun i hi => HIV.out.2 false i (by omega))
                have h2 := HN.out
                rw [hA] at h1
                omega
              · have h1 := sumN_le v (fun u => if liv bs u then 1 else 0) 1 (fun i hi => by split <;> omega)
                have h2 := HN.out
                rw [hC] at h1
                omega
            rw [hA, hC]
            clear hA hC
            obtain ⟨LO, hLO⟩ : ∃ LO, rowL bs R false v = LO := ⟨_, rfl⟩
            obtain ⟨LI, hLI⟩ : ∃ LI, rowL bs R true v = LI := ⟨_, rfl⟩
            have hou := HOU.out v hlt wr HB4.out
            have hin := HIN.out v hlt
            have hll := HIV.out.2 false v hlt
            have hlj := HIV.out.2 true v hlt
            rw [hLO] at hou hll
            simp only [hLI] at hin hlj
            have HOUv : Hid (type_of% hou) := hou
            have HINv : Hid (type_of% hin) := hin
            have HLEN : Hid (rowL bs R false v = LO ∧ rowL bs R true v = LI ∧ LO.length ≤ 65536 ∧ LI.length ≤ 65536) := ⟨hLO, hLI, hll, hlj⟩
            clear hou hin hll hlj hLO hLI
            go_wp2_with fail
            refine HOUv.out.mono ?_
            rintro e w5 ⟨so, sc, rfl, hs5, hb5⟩
            have H5 : Hid (HasHs w5 (.slice so LO.length sc) LO ∧ Below Z.heap.size Z w5) := ⟨hs5, hb5⟩
            clear hs5 hb5
            go_wp2_with fail
            refine (HINv.out w5 H5.out.2).mono ?_
            rintro e w6 ⟨ti, tc, rfl, hs6, hb6⟩
            have HL : Hid (∀ wx, Below w6.heap.size w6 wx → HasHs wx (.slice so LO.length sc) LO ∧ HasHs wx (.slice ti LI.length tc) LI ∧ Below Z.heap.size Z wx) := fun wx hx => ⟨(H5.out.1.keep hb6).keep hx, hs6.keep hx, btr (btr H5.out.2 hb6) hx⟩
            have HZ6 : Hid (Below Z.heap.size Z w6) := btr H5.out.2 hb6
            clear hs6 hb6
            cases hlv : liv bs v with
            | false =>
              have hal := HAL.out v hlt w6 HZ6.out
              rw [hlv] at hal
              have HALv : Hid (type_of% hal) := hal
              obtain rfl : LO = [] := by rw [← HLEN.out.1]; exact rowL_dead HIV.out.1 false hlt hlv
              obtain rfl : LI = [] := by rw [← HLEN.out.2.1]; exact rowL_dead HIV.out.1 true hlt hlv
              have HSA : Hid (sumN (v + 1) (fun u => (rowL bs R false u).length) = A ∧ sumN (v + 1) (fun u => if liv bs u then 1 else 0) = C) := by
                obtain ⟨h1, h2, _, _⟩ := HAC.out
                refine ⟨?_, ?_⟩
                · simp only [sumN]
                  rw [h1, HLEN.out.1]
                  rfl
                · simp only [sumN]
                  rw [h2, hlv]
                  rfl
              have jA : IntKind.i64.wrap ((A : Int) + 0) = (A : Int) := by have := HAC.out; rw [IntKind.wrap_i64] <;> omega
              have jA' : IntKind.i64.wrap (A : Int) = (A : Int) := by have := HAC.out; rw [IntKind.wrap_i64] <;> omega
              clear hal hlv
              as_aux_lemma =>
                simp only [List.length_nil]
                go_wp2_with fail
                refine HALv.out.mono ?_
                rintro e wy ⟨rfl, hw⟩
                subst hw
                go_wp2_with fail
                generalize wy = w6 at *
                go_loopw [97] (fun iv wr => iv = .int .i64 0 ∧ wr = w6) (fun iv _ => 0)
                case atStart => exact ⟨rfl, rfl⟩
                case round =>
                  obtain ⟨rfl, rfl⟩ := hrel
                  go_wp2_with fail
                  generalize wr = w6 at *
                  go_loopw [182] (fun iv wr => iv = .int .i64 0 ∧ wr = w6) (fun iv _ => 0)
                  case atStart => exact ⟨rfl, rfl⟩
                  case round =>
                    obtain ⟨rfl, rfl⟩ := hrel
                    go_wp2
                    exact ⟨⟨v + 1, by omega, by rw [HSA.out.1], by rw [HSA.out.2], by go_num, HZ6.out⟩, by simp [intOf]; omega⟩
            | true =>
              have hal := HAL.out v hlt w6 HZ6.out
              rw [hlv] at hal
              have HALv : Hid (type_of% hal) := hal
              have HSA : Hid (sumN (v + 1) (fun u => (rowL bs R false u).length) = A + LO.length ∧ sumN (v + 1) (fun u => if liv bs u then 1 else 0) = C + 1) := by
                obtain ⟨h1, h2, _, _⟩ := HAC.out
                refine ⟨?_, ?_⟩
                · simp only [sumN]
                  rw [h1, HLEN.out.1]
                · simp only [sumN]
                  rw [h2, hlv]
                  rfl
              have jA : IntKind.i64.wrap ((A : Int) + (LO.length : Int)) = (((A + LO.length : Nat)) : Int) := by have := HAC.out; have := HLEN.out; rw [IntKind.wrap_i64] <;> omega
              have jC : IntKind.i64.wrap ((C : Int) + 1) = ((C + 1 : Nat) : Int) := by have := HAC.out; rw [IntKind.wrap_i64] <;> omega
              obtain ⟨A1, hA1⟩ : ∃ A1, A + LO.length = A1 := ⟨_, rfl⟩
              obtain ⟨C1, hC1⟩ : ∃ C1, C + 1 = C1 := ⟨_, rfl⟩
              rw [hA1] at jA
              rw [hC1] at jC
              have HS1 : Hid (sumN (v + 1) (fun u => (rowL bs R false u).length) = A1 ∧ sumN (v + 1) (fun u => if liv bs u then 1 else 0) = C1) := ⟨HSA.out.1.trans hA1, HSA.out.2.trans hC1⟩
              have HRI : Hid (∀ (i r : Nat) (a b : H3), r < i → (LO[r]? = some a → LO[i]? = some b → a.1 < b.1) ∧ (LI[r]? = some a → LI[i]? = some b → a.1 < b.1)) := fun i r a b hr => by
                have q1 := rowL_rise HIV.out.1 false hlt
                have q2 := rowL_rise HIV.out.1 true hlt
                rw [HLEN.out.1] at q1
                rw [HLEN.out.2.1] at q2
                exact ⟨fun h1 h2 => q1.lt h1 h2 hr, fun h1 h2 => q2.lt h1 h2 hr⟩
              clear hal hlv hA1 hC1 HSA
              have i4 : (LO.length : Int) ≤ 65536 := by have := HLEN.out; omega
              have i5 : (LI.length : Int) ≤ 65536 := by have := HLEN.out; omega
              as_aux_lemma =>
                go_wp2_with fail
                refine HALv.out.mono ?_
                rintro e wy ⟨rfl, hw⟩
                subst hw
                go_wp2_with fail
                generalize wy = w6 at *
                go_loopw [97] (fun iv wr => ∃ i : Nat, i ≤ LO.length ∧ iv = .int .i64 (i : Nat) ∧ Below w6.heap.size w6 wr) (fun iv _ => LO.length - (intOf iv).toNat)
                case atStart => exact ⟨0, Nat.zero_le _, rfl, Below.refl _ _⟩
                case round =>
                  obtain ⟨i, hil, rfl, hbw⟩ := hrel
                  have HB7 : Hid (Below w6.heap.size w6 wr) := hbw
                  clear hbw
                  by_cases hli : i < LO.length
                  · generalize wr = wA at *
                    obtain ⟨a, ha⟩ : ∃ a, LO[i]? = some a := ⟨LO[i], List.getElem?_eq_getElem hli⟩
                    obtain ⟨lb, lof, rfl, bl, p0, p1, p2⟩ := (HL.out wA HB7.out).1.at ha
                    have hmem : a ∈ rowL bs R false v := by rw [HLEN.out.1]; exact List.mem_of_getElem? ha
                    obtain ⟨m, hm, hmn, lm, _, hmv, hback⟩ := rowL_at HIV.out.1 false hlt hmem
                    have hwt := HWT.out _ _ _ (rowL_weight HIV.out.1 hlt hmem)
                    have hal := HAL.out m hmn
                    have hin := HIN.out m hmn
                    have hll := HIV.out.2 true m hmn
                    rw [lm] at hal
                    obtain ⟨LM, hLM⟩ : ∃ LM, rowL bs R true m = LM := ⟨_, rfl⟩
                    simp only [Bool.not_false, hLM] at hback hin hll
                    obtain ⟨qq, hqq⟩ := List.getElem?_of_mem hback
                    have i6 : (LM.length : Int) ≤ 65536 := by omega
                    obtain ⟨a0, a1, a2⟩ := a
                    simp only at hm hwt hqq p0 p1 p2
                    subst hm
                    have HWv : Hid (type_of% hwt) := hwt
                    have HAm : Hid (type_of% hal) := hal
                    have HIm : Hid (type_of% hin) := hin
                    have HQQ : Hid (LM[qq]? = some ((v : Int), a1, a2)) := hqq
                    have HA3 : Hid (LO[i]? = some ((m : Int), a1, a2)) := ha
                    obtain ⟨Wa, hWa⟩ : ∃ Wa, wA.alloc (.cells #[.int .i64 (m : Int), .int .u64 a1, .int .i64 a2] 43) = Wa := ⟨_, rfl⟩
                    have HWA : Hid (wA.alloc (.cells #[.int .i64 (m : Int), .int .u64 a1, .int .i64 a2] 43) = Wa) := hWa
                    have HBA : Hid (Below w6.heap.size w6 Wa) := by show Below _ _ _; rw [← hWa]; exact HB7.out.alloc HB7.out.size _
                    have HCA : Hid (∀ wx, Below Wa.heap.size Wa wx → (wx.cell? ⟨wA.heap.size, 0, none⟩ = some (.int .i64 (m : Int)) ∧ wx.cell? ⟨wA.heap.size, 1, none⟩ = some (.int .u64 a1) ∧ wx.cell? ⟨wA.heap.size, 2, none⟩ = some (.int .i64 a2) ∧ wA.heap.size < wx.heap.size) ∧ Below w6.heap.size w6 wx ∧ Below Z.heap.size Z wx) := fun wx hx => by
                      have h := heap_new wA (.cells #[.int .i64 (m : Int), .int .u64 a1, .int .i64 a2] 43)
                      rw [hWa] at h
                      have hgg := (hx.block _ (lt_of_get h)).trans h
                      exact ⟨⟨by simp [World.cell?, hgg], by simp [World.cell?, hgg], by simp [World.cell?, hgg], lt_of_get hgg⟩, btr HBA.out hx, (HL.out wx (btr HBA.out hx)).2.2⟩
                    obtain ⟨⟨g0, g1, g2, gs⟩, _, _⟩ := HCA.out Wa (Below.refl _ _)
                    have s1 : (i : Int) < (LO.length : Int) := by omega
                    have s2 : (0 : Int) ≤ (i : Int) := by omega
                    have hmv' : ((m : Int) == (v : Int)) = false := beq_eq_false_iff_ne.2 (by omega)
                    clear ha hmem hwt hal hin hll hLM hback hqq hWa lm
                    as_aux_lemma =>
                      go_wp2_with fail
                      rw [HWA.out]
                      by_cases hi0 : i = 0
                      · subst hi0
                        have cb : decide ((0 : Int) < ((0 : Nat) : Int)) = false := rfl
                        as_aux_lemma =>
                          go_wp2_with fail
                          go_quiet (first | (go_at_call 13; exact Calls.quiet_of_same (HAm.out _ (below_drewN (HCA.out Wa (Below.refl _ _)).2.2 _))))
                          clear p0 p1 p2 bl
                          have HBQ : Hid (Below Wa.heap.size Wa (Wa.drewN nq)) := below_drewN (Below.refl _ _) nq
                          generalize Wa.drewN nq = wq at *
                          clear g0 g1 g2 gs
                          obtain ⟨⟨g0, g1, g2, gs⟩, _, hzq⟩ := HCA.out wq HBQ.out
                          have HZQ : Hid (Below Z.heap.size Z wq) := hzq
                          clear hzq
                          go_wp2_with fail
                          refine (HWv.out wq HZQ.out).mono ?_
                          rintro e wb ⟨rfl, hbb⟩
                          have HBB : Hid (Below Wa.heap.size Wa wb) := btr HBQ.out hbb
                          clear hbb g0 g1 g2 gs
                          obtain ⟨⟨g0, g1, g2, gs⟩, _, hzq⟩ := HCA.out wb HBB.out
                          have HZB : Hid (Below Z.heap.size Z wb) := hzq
                          clear hzq
                          go_wp2_with fail
                          refine (HIm.out wb HZB.out).mono ?_
                          rintro e w8 ⟨mo, mc, rfl, hs8, hb8⟩
                          have HM8 : Hid (∀ wx, Below w8.heap.size w8 wx → HasHs wx (.slice mo LM.length mc) LM ∧ Below Wa.heap.size Wa wx) := fun wx hx => ⟨hs8.keep hx, btr (btr HBB.out hb8) hx⟩
                          clear hs8 hb8 g0 g1 g2 gs
                          go_wp2_with fail
                          go_loopw [18, 141] (fun bv kv wr => ∃ (k : Nat) (b : Bool), k ≤ LM.length ∧ bv = .bool b ∧ kv = .int .i64 (k : Nat) ∧ (b = true ∨ k ≤ qq) ∧ Below w8.heap.size w8 wr) (fun _ kv _ => LM.length - (intOf kv).toNat)
                          case atStart => exact ⟨0, false, Nat.zero_le _, rfl, rfl, Or.inr (Nat.zero_le _), Below.refl _ _⟩
                          case round =>
                            obtain ⟨k, b, hkl, rfl, rfl, hbq, hbw⟩ := hrel
                            have HB9 : Hid (Below w8.heap.size w8 wr) := hbw
                            have HBQQ : Hid (b = true ∨ k ≤ qq) := hbq
                            clear hbw hbq
                            by_cases hk : k < LM.length
                            · obtain ⟨c, hc⟩ : ∃ c, LM[k]? = some c := ⟨LM[k], List.getElem?_eq_getElem hk⟩
                              obtain ⟨mb, mof, rfl, ml, m0, m1, m2⟩ := (HM8.out wr HB9.out).1.at hc
                              have HNQ : Hid ((¬ c.1 = (v : Int) ∨ ¬ c.2.1 = a1 ∨ ¬ c.2.2 = a2) → k ≤ qq → k + 1 ≤ qq) := fun h hq => by
                                rcases Nat.lt_or_ge k qq with h' | h'
                                · exact h'
                                · obtain rfl : k = qq := by omega
                                  rw [HQQ.out] at hc
                                  cases hc
                                  simp at h
                              obtain ⟨Wc, hWc⟩ : ∃ Wc, wr.alloc (.cells #[.int .i64 c.1, .int .u64 c.2.1, .int .i64 c.2.2] 43) = Wc := ⟨_, rfl⟩
                              have HWC : Hid (wr.alloc (.cells #[.int .i64 c.1, .int .u64 c.2.1, .int .i64 c.2.2] 43) = Wc) := hWc
                              have HBC : Hid (Below w8.heap.size w8 Wc) := by show Below _ _ _; rw [← hWc]; exact HB9.out.alloc HB9.out.size _
                              have hnew := heap_new wr (.cells #[.int .i64 c.1, .int .u64 c.2.1, .int .i64 c.2.2] 43)
                              rw [hWc] at hnew
                              have n0 : Wc.cell? ⟨wr.heap.size, 0, none⟩ = some (.int .i64 c.1) := by simp [World.cell?, hnew]
                              have n1 : Wc.cell? ⟨wr.heap.size, 1, none⟩ = some (.int .u64 c.2.1) := by simp [World.cell?, hnew]
                              have n2 : Wc.cell? ⟨wr.heap.size, 2, none⟩ = some (.int .i64 c.2.2) := by simp [World.cell?, hnew]
                              have ns : wr.heap.size < Wc.heap.size := lt_of_get hnew
                              obtain ⟨⟨g0, g1, g2, gs⟩, _, _⟩ := HCA.out Wc (HM8.out Wc HBC.out).2
                              have t1 : (k : Int) < (LM.length : Int) := by omega
                              have t2 : (0 : Int) ≤ (k : Int) := by omega
                              obtain ⟨c0, c1, c2⟩ := c
                              simp only at m0 m1 m2 n0 n1 n2
                              clear hc hnew hWc
                              cases b with
                              | true =>
                                as_aux_lemma =>
                                  go_wp2_with fail
                                  rw [HWC.out]
                                  go_wp2
                                  go_roundw
                                  case rel => exact ⟨k + 1, true, by omega, rfl, by go_num, Or.inl rfl, HBC.out⟩
                                  case measure => simp [intOf]; omega
                              | false =>
                                by_cases d0 : c0 = (v : Int)
                                · by_cases d1 : c1 = a1
                                  · by_cases d2 : c2 = a2
                                    · subst d0
                                      subst d1
                                      subst d2
                                      as_aux_lemma =>
                                        go_upto_region 36 with fail
                                        rw [HWC.out]
                                        go_wp2
                                        go_roundw
                                        case rel => exact ⟨k + 1, true, by omega, rfl, by go_num, Or.inl rfl, HBC.out⟩
                                        case measure => simp [intOf]; omega
                                    · have f2 : (c2 == a2) = false := beq_eq_false_iff_ne.2 d2
                                      have HKQ : Hid (k + 1 ≤ qq) := HNQ.out (Or.inr (Or.inr d2)) (HBQQ.out.resolve_left (by simp))
                                      clear d2
                                      subst d0
                                      subst d1
                                      as_aux_lemma =>
                                        go_upto_region 36 with fail
                                        rw [HWC.out]
                                        go_wp2
                                        go_roundw
                                        case rel => exact ⟨k + 1, false, by omega, rfl, by go_num, Or.inr HKQ.out, HBC.out⟩
                                        case measure => simp [intOf]; omega
                                  · have f1 : (c1 == a1) = false := beq_eq_false_iff_ne.2 d1
                                    have HKQ : Hid (k + 1 ≤ qq) := HNQ.out (Or.inr (Or.inl d1)) (HBQQ.out.resolve_left (by simp))
                                    clear d1
                                    subst d0
                                    as_aux_lemma =>
                                      go_upto_region 36 with fail
                                      rw [HWC.out]
                                      go_wp2
                                      go_roundw
                                      case rel => exact ⟨k + 1, false, by omega, rfl, by go_num, Or.inr HKQ.out, HBC.out⟩
                                      case measure => simp [intOf]; omega
                                · have f0 : (c0 == (v : Int)) = false := beq_eq_false_iff_ne.2 d0
                                  have HKQ : Hid (k + 1 ≤ qq) := HNQ.out (Or.inl d0) (HBQQ.out.resolve_left (by simp))
                                  clear d0
                                  as_aux_lemma =>
                                    go_wp2_with fail
                                    rw [HWC.out]
                                    go_wp2
                                    go_roundw
                                    case rel => exact ⟨k + 1, false, by omega, rfl, by go_num, Or.inr HKQ.out, HBC.out⟩
                                    case measure => simp [intOf]; omega
                            · obtain rfl : k = LM.length := by omega
                              obtain rfl : b = true := HBQQ.out.resolve_right (fun h => by have := (List.getElem?_eq_some_iff.1 HQQ.out).1; omega)
                              obtain ⟨⟨g0, g1, g2, gs⟩, hb6, _⟩ := HCA.out wr (HM8.out wr HB9.out).2
                              have HB6 : Hid (Below w6.heap.size w6 wr) := hb6
                              clear hb6
                              as_aux_lemma =>
                                go_wp2
                                go_roundw
                                case rel => exact ⟨1, by omega, by go_num, HB6.out⟩
                                case measure => simp [intOf]; omega
                      · obtain ⟨r, rfl⟩ : ∃ r, i = r + 1 := ⟨i - 1, by omega⟩
                        obtain ⟨b, hb⟩ : ∃ b, LO[r]? = some b := ⟨LO[r]'(by omega), List.getElem?_eq_getElem (by omega)⟩
                        obtain ⟨lb', lof', he, _, q0, q1, q2⟩ := (HL.out Wa HBA.out).1.at hb
                        cases he
                        have hab := (HRI.out (r + 1) r b _ (by omega)).1 hb HA3.out
                        obtain ⟨b0, b1, b2⟩ := b
                        simp only at q0 q1 q2 hab
                        have cb : decide ((0 : Int) < ((r + 1 : Nat) : Int)) = true := decide_eq_true (by omega)
                        have j6 : IntKind.i64.wrap (((r + 1 : Nat) : Int) - 1) = (r : Int) := by rw [IntKind.wrap_i64] <;> omega
                        have j7 : (r : Int) < (LO.length : Int) := by omega
                        have j8 : (0 : Int) ≤ (r : Int) := by omega
                        have cc : decide ((m : Int) ≤ b0) = false := decide_eq_false (by omega)
                        clear hb
                        as_aux_lemma =>
                          go_wp2_with fail
                          go_quiet (first | (go_at_call 13; exact Calls.quiet_of_same (HAm.out _ (below_drewN (HCA.out Wa (Below.refl _ _)).2.2 _))))
                          clear p0 p1 p2 bl q0 q1 q2 j6 j7 j8 cc
                          have HBQ : Hid (Below Wa.heap.size Wa (Wa.drewN nq)) := below_drewN (Below.refl _ _) nq
                          generalize Wa.drewN nq = wq at *
                          clear g0 g1 g2 gs
                          obtain ⟨⟨g0, g1, g2, gs⟩, _, hzq⟩ := HCA.out wq HBQ.out
                          have HZQ : Hid (Below Z.heap.size Z wq) := hzq
                          clear hzq
                          go_wp2_with fail
                          refine (HWv.out wq HZQ.out).mono ?_
                          rintro e wb ⟨rfl, hbb⟩
                          have HBB : Hid (Below Wa.heap.size Wa wb) := btr HBQ.out hbb
                          clear hbb g0 g1 g2 gs
                          obtain ⟨⟨g0, g1, g2, gs⟩, _, hzq⟩ := HCA.out wb HBB.out
                          have HZB : Hid (Below Z.heap.size Z wb) := hzq
                          clear hzq
                          go_wp2_with fail
                          refine (HIm.out wb HZB.out).mono ?_
                          rintro e w8 ⟨mo, mc, rfl, hs8, hb8⟩
                          have HM8 : Hid (∀ wx, Below w8.heap.size w8 wx → HasHs wx (.slice mo LM.length mc) LM ∧ Below Wa.heap.size Wa wx) := fun wx hx => ⟨hs8.keep hx, btr (btr HBB.out hb8) hx⟩
                          clear hs8 hb8 g0 g1 g2 gs
                          go_wp2_with fail
                          go_loopw [18, 141] (fun bv kv wr => ∃ (k : Nat) (b : Bool), k ≤ LM.length ∧ bv = .bool b ∧ kv = .int .i64 (k : Nat) ∧ (b = true ∨ k ≤ qq) ∧ Below w8.heap.size w8 wr) (fun _ kv _ => LM.length - (intOf kv).toNat)
                          case atStart => exact ⟨0, false, Nat.zero_le _, rfl, rfl, Or.inr (Nat.zero_le _), Below.refl _ _⟩
                          case round =>
                            obtain ⟨k, b, hkl, rfl, rfl, hbq, hbw⟩ := hrel
                            have HB9 : Hid (Below w8.heap.size w8 wr) := hbw
                            have HBQQ : Hid (b = true ∨ k ≤ qq) := hbq
                            clear hbw hbq
                            by_cases hk : k < LM.length
                            · obtain ⟨c, hc⟩ : ∃ c, LM[k]? = some c := ⟨LM[k], List.getElem?_eq_getElem hk⟩
                              obtain ⟨mb, mof, rfl, ml, m0, m1, m2⟩ := (HM8.out wr HB9.out).1.at hc
                              have HNQ : Hid ((¬ c.1 = (v : Int) ∨ ¬ c.2.1 = a1 ∨ ¬ c.2.2 = a2) → k ≤ qq → k + 1 ≤ qq) := fun h hq => by
                                rcases Nat.lt_or_ge k qq with h' | h'
                                · exact h'
                                · obtain rfl : k = qq := by omega
                                  rw [HQQ.out] at hc
                                  cases hc
                                  simp at h
                              obtain ⟨Wc, hWc⟩ : ∃ Wc, wr.alloc (.cells #[.int .i64 c.1, .int .u64 c.2.1, .int .i64 c.2.2] 43) = Wc := ⟨_, rfl⟩
                              have HWC : Hid (wr.alloc (.cells #[.int .i64 c.1, .int .u64 c.2.1, .int .i64 c.2.2] 43) = Wc) := hWc
                              have HBC : Hid (Below w8.heap.size w8 Wc) := by show Below _ _ _; rw [← hWc]; exact HB9.out.alloc HB9.out.size _
                              have hnew := heap_new wr (.cells #[.int .i64 c.1, .int .u64 c.2.1, .int .i64 c.2.2] 43)
                              rw [hWc] at hnew
                              have n0 : Wc.cell? ⟨wr.heap.size, 0, none⟩ = some (.int .i64 c.1) := by simp [World.cell?, hnew]
                              have n1 : Wc.cell? ⟨wr.heap.size, 1, none⟩ = some (.int .u64 c.2.1) := by simp [World.cell?, hnew]
                              have n2 : Wc.cell? ⟨wr.heap.size, 2, none⟩ = some (.int .i64 c.2.2) := by simp [World.cell?, hnew]
                              have ns : wr.heap.size < Wc.heap.size := lt_of_get hnew
                              obtain ⟨⟨g0, g1, g2, gs⟩, _, _⟩ := HCA.out Wc (HM8.out Wc HBC.out).2
                              have t1 : (k : Int) < (LM.length : Int) := by omega
                              have t2 : (0 : Int) ≤ (k : Int) := by omega
                              obtain ⟨c0, c1, c2⟩ := c
                              simp only at m0 m1 m2 n0 n1 n2
                              clear hc hnew hWc
                              cases b with
                              | true =>
                                as_aux_lemma =>
                                  go_wp2_with fail
                                  rw [HWC.out]
                                  go_wp2
                                  go_roundw
                                  case rel => exact ⟨k + 1, true, by omega, rfl, by go_num, Or.inl rfl, HBC.out⟩
                                  case measure => simp [intOf]; omega
                              | false =>
                                by_cases d0 : c0 = (v : Int)
                                · by_cases d1 : c1 = a1
                                  · by_cases d2 : c2 = a2
                                    · subst d0
                                      subst d1
                                      subst d2
                                      as_aux_lemma =>
                                        go_upto_region 36 with fail
                                        rw [HWC.out]
                                        go_wp2
                                        go_roundw
                                        case rel => exact ⟨k + 1, true, by omega, rfl, by go_num, Or.inl rfl, HBC.out⟩
                                        case measure => simp [intOf]; omega
                                    · have f2 : (c2 == a2) = false := beq_eq_false_iff_ne.2 d2
                                      have HKQ : Hid (k + 1 ≤ qq) := HNQ.out (Or.inr (Or.inr d2)) (HBQQ.out.resolve_left (by simp))
                                      clear d2
                                      subst d0
                                      subst d1
                                      as_aux_lemma =>
                                        go_upto_region 36 with fail
                                        rw [HWC.out]
                                        go_wp2
                                        go_roundw
                                        case rel => exact ⟨k + 1, false, by omega, rfl, by go_num, Or.inr HKQ.out, HBC.out⟩
                                        case measure => simp [intOf]; omega
                                  · have f1 : (c1 == a1) = false := beq_eq_false_iff_ne.2 d1
                                    have HKQ : Hid (k + 1 ≤ qq) := HNQ.out (Or.inr (Or.inl d1)) (HBQQ.out.resolve_left (by simp))
                                    clear d1
                                    subst d0
                                    as_aux_lemma =>
                                      go_upto_region 36 with fail
                                      rw [HWC.out]
                                      go_wp2
                                      go_roundw
                                      case rel => exact ⟨k + 1, false, by omega, rfl, by go_num, Or.inr HKQ.out, HBC.out⟩
                                      case measure => simp [intOf]; omega
                                · have f0 : (c0 == (v : Int)) = false := beq_eq_false_iff_ne.2 d0
                                  have HKQ : Hid (k + 1 ≤ qq) := HNQ.out (Or.inl d0) (HBQQ.out.resolve_left (by simp))
                                  clear d0
                                  as_aux_lemma =>
                                    go_wp2_with fail
                                    rw [HWC.out]
                                    go_wp2
                                    go_roundw
                                    case rel => exact ⟨k + 1, false, by omega, rfl, by go_num, Or.inr HKQ.out, HBC.out⟩
                                    case measure => simp [intOf]; omega
                            · obtain rfl : k = LM.length := by omega
                              obtain rfl : b = true := HBQQ.out.resolve_right (fun h => by have := (List.getElem?_eq_some_iff.1 HQQ.out).1; omega)
                              obtain ⟨⟨g0, g1, g2, gs⟩, hb6, _⟩ := HCA.out wr (HM8.out wr HB9.out).2
                              have HB6 : Hid (Below w6.heap.size w6 wr) := hb6
                              clear hb6
                              as_aux_lemma =>
                                go_wp2
                                go_roundw
                                case rel => exact ⟨r + 2, by omega, by go_num, HB6.out⟩
                                case measure => simp [intOf]; omega
                  · obtain rfl : i = LO.length := by omega
                    as_aux_lemma =>
                      go_wp2_with fail
                      generalize wr = w7 at *
                      go_loopw [182] (fun iv wr => ∃ i : Nat, i ≤ LI.length ∧ iv = .int .i64 (i : Nat) ∧ Below w6.heap.size w6 wr) (fun iv _ => LI.length - (intOf iv).toNat)
                      case atStart => exact ⟨0, Nat.zero_le _, rfl, HB7.out⟩
                      case round =>
                        obtain ⟨i, hil2, rfl, hbw⟩ := hrel
                        have HB8 : Hid (Below w6.heap.size w6 wr) := hbw
                        clear hbw
                        by_cases hli : i < LI.length
                        · obtain ⟨a, ha⟩ : ∃ a, LI[i]? = some a := ⟨LI[i], List.getElem?_eq_getElem hli⟩
                          obtain ⟨lb, lof, rfl, bl, p0, p1, p2⟩ := (HL.out wr HB8.out).2.1.at ha
                          obtain ⟨kk, hkk⟩ : ∃ kk, weightM n bs R a.1 (v : Int) = some kk := by
                            refine rowL_back HIV.out.1 hlt ?_
                            rw [HLEN.out.2.1]
                            exact List.mem_of_getElem? ha
                          have HWv : Hid (type_of% (HWT.out _ _ _ hkk)) := HWT.out _ _ _ hkk
                          have HA3 : Hid (LI[i]? = some a) := ha
                          obtain ⟨Wa, hWa⟩ : ∃ Wa, wr.alloc (.cells #[.int .i64 a.1, .int .u64 a.2.1, .int .i64 a.2.2] 43) = Wa := ⟨_, rfl⟩
                          have HWA : Hid (wr.alloc (.cells #[.int .i64 a.1, .int .u64 a.2.1, .int .i64 a.2.2] 43) = Wa) := hWa
                          have HBA : Hid (Below w6.heap.size w6 Wa ∧ Below Z.heap.size Z Wa) := by
                            have h : Below w6.heap.size w6 Wa := by rw [← hWa]; exact HB8.out.alloc HB8.out.size _
                            exact ⟨h, (HL.out Wa h).2.2⟩
                          have HCA : Hid (∀ wx, Below Wa.heap.size Wa wx → wx.cell? ⟨wr.heap.size, 0, none⟩ = some (.int .i64 a.1) ∧ wr.heap.size < wx.heap.size) := fun wx hx => by
                            have h := heap_new wr (.cells #[.int .i64 a.1, .int .u64 a.2.1, .int .i64 a.2.2] 43)
                            rw [hWa] at h
                            have hgg := (hx.block _ (lt_of_get h)).trans h
                            exact ⟨by simp [World.cell?, hgg], lt_of_get hgg⟩
                          obtain ⟨g0, gs⟩ := HCA.out Wa (Below.refl _ _)
                          have s1 : (i : Int) < (LI.length : Int) := by omega
                          have s2 : (0 : Int) ≤ (i : Int) := by omega
                          clear ha hkk hWa
                          obtain ⟨a0, a1, a2⟩ := a
                          try simp only at p0 p1 p2 g0
                          as_aux_lemma =>
                            go_wp2_with fail
                            rw [HWA.out]
                            go_wp2_with fail
                            refine (HWv.out Wa HBA.out.2).mono ?_
                            rintro e wb ⟨rfl, hbb⟩
                            have HBB : Hid (Below Wa.heap.size Wa wb ∧ Below w6.heap.size w6 wb) := ⟨hbb, btr HBA.out.1 hbb⟩
                            clear hbb g0 gs p0 p1 p2 bl
                            obtain ⟨g0, gs⟩ := HCA.out wb HBB.out.1
                            try simp only at g0
                            by_cases hi0 : i = 0
                            · subst hi0
                              have cb : decide ((0 : Int) < ((0 : Nat) : Int)) = false := rfl
                              as_aux_lemma =>
                                go_wp2_with fail
                                go_quiet (fail)
                                have HBQ : Hid (Below w6.heap.size w6 (wb.drewN nq)) := below_drewN HBB.out.2 nq
                                go_wp2
                                go_roundw
                                case rel => exact ⟨1, by omega, by go_num, HBQ.out⟩
                                case measure => simp [intOf]; omega
                            · obtain ⟨r, rfl⟩ : ∃ r, i = r + 1 := ⟨i - 1, by omega⟩
                              obtain ⟨b, hb⟩ : ∃ b, LI[r]? = some b := ⟨LI[r]'(by omega), List.getElem?_eq_getElem (by omega)⟩
                              obtain ⟨lb', lof', he, bl, p0, p1, p2⟩ := (HL.out wb HBB.out.2).2.1.at hb
                              cases he
                              have hab := (HRI.out (r + 1) r b _ (by omega)).2 hb HA3.out
                              obtain ⟨b0, b1, b2⟩ := b
                              simp only at p0 p1 p2 hab
                              have cb : decide ((0 : Int) < ((r + 1 : Nat) : Int)) = true := decide_eq_true (by omega)
                              have j6 : IntKind.i64.wrap (((r + 1 : Nat) : Int) - 1) = (r : Int) := by rw [IntKind.wrap_i64] <;> omega
                              have j7 : (r : Int) < (LI.length : Int) := by omega
                              have j8 : (0 : Int) ≤ (r : Int) := by omega
                              have cc : decide (a0 ≤ b0) = false := decide_eq_false (by omega)
                              clear hb
                              as_aux_lemma =>
                                go_wp2_with fail
                                go_quiet (fail)
                                have HBQ : Hid (Below w6.heap.size w6 (wb.drewN nq)) := below_drewN HBB.out.2 nq
                                go_wp2
                                go_roundw
                                case rel => exact ⟨r + 2, by omega, by go_num, HBQ.out⟩
                                case measure => simp [intOf]; omega
                        · obtain rfl : i = LI.length := by omega
                          as_aux_lemma =>
                            go_wp2
                            exact ⟨⟨v + 1, by omega, by rw [HS1.out.1], by rw [HS1.out.2], by go_num, (HL.out wr HB8.out).2.2⟩, by simp [intOf]; omega⟩
          · obtain rfl : v = n := by omega
            as_aux_lemma =>
              have e1 : sumN v (fun u => (rowL bs R false u).length) = arcSum v bs R := rfl
              have e2 : sumN v (fun u => if liv bs u then 1 else 0) = aliveN v bs := rfl
              rw [e1, e2]
              clear e1 e2
              go_wp2_with fail
              refine (HLA.out wr HB4.out).mono ?_
              rintro e wy ⟨rfl, hw⟩
              subst hw
              go_wp2_with fail
              refine (HLL.out _ HB4.out).mono ?_
              rintro e wy' ⟨rfl, hw⟩
              subst hw
              go_wp2
              go_ret
              exact ⟨rfl, HF.out _ HB4.out⟩
end Go.Proofs.Ytpaamcapopnhoaa
