/- viaductref04.Distances, walked: the matrix of the plain mathematics. -/
import Derived.Test.YtbkclhaonbjobaaGreatQrX
import Derived.BigRegion
namespace Go.Proofs.YtbkclhaonbjobaaGreat.Ds
open Go.RowKit Go.Extern

attribute [local go_sem] Oper.semAt_some

/-- a row under way. -/
def fA (k j : Nat) : Mx := fun a b => if a = k ∧ j ≤ b then 0 else f00 a b

theorem fA_diag (k : Nat) : fA k k = fA k (k + 1) := by
  funext a b
  unfold fA
  by_cases g1 : a = k
  · by_cases g2 : b = k
    · rw [if_pos ⟨g1, by omega⟩, if_neg (fun g => by omega)]
      unfold f00
      rw [if_pos (by omega)]
    · by_cases g3 : k ≤ b
      · rw [if_pos ⟨g1, g3⟩, if_pos ⟨g1, by omega⟩]
      · rw [if_neg (fun g => g3 g.2), if_neg (fun g => g3 (by omega))]
  · rw [if_neg (fun g => g1 g.1), if_neg (fun g => g1 g.1)]
theorem fA_step (k j : Nat) (e : k ≠ j) : upd2 (fA k j) k j far = fA k (j + 1) := by
  funext a b
  unfold upd2 fA
  by_cases g1 : a = k
  · by_cases g2 : b = j
    · rw [if_pos ⟨g1, g2⟩, if_neg (fun g => by omega)]
      unfold f00
      rw [if_neg (by omega)]
    · rw [if_neg (fun g => g2 g.2)]
      by_cases g3 : j ≤ b
      · rw [if_pos ⟨g1, g3⟩, if_pos ⟨g1, by omega⟩]
      · rw [if_neg (fun g => g3 g.2), if_neg (fun g => g3 (by omega))]
  · rw [if_neg (fun g => g1 g.1), if_neg (fun g => g1 g.1), if_neg (fun g => g1 g.1)]
theorem fA_end (k n : Nat) : ∀ a b, a < k + 1 → b < n → fA k n a b = f00 a b := fun a b _ hb => by
  unfold fA
  rw [if_neg (fun g => by omega)]

theorem infoRow : (Tryz.prog.info? 53).map (fun i => (i.zero, i.size, i.bytes)) = some (some (.slice none 0 0), 1, 24) := by kernel_rfl
theorem infoU64 : (Tryz.prog.info? 47).map (fun i => (i.zero, i.size, i.bytes)) = some (some (.int .u64 0), 1, 8) := by kernel_rfl

/-- what holds at each point of the walk. -/
structure DI (w wx : World) (n m : Nat) (rs : Nat → Nat) (f : Mx) (ao : Option Addr) (q cap : Nat) : Prop where
  mat : MatP w.heap.size wx (w.heap.size + 1) n m rs f
  box : wx.heap[w.heap.size]? = some (.cells #[.int .i64 n, .slice ao q cap] 24)
  below : Below w.heap.size w wx
section
variable {w wx w' : World} {n m : Nat} {rs : Nat → Nat} {f g : Mx} {ao : Option Addr} {q cap : Nat}
theorem DI.ext (h : DI w wx n m rs f ao q cap) (e : ∀ i j, i < m → j < n → f i j = g i j) : DI w wx n m rs g ao q cap := ⟨h.mat.ext e, h.box, h.below⟩
theorem DI.later (h : DI w wx n m rs f ao q cap) (hb : Below wx.heap.size wx w') : DI w w' n m rs f ao q cap := ⟨h.mat.keep hb, (hb.block _ (lt_of_get h.box)).trans h.box, h.below.trans (hb.mono h.below.size)⟩
theorem DI.gcells (h : DI w wx n m rs f ao q cap) : wx.cell? ⟨w.heap.size, 0, none⟩ = some (.int .i64 n) ∧ wx.cell? ⟨w.heap.size, 1, none⟩ = some (.slice ao q cap) ∧ w.heap.size < wx.heap.size := ⟨by simp [World.cell?, h.box], by simp [World.cell?, h.box], lt_of_get h.box⟩
/-- a number is laid. -/
theorem DI.set (h : DI w wx n m rs f ao q cap) {i : Nat} (hi : i < m) (j : Nat) (v : Int) : DI w (wx.setCell ⟨rs i, j, none⟩ (.int .u64 v)) n m rs (upd2 f i j v) ao q cap := by
  have hne : w.heap.size ≠ rs i := fun e => by
    have h1 := h.mat.row i hi
    rw [← e, h.box] at h1
    have h2 := Option.some.inj h1
    injection h2 with _ h3
    cases h3
  exact ⟨h.mat.set hi j v, (heap_setCell_other _ _ _ _ hne).trans h.box, h.below.setCell (p := ⟨rs i, j, none⟩) (h.mat.base.2 i hi) _⟩
theorem DI.drew (h : DI w wx n m rs f ao q cap) : DI w wx.drew n m rs f ao q cap := h.later ((Below.refl _ _).drew)
end

set_option maxRecDepth 100000 in
set_option maxHeartbeats 16000000 in
theorem dist_calls (n : Nat) (hn : n ≤ 12) (ao : Option Addr) (q cap : Nat) (xs : List (Int × Int × Int)) (w : World) (hl : HasArcs w (.slice ao q cap) xs) (hx : ∀ a ∈ xs, a.1 < n ∧ a.2.1 < n) (hfine : Fine xs) (hm : xs.length ≤ 262144) : Calls Tryz.prog 8 #[.agg #[.int .i64 n, .slice ao q cap]] w fun e w' => ∃ db rs, e = .returned (.slice (some ⟨db, 0, none⟩) n n) ∧ MatP w.heap.size w' db n n rs (dist n xs) ∧ Below w.heap.size w w' := by
  have HXS : Hid ((∀ a ∈ xs, a.1 < n ∧ a.2.1 < n) ∧ Fine xs ∧ xs.length ≤ 262144 ∧ q = xs.length) := ⟨hx, hfine, hm, arcs_len hl⟩
  have HG0 : Hid (type_of% (Gr.new (n : Int) hl)) := Gr.new (n : Int) hl
  have HL : Hid (HasArcs w (.slice ao q cap) xs) := hl
  have m1 := run_make_row' (P := Tryz.prog) 35 53 (.slice none 0 0) 24 Tryz.underlying35 infoRow rfl .i64 .i64 n (by omega) (by omega)
  have m2 := run_make_row' (P := Tryz.prog) 53 47 (.int .u64 0) 8 Tryz.underlying53 infoU64 rfl .i64 .i64 n (by omega) (by omega)
  clear hl hx hfine hm
  go_enter Tryz.func8, Tryz.ntmps8
  have HW : Hid (∀ W0, (w.alloc (.cells #[.int .i64 n, .slice ao q cap] 24)).alloc (.cells (madeCells #[.slice none 0 0] n) 53) = W0 → DI w W0 n 0 (fun _ => 0) f00 ao q cap) := fun W0 e => by
    have s1 : (w.alloc (.cells #[.int .i64 n, .slice ao q cap] 24)).heap.size = w.heap.size + 1 := by simp
    have hM := MatP.new (w.alloc (.cells #[.int .i64 n, .slice ao q cap] 24)) n (fun _ => 0) f00
    have hB : Below (w.alloc (.cells #[.int .i64 n, .slice ao q cap] 24)).heap.size (w.alloc (.cells #[.int .i64 n, .slice ao q cap] 24)) _ := (Below.refl _ _).alloc (Nat.le_refl _) (.cells (madeCells #[.slice none 0 0] n) 53)
    rw [e, s1] at hM hB
    exact ⟨⟨hM.top, hM.row, hM.far, hM.inj, by omega, fun i hi => absurd hi (Nat.not_lt_zero _)⟩, (HG0.out.1.keep (by rw [s1]; exact hB)).box, HG0.out.2.trans (hB.mono (by omega))⟩
  go_wp2_with fail
  generalize hW0 : (w.alloc (.cells #[.int .i64 n, .slice ao q cap] 24)).alloc (.cells (madeCells #[.slice none 0 0] n) 53) = W0
  have I0 : Hid (type_of% (HW.out W0 hW0)) := HW.out W0 hW0
  clear hW0 HW HG0
  go_loopw [16] (fun iv wr => ∃ (k : Nat) (rs : Nat → Nat), k ≤ n ∧ iv = .int .i64 k ∧ DI w wr n k rs f00 ao q cap) (fun iv _ => n - (intOf iv).toNat)
  case atStart => exact ⟨0, _, Nat.zero_le _, rfl, I0.out⟩
  case round =>
    obtain ⟨k, rs, hk, rfl, hD⟩ := hrel
    have IA : Hid (DI w wr n k rs f00 ao q cap) := hD
    obtain ⟨cg0, cg1, cgs⟩ := hD.gcells
    clear hD
    by_cases hlt : k < n
    · have t0 : wr.cell? ⟨w.heap.size + 1, k, none⟩ = some (rowS n k rs k) := by
        rw [(row_cell IA.out.mat.top k).1, List.getElem?_toArray, rowV_get n _ hlt]
      have t1 : wr.frozen? ⟨w.heap.size + 1, k, none⟩ = false := (row_cell IA.out.mat.top k).2
      have t2 : w.heap.size + 1 < wr.heap.size := lt_of_get IA.out.mat.top
      have b0 : (0 : Int) ≤ (k : Int) := by omega
      have b1 : (k : Int) < (n : Int) := by omega
      generalize rowS n k rs k = old at *
      have HN : Hid (∀ W1, (wr.setCell ⟨w.heap.size + 1, k, none⟩ (.slice (some ⟨wr.heap.size, 0, none⟩) n n)).alloc (.cells (madeCells #[.int .u64 0] n) 47) = W1 → ∃ rs', rs' k = wr.heap.size ∧ DI w W1 n (k + 1) rs' (fA k 0) ao q cap) := fun W1 e => by
        have hs : (wr.setCell ⟨w.heap.size + 1, k, none⟩ (.slice (some ⟨wr.heap.size, 0, none⟩) n n)).heap.size = wr.heap.size := by simp
        have h3 : ∀ j, j < wr.heap.size → j ≠ w.heap.size + 1 → W1.heap[j]? = wr.heap[j]? := fun j hj hne => by
          rw [← e, Below.heap_alloc _ _ _ (by rw [hs]; exact hj)]
          exact heap_setCell_other _ _ _ _ hne
        have h1 : W1.heap[w.heap.size + 1]? = some (.cells ((rowV n (rowS n k rs)).toArray.setIfInBounds k (.slice (some ⟨wr.heap.size, 0, none⟩) n n)) 53) := by
          rw [← e, Below.heap_alloc _ _ _ (by rw [hs]; exact t2)]
          exact hs_same _ IA.out.mat.top
        have h2 : W1.heap[wr.heap.size]? = some (.cells (madeCells #[.int .u64 0] n) 47) := by
          have h := heap_new (wr.setCell ⟨w.heap.size + 1, k, none⟩ (.slice (some ⟨wr.heap.size, 0, none⟩) n n)) (.cells (madeCells #[.int .u64 0] n) 47)
          rw [e, hs] at h
          exact h
        have hsz : wr.heap.size ≤ W1.heap.size := by rw [← e]; simp
        have hM := IA.out.mat.more IA.out.below.size h1 h2 h3
        refine ⟨_, by simp, hM.ext (fun a b ha _ => ?_), (h3 _ cgs (by omega)).trans IA.out.box, ?_⟩
        · unfold fA
          by_cases e : a = k
          · rw [if_pos e, if_pos ⟨e, Nat.zero_le _⟩]
          · rw [if_neg e, if_neg (fun g => e g.1)]
        · exact IA.out.below.trans ⟨by rw [← e]; rfl, by rw [← e]; rfl, by rw [← e]; rfl, hsz, fun j hj => h3 j (by have := IA.out.below.size; omega) (by omega)⟩
      go_upto_region 6 with fail
      generalize hW1 : (wr.setCell ⟨w.heap.size + 1, k, none⟩ (.slice (some ⟨wr.heap.size, 0, none⟩) n n)).alloc (.cells (madeCells #[.int .u64 0] n) 47) = W1
      obtain ⟨rs', hr', hM1⟩ := HN.out W1 hW1
      have I1 : Hid (DI w W1 n (k + 1) rs' (fA k 0) ao q cap) := hM1
      have HR : Hid (rs' k = wr.heap.size) := hr'
      obtain ⟨t3, _, _⟩ := hM1.mat.at (i := k) (by omega) (by omega)
      rw [hr'] at t3
      clear hW1 HN t0 t1 t2 cg0 cg1 cgs hM1 hr'
      generalize wr.heap.size = r at *
      go_wp2_with fail
      generalize hWX : wr = WX at *
      clear hWX
      go_loopw [30] (fun jv wx => ∃ j : Nat, j ≤ n ∧ jv = .int .i64 j ∧ DI w wx n (k + 1) rs' (fA k j) ao q cap) (fun jv _ => n - (intOf jv).toNat)
      case atStart => exact ⟨0, Nat.zero_le _, rfl, I1.out⟩
      case round =>
        obtain ⟨j, hj, rfl, hD⟩ := hrel
        have IB : Hid (DI w wr n (k + 1) rs' (fA k j) ao q cap) := hD
        by_cases hjl : j < n
        · obtain ⟨t4, _, _⟩ := hD.mat.at (i := k) (by omega) (by omega)
          obtain ⟨t5, t6, t7⟩ := hD.mat.cell (i := k) (j := j) (by omega) hjl
          rw [HR.out] at t4 t5 t6 t7
          have b2 : (0 : Int) ≤ (j : Int) := by omega
          have b3 : (j : Int) < (n : Int) := by omega
          clear hD
          by_cases e : k = j
          · subst e
            have HE : Hid (DI w wr n (k + 1) rs' (fA k (k + 1)) ao q cap) := by have h := IB.out; rw [fA_diag] at h; exact h
            go_wp2
            go_roundw
            case rel => exact ⟨k + 1, by omega, by go_num, HE.out⟩
            case measure => simp [intOf]; omega
          · have e1 : ((k : Int) == (j : Int)) = false := by simp; omega
            have HS : Hid (DI w (wr.setCell ⟨rs' k, j, none⟩ (.int .u64 far)) n (k + 1) rs' (upd2 (fA k j) k j far) ao q cap) := IB.out.set (by omega) j far
            rw [HR.out, fA_step k j e] at HS
            unfold far at HS
            go_wp2
            exact ⟨⟨j + 1, by omega, by go_num, HS.out⟩, by simp [intOf]; omega⟩
        · obtain rfl : j = n := by omega
          have HE : Hid (DI w wr j (k + 1) rs' f00 ao q cap) := IB.out.ext (fA_end k j)
          clear hD
          go_wp2
          exact ⟨⟨k + 1, rs', by omega, by go_num, HE.out⟩, by simp [intOf]; omega⟩
    · obtain rfl : n = k := by omega
      generalize hWX : wr = WX at *
      clear hWX
      go_wp2_with fail
      go_loopw [47] (fun iv wx => ∃ k : Nat, k ≤ q ∧ iv = .int .i64 k ∧ DI w wx n n rs (ini (xs.take k)) ao q cap) (fun iv _ => q - (intOf iv).toNat)
      case atStart => exact ⟨0, Nat.zero_le _, rfl, IA.out⟩
      case round =>
        obtain ⟨k, hkq, rfl, hD⟩ := hrel
        have IB : Hid (DI w wr n n rs (ini (xs.take k)) ao q cap) := hD
        clear hD
        by_cases hkl : k < q
        · obtain ⟨a, ha⟩ : ∃ a, xs[k]? = some a := ⟨xs[k]'(by have := HXS.out.2.2.2; omega), List.getElem?_eq_getElem _⟩
          have hmem := List.mem_of_getElem? ha
          obtain ⟨ba, off, hao, hbl, q0, q1, q2⟩ := HL.out.at ha
          subst hao
          have e0 := (IB.out.below.cell (p := ⟨ba, off + k * 3, none⟩) hbl).trans q0
          have e1 := (IB.out.below.cell (p := ⟨ba, off + k * 3 + 1, none⟩) hbl).trans q1
          have e2 := (IB.out.below.cell (p := ⟨ba, off + k * 3 + 2, none⟩) hbl).trans q2
          obtain ⟨l0, l1⟩ := HXS.out.1 a hmem
          obtain ⟨p0, p1, p2, p3⟩ := HXS.out.2.1 a hmem
          have HT : Hid (ini (xs.take (k + 1)) = arcF (ini (xs.take k)) a) := by
            show _ = _
            obtain ⟨hl', he'⟩ := List.getElem?_eq_some_iff.1 ha
            rw [List.take_succ_eq_append_getElem hl', he', ini_snoc]
          obtain ⟨x0, x1, x2⟩ := a
          simp only at e0 e1 e2 l0 l1 p0 p1 p2 p3
          obtain ⟨A, rfl⟩ : ∃ A : Nat, x0 = A := ⟨x0.toNat, by omega⟩
          obtain ⟨B, rfl⟩ : ∃ B : Nat, x1 = B := ⟨x1.toNat, by omega⟩
          have hA : A < n := by omega
          have hB : B < n := by omega
          have hw : IntKind.u64.wrap x2 = x2 := wrap_self p2 (by unfold far; omega)
          have b0 : (0 : Int) ≤ (k : Int) := by omega
          have b1 : (k : Int) < (q : Int) := by omega
          have HP : Hid (∀ W1, wr.alloc (.cells #[.int .i64 (A : Int), .int .i64 (B : Int), .int .i64 x2] 84) = W1 → DI w W1 n n rs (ini (xs.take k)) (some ⟨ba, off, none⟩) q cap ∧ W1.heap[wr.heap.size]? = some (.cells #[.int .i64 (A : Int), .int .i64 (B : Int), .int .i64 x2] 84)) := fun W1 e => by
            have k0 := heap_new wr (.cells #[.int .i64 (A : Int), .int .i64 (B : Int), .int .i64 x2] 84)
            have hb := (Below.refl _ wr).alloc (Nat.le_refl _) (.cells #[.int .i64 (A : Int), .int .i64 (B : Int), .int .i64 x2] 84)
            rw [e] at k0 hb
            exact ⟨IB.out.later hb, k0⟩
          clear ha hmem q0 q1 q2
          go_upto_region 16 with fail
          generalize hW1 : wr.alloc (.cells #[.int .i64 (A : Int), .int .i64 (B : Int), .int .i64 x2] 84) = W1
          obtain ⟨hD1, h1⟩ := HP.out W1 hW1
          have I1 : Hid (DI w W1 n n rs (ini (xs.take k)) (some ⟨ba, off, none⟩) q cap) := hD1
          obtain ⟨d0, d1, d2⟩ : W1.cell? ⟨wr.heap.size, 0, none⟩ = some (.int .i64 A) ∧ W1.cell? ⟨wr.heap.size, 1, none⟩ = some (.int .i64 B) ∧ W1.cell? ⟨wr.heap.size, 2, none⟩ = some (.int .i64 x2) := by simp [World.cell?, h1]
          have ds : wr.heap.size < W1.heap.size := lt_of_get h1
          obtain ⟨t0, _, ts⟩ := hD1.mat.at (i := A) hA (Nat.le_refl _)
          obtain ⟨t1, t2, t3⟩ := hD1.mat.cell (i := A) (j := B) hA hB
          have HS : Hid (∀ v, DI w (W1.setCell ⟨rs A, B, none⟩ (.int .u64 v)) n n rs (upd2 (ini (xs.take k)) A B v) (some ⟨ba, off, none⟩) q cap) := fun v => hD1.set hA B v
          have hne : rs A ≠ w.heap.size + 1 := hD1.mat.far A hA
          have hne2 : rs A ≠ wr.heap.size := fun e => by
            have h2 := hD1.mat.row A hA
            rw [e, h1] at h2
            have h3 := Option.some.inj h2
            injection h3 with _ h4
            cases h4
          have a0 : (0 : Int) ≤ (A : Int) := by omega
          have a1 : (A : Int) < (n : Int) := by omega
          have a2 : (0 : Int) ≤ (B : Int) := by omega
          have a3 : (B : Int) < (n : Int) := by omega
          clear hW1 HP e0 e1 e2 h1 hD1
          have HC : Hid (ini (xs.take (k + 1)) = upd2 (ini (xs.take k)) A B (min (ini (xs.take k) A B) x2)) := HT.out
          generalize ini (xs.take k) A B = old at *
          generalize rs A = ra at *
          generalize wr.heap.size = ub at *
          have hqb : q ≤ 262144 := by have h := HXS.out; omega
          go_region
          go_wp2
          go_roundw
          case rel => exact ⟨k + 1, by omega, by go_num, by rw [HC.out]; exact (HS.out _).drew⟩
          case measure => simp [intOf]; omega
        · obtain rfl : q = k := by omega
          have hq := HXS.out.2.2.2
          have IC : Hid (DI w wr n n rs (ini xs) ao q cap) := by have h := IB.out; rw [hq, List.take_length, ← hq] at h; exact h
          have HGD : Hid (Good (ini xs)) := ini_good HXS.out.2.1
          clear hq IB IA
          generalize hWY : wr = WY at *
          clear hWY
          go_wp2_with fail
          go_loopw [75] (fun iv wx => ∃ k : Nat, k ≤ n ∧ iv = .int .i64 k ∧ DI w wx n n rs (phs (ini xs) k) ao q cap) (fun iv _ => n - (intOf iv).toNat)
          case atStart => exact ⟨0, Nat.zero_le _, rfl, IC.out⟩
          case round =>
            obtain ⟨k, hk1, rfl, hD⟩ := hrel
            have IK : Hid (DI w wr n n rs (phs (ini xs) k) ao q cap) := hD
            clear hD
            by_cases hkn : k < n
            · have HGK : Hid (Good (phs (ini xs) k)) := phs_good HGD.out k
              have HNX : Hid (phs (ini xs) (k + 1) = ph (phs (ini xs) k) k) := rfl
              generalize phs (ini xs) k = f at *
              generalize hWZ : wr = WZ at *
              clear hWZ
              have k0' : (0 : Int) ≤ (k : Int) := by omega
              have k1' : (k : Int) < (n : Int) := by omega
              go_wp2_with fail
              go_loopw [80] (fun iv wx => ∃ i : Nat, i ≤ n ∧ iv = .int .i64 i ∧ DI w wx n n rs (part f k i 0) ao q cap) (fun iv _ => n - (intOf iv).toNat)
              case atStart => exact ⟨0, Nat.zero_le _, rfl, by rw [part_zero]; exact IK.out⟩
              case round =>
                obtain ⟨i, hi1, rfl, hD⟩ := hrel
                have II : Hid (DI w wr n n rs (part f k i 0) ao q cap) := hD
                clear hD
                by_cases hin : i < n
                · have i0' : (0 : Int) ≤ (i : Int) := by omega
                  have i1' : (i : Int) < (n : Int) := by omega
                  generalize hWV : wr = WV at *
                  clear hWV
                  go_wp2_with fail
                  go_loopw [85] (fun iv wx => ∃ j : Nat, j ≤ n ∧ iv = .int .i64 j ∧ DI w wx n n rs (part f k i j) ao q cap) (fun iv _ => n - (intOf iv).toNat)
                  case atStart => exact ⟨0, Nat.zero_le _, rfl, II.out⟩
                  case round =>
                    obtain ⟨j, hj1, rfl, hD⟩ := hrel
                    have IJ : Hid (DI w wr n n rs (part f k i j) ao q cap) := hD
                    by_cases hjn : j < n
                    · have j0' : (0 : Int) ≤ (j : Int) := by omega
                      have j1' : (j : Int) < (n : Int) := by omega
                      obtain ⟨t0, _, ts⟩ := hD.mat.at (i := i) hin (Nat.le_refl _)
                      obtain ⟨t1, _, _⟩ := hD.mat.at (i := k) hkn (Nat.le_refl _)
                      obtain ⟨c0, _, _⟩ := hD.mat.cell (i := i) (j := k) hin hkn
                      obtain ⟨c1, _, _⟩ := hD.mat.cell (i := k) (j := j) hkn hjn
                      obtain ⟨c2, z2, s2⟩ := hD.mat.cell (i := i) (j := j) hin hjn
                      rw [part_col HGK.out] at c0
                      rw [part_row HGK.out] at c1
                      rw [part_at] at c2
                      have HS : Hid (∀ v, DI w (wr.setCell ⟨rs i, j, none⟩ (.int .u64 v)) n n rs (upd2 (part f k i j) i j v) ao q cap) := fun v => hD.set hin j v
                      clear hD
                      have HPH : Hid (ph f k i j = if f i k ≠ far ∧ f k j ≠ far then min (f i j) (IntKind.u64.wrap (f i k + f k j)) else f i j) := rfl
                      have HSAME : Hid (ph f k i j = f i j → part f k i j = part f k i (j + 1)) := part_same f k i j
                      have HSTEP : Hid (upd2 (part f k i j) i j (ph f k i j) = part f k i (j + 1)) := part_step f k i j
                      generalize f i k = x at *
                      generalize f k j = y at *
                      generalize hz : f i j = z at *
                      generalize rs i = ri at *
                      generalize rs k = rk at *
                      unfold far at HPH
                      by_cases hx : x = 18446744073709551615
                      · subst hx
                        rw [if_neg (fun g => g.1 rfl)] at HPH
                        have HE : Hid (DI w wr n n rs (part f k i (j + 1)) ao q cap) := by have h := IJ.out; rw [HSAME.out (by rw [HPH.out])] at h; exact h
                        clear HSAME HSTEP
                        go_wp2
                        exact ⟨⟨j + 1, by omega, by go_num, HE.out⟩, by simp [intOf]; omega⟩
                      · have hx' : (x == 18446744073709551615) = false := by simpa using hx
                        by_cases hy : y = 18446744073709551615
                        · subst hy
                          rw [if_neg (fun g => g.2 rfl)] at HPH
                          have HE : Hid (DI w wr n n rs (part f k i (j + 1)) ao q cap) := by have h := IJ.out; rw [HSAME.out (by rw [HPH.out])] at h; exact h
                          clear HSAME HSTEP
                          go_wp2
                          exact ⟨⟨j + 1, by omega, by go_num, HE.out⟩, by simp [intOf]; omega⟩
                        · have hy' : (y == 18446744073709551615) = false := by simpa using hy
                          have hx2 : (x != 18446744073709551615) = true := by simpa using hx
                          have hy2 : (y != 18446744073709551615) = true := by simpa using hy
                          rw [if_pos ⟨hx, hy⟩] at HPH
                          have HE : Hid (DI w (wr.setCell ⟨ri, j, none⟩ (.int .u64 (min z (IntKind.u64.wrap (x + y))))) n n rs (part f k i (j + 1)) ao q cap) := by
                            have h := HS.out (min z (IntKind.u64.wrap (x + y)))
                            rw [← HPH.out, HSTEP.out] at h
                            rw [HPH.out] at h
                            exact h
                          clear HSAME HSTEP HPH HS
                          go_wp2_with fail
                          go_region
                          go_wp2
                          exact ⟨⟨j + 1, by omega, by go_num, HE.out.drew⟩, by simp [intOf]; omega⟩
                    · obtain rfl : n = j := by omega
                      have HE : Hid (DI w wr n n rs (part f k (i + 1) 0) ao q cap) := IJ.out.ext (part_line f k i n)
                      clear hD
                      go_wp2
                      exact ⟨⟨i + 1, by omega, by go_num, HE.out⟩, by simp [intOf]; omega⟩
                · obtain rfl : n = i := by omega
                  have HE : Hid (DI w wr n n rs (phs (ini xs) (k + 1)) ao q cap) := by rw [HNX.out]; exact II.out.ext (part_all f k n)
                  go_wp2
                  exact ⟨⟨k + 1, by omega, by go_num, HE.out⟩, by simp [intOf]; omega⟩
            · obtain rfl : n = k := by omega
              go_wp2
              go_ret
              exact ⟨_, rs, rfl, IK.out.mat, IK.out.below⟩
end Go.Proofs.YtbkclhaonbjobaaGreat.Ds
