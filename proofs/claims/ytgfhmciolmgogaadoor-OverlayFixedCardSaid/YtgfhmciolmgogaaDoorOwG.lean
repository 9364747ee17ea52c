/- the overlay law's awake. -/
import Derived.Test.YtgfhmciolmgogaaDoorOwF
namespace Go.Proofs.YtgfhmciolmgogaaDoor
open Go.RowKit Go.Extern Go.Sort

attribute [local go_sem] Oper.semAt_some

def xsO : List (Int × Int × Int) := [(0, 1, 3), (1, 2, 1)]
theorem xsO_good : graphErr ((3 : Nat) : Int) xsO = (0, []) := by kernel_rfl
theorem xsO_norm : normA xsO = xsO := by kernel_rfl
/-- the flags behind the law's first Remove. -/
def bsO : List Bool := (List.replicate 3 true).set 1 false
theorem wakeRows {R R' : Bool → Nat → Rw} (hR : ∀ s u, u < 3 → (R s u).2 = (sideL s xsO u, 0)) (hL : ∀ s v, v < 3 → (R' s v).2 = if v = 1 then ([], 0) else if hasH (livH ((List.replicate 3 true).set 1 false) (R (!s) 1).2.1) (v : Int) then loseH ((List.replicate 3 true).set 1 false) (R s v).2.1 (R s v).2.2 else (R s v).2) : (R' false 0).2 = ([], 0) ∧ (R' true 2).2 = ([], 0) := by
  refine ⟨?_, ?_⟩
  · rw [hL false 0 (by decide), if_neg (by decide), Bool.not_false, hR true 1 (by decide), hR false 0 (by decide)]
    rfl
  · rw [hL true 2 (by decide), if_neg (by decide), Bool.not_true, hR false 1 (by decide), hR true 2 (by decide)]
    rfl
theorem wakeErr : putErr 3 bsO 0 2 4 1 = 0 := by kernel_rfl
theorem wakeW {R' : Bool → Nat → Rw} (h : (R' false 0).2 = ([], 0)) : weightM 3 bsO R' 0 2 = none := by
  unfold weightM
  rw [show (0 : Int).toNat = 0 from rfl, h]
  rfl
theorem wakeOut {R' : Bool → Nat → Rw} {v1 v2 : Value} (h : (R' false 0).2 = ([], 0)) : livH bsO (putRows R' 0 2 4 1 v1 v2 false 0).2.1 = [(2, 4, 1)] := by
  unfold putRows
  rw [updS_far _ true false _ _ (by simp), updS_at, h]
  rfl
theorem wakeIn {R' : Bool → Nat → Rw} {v1 v2 : Value} (h : (R' true 2).2 = ([], 0)) : livH bsO (putRows R' 0 2 4 1 v1 v2 true 2).2.1 = [(0, 4, 1)] := by
  unfold putRows
  rw [updS_at, h]
  rfl
theorem arcs_two (w : World) : HasArcs (w.alloc (.cells #[.int .i64 0, .int .i64 1, .int .i64 3, .int .i64 1, .int .i64 2, .int .i64 1] 29)) (.slice (some ⟨w.heap.size, 0, none⟩) 2 2) xsO := by
  have k0 := heap_new w (.cells #[.int .i64 0, .int .i64 1, .int .i64 3, .int .i64 1, .int .i64 2, .int .i64 1] 29)
  generalize w.alloc (.cells #[.int .i64 0, .int .i64 1, .int .i64 3, .int .i64 1, .int .i64 2, .int .i64 1] 29) = W0 at *
  refine ⟨_, 2, rfl, fun j a hj => ⟨w.heap.size, 0, rfl, lt_of_get k0, ?_⟩⟩
  rcases j with _ | _ | j <;> simp [xsO] at hj <;> subst hj <;> simp [World.cell?, k0]

set_option maxRecDepth 100000 in
set_option maxHeartbeats 4000000 in
theorem awake11_calls (w : World) : Calls Tryd.prog 4 #[] w fun e w' => e = .returned (.bool true) ∧ Below w.heap.size w w' := by
  obtain ⟨W0, hW0⟩ : ∃ W0, w.alloc (.cells #[.int .i64 0, .int .i64 1, .int .i64 3, .int .i64 1, .int .i64 2, .int .i64 1] 29) = W0 := ⟨_, rfl⟩
  have hB0 : Below w.heap.size w W0 := by rw [← hW0]; exact (Below.refl _ w).alloc (Nat.le_refl _) _
  have hA := arcs_two w
  rw [hW0] at hA
  have hnw := ov_new (n := 3) (some ⟨w.heap.size, 0, none⟩) 2 2 xsO W0 hA xsO_good
  rw [xsO_norm] at hnw
  have HNW : Hid (type_of% hnw) := hnw
  have HW0 : Hid (w.alloc (.cells #[.int .i64 0, .int .i64 1, .int .i64 3, .int .i64 1, .int .i64 2, .int .i64 1] 29) = W0) := hW0
  have HB0 : Hid (Below w.heap.size w W0) := hB0
  clear hB0 hA hW0 hnw
  go_enter Tryd.func4, Tryd.ntmps4
  go_wp2_with fail
  rw [HW0.out]
  refine HNW.out.mono ?_
  rintro e w1 ⟨pb, R, rfl, hO1, hR1, hb1⟩
  have HO1 : Hid (IsOv noP w.heap.size w1 pb 3 (List.replicate 3 true) R 3 2) := by
    obtain ⟨B, ab, sb, h0, h1, h2⟩ := hO1
    exact ⟨B, ab, sb, Nat.le_trans HB0.out.size h0, h1, h2⟩
  have HR1 : Hid (type_of% hR1) := hR1
  have HB1 : Hid (Below w.heap.size w w1) := HB0.out.trans (hb1.mono HB0.out.size)
  clear hO1 hR1 hb1
  go_wp2_with fail
  refine HO1.out.len.mono ?_
  rintro e w1' ⟨rfl, hw⟩
  subst hw
  go_wp2_with fail
  refine HO1.out.narcs.mono ?_
  rintro e w1'' ⟨rfl, hw⟩
  subst hw
  go_wp2_with fail
  refine (HO1.out.remove 1 (by omega) (by omega)).mono ?_
  rintro e w2 (⟨h1, _, _⟩ | ⟨_, u, R', hu, _, _, rfl, hO2, hL, hb2⟩)
  · exact absurd h1 (by decide)
  obtain rfl : u = 1 := by omega
  have hq := wakeRows HR1.out hL
  have HO2 : Hid (∃ ar, IsOv noP w.heap.size w2 pb 3 bsO R' 2 ar ∧ (-4611686018427387904 ≤ ar ∧ ar ≤ 4611686018427387904)) := ⟨_, hO2, by have h1 := HO1.out.rowLen false (u := 1) (by omega); have h2 := HO1.out.rowLen true (u := 1) (by omega); have h3 := livH_len (List.replicate 3 true) (R false 1).2.1; have h4 := livH_len (List.replicate 3 true) (R true 1).2.1; omega⟩
  have HQ : Hid (type_of% hq) := hq
  have HB2 : Hid (Below w.heap.size w w2) := HB1.out.trans hb2
  clear hO2 hL hb2 hq hu
  obtain ⟨ar, ho2, har⟩ := HO2.out
  have hpt := ho2.put 0 2 4 1 har
  have HPT : Hid (type_of% hpt) := hpt
  clear ho2 har hpt
  go_wp2_with fail
  refine HPT.out.mono ?_
  rintro e w3 (⟨c, hc, hp, _⟩ | ⟨k, hk, _⟩ | ⟨a, b, v1, v2, ha, hb, _, _, rfl, hO3, hb3⟩)
  · exact absurd (hp.symm.trans wakeErr) hc
  · rw [wakeW HQ.out.1] at hk
    cases hk
  obtain rfl : a = 0 := by omega
  obtain rfl : b = 2 := by omega
  have HO3 : Hid (type_of% hO3) := hO3
  have HB3 : Hid (Below w.heap.size w w3) := HB2.out.trans hb3
  clear hO3 hb3 ha hb
  go_wp2_with fail
  refine (HO3.out.out 0).mono ?_
  rintro e w4 ⟨vo, rfl, _, ho4, hb4⟩
  have ho4 := ho4 (by kernel_rfl)
  rw [show (0 : Int).toNat = 0 from rfl, wakeOut HQ.out.1] at ho4
  obtain ⟨so, sc, hv⟩ := rowH_slice ho4
  subst hv
  have HO4 : Hid (IsOv noP w.heap.size w4 pb 3 bsO (putRows R' 0 2 4 1 v1 v2) 2 _) := HO3.out.keep hb4
  have HS4 : Hid (HasHs w4 (.slice so 1 sc) [(2, 4, 1)]) := hs_of_rowH ho4
  have HB4 : Hid (Below w.heap.size w w4) := HB3.out.trans (hb4.mono HB3.out.size)
  clear ho4 hb4
  have HSA : Hid (Calls Tryd.prog 6 #[.slice so 1 sc, .slice (some ⟨w4.heap.size, 0, none⟩) 1 1] (w4.alloc (.cells #[.int .i64 2, .int .u64 4, .int .i64 1] 38)) fun e w' => e = .returned (.bool true) ∧ Below w4.heap.size w4 w') := by
    have hbA : Below w4.heap.size w4 (w4.alloc (.cells #[.int .i64 2, .int .u64 4, .int .i64 1] 38)) := (Below.refl _ w4).alloc (Nat.le_refl _) _
    refine (same11_yes so (some ⟨w4.heap.size, 0, none⟩) sc 1 [(2, 4, 1)] _ (HS4.out.keep hbA) (hs_one w4 (2, 4, 1) 38) (by decide)).mono ?_
    rintro e w' ⟨rfl, hb⟩
    exact ⟨rfl, hbA.trans (hb.mono hbA.size)⟩
  go_wp2_with fail
  refine HSA.out.mono ?_
  rintro e w5 ⟨rfl, hb5⟩
  have HO5 : Hid (IsOv noP w.heap.size w5 pb 3 bsO (putRows R' 0 2 4 1 v1 v2) 2 _) := HO4.out.keep hb5
  have HB5 : Hid (Below w.heap.size w w5) := HB4.out.trans (hb5.mono HB4.out.size)
  clear hb5
  go_wp2_with fail
  refine (HO5.out.inn 2).mono ?_
  rintro e w6 ⟨vi, rfl, _, ho6, hb6⟩
  have ho6 := ho6 (by kernel_rfl)
  rw [show (2 : Int).toNat = 2 from rfl, wakeIn HQ.out.2] at ho6
  obtain ⟨to', tc, hv⟩ := rowH_slice ho6
  subst hv
  have HO6 : Hid (IsOv noP w.heap.size w6 pb 3 bsO (putRows R' 0 2 4 1 v1 v2) 2 _) := HO5.out.keep hb6
  have HS6 : Hid (HasHs w6 (.slice to' 1 tc) [(0, 4, 1)]) := hs_of_rowH ho6
  have HB6 : Hid (Below w.heap.size w w6) := HB5.out.trans (hb6.mono HB5.out.size)
  clear ho6 hb6
  have HSB : Hid (Calls Tryd.prog 6 #[.slice to' 1 tc, .slice (some ⟨w6.heap.size, 0, none⟩) 1 1] (w6.alloc (.cells #[.int .i64 0, .int .u64 4, .int .i64 1] 38)) fun e w' => e = .returned (.bool true) ∧ Below w6.heap.size w6 w') := by
    have hbA : Below w6.heap.size w6 (w6.alloc (.cells #[.int .i64 0, .int .u64 4, .int .i64 1] 38)) := (Below.refl _ w6).alloc (Nat.le_refl _) _
    refine (same11_yes to' (some ⟨w6.heap.size, 0, none⟩) tc 1 [(0, 4, 1)] _ (HS6.out.keep hbA) (hs_one w6 (0, 4, 1) 38) (by decide)).mono ?_
    rintro e w' ⟨rfl, hb⟩
    exact ⟨rfl, hbA.trans (hb.mono hbA.size)⟩
  go_wp2_with fail
  refine HSB.out.mono ?_
  rintro e w7 ⟨rfl, hb7⟩
  have HO7 : Hid (IsOv noP w.heap.size w7 pb 3 bsO (putRows R' 0 2 4 1 v1 v2) 2 _) := HO6.out.keep hb7
  have HB7 : Hid (Below w.heap.size w w7) := HB6.out.trans (hb7.mono HB6.out.size)
  have hal := HO7.out.alive 1
  rw [show aliveB 3 bsO 1 = false by kernel_rfl] at hal
  have HAL : Hid (type_of% hal) := hal
  clear hb7 hal
  go_wp2_with fail
  refine HAL.out.mono ?_
  rintro e w8 ⟨rfl, hw⟩
  subst hw
  go_wp2
  go_ret
  exact ⟨rfl, HB7.out⟩
end Go.Proofs.YtgfhmciolmgogaaDoor
