/- normal.Is at a right graph whose arcs don't rise, or with a loop: it says so. -/
import Derived.Test.YtbfopkhdngfanaaIs
import Derived.Test.YtbfopkhdngfanaaNorm
namespace Go.Proofs.Ytbfopkhdngfanaa
open Go.RowKit Go.Extern

attribute [local go_sem] Oper.semAt_some

/-- up to a place the arcs rise, and none is a loop. -/
def GoodTo (xs : List (Int × Int × Int)) (m : Nat) : Prop := (∀ i a, i < m → xs[i]? = some a → (a.1 == a.2.1) = false) ∧ ∀ i a b, i + 1 < m → xs[i]? = some a → xs[i + 1]? = some b → endsI a b < 0

set_option maxRecDepth 100000 in
set_option maxHeartbeats 4000000 in
theorem is_no (N : Int) (ao : Option Addr) (cap : Nat) (xs : List (Int × Int × Int)) (w : World) (hl : HasArcs w (.slice ao xs.length cap) xs) (hgood : graphErr N xs = (0, [])) (hm : xs.length ≤ maxLen) (m : Nat) (hr : GoodTo xs m) (a : Int × Int × Int) (hbad : xs[m]? = some a) (hwhy : a.1 = a.2.1 ∨ (a.1 ≠ a.2.1 ∧ ∃ j p, m = j + 1 ∧ xs[j]? = some p ∧ 0 ≤ endsI p a)) :
    Calls Try.prog 10 #[.agg #[.int .i64 N, .slice ao xs.length cap]] w fun e w' => e = .returned (.tuple #[.bool false, .nilIface]) ∧ Below w.heap.size w w' := by
  obtain ⟨W0, hW0⟩ : ∃ W0, w.alloc (.cells #[.int .i64 N, .slice ao xs.length cap] 24) = W0 := ⟨_, rfl⟩
  have hB0 : Below w.heap.size w W0 := by rw [← hW0]; exact (Below.refl _ w).alloc (Nat.le_refl _) _
  have k0 : W0.heap[w.heap.size]? = some (.cells #[.int .i64 N, .slice ao xs.length cap] 24) := by rw [← hW0]; exact heap_new _ _
  have HW0 : Hid (w.alloc (.cells #[.int .i64 N, .slice ao xs.length cap] 24) = W0) := hW0
  have HB0 : Hid (Below w.heap.size w W0) := hB0
  have HCK : Hid (Calls Try.prog 17 #[.agg #[.int .i64 N, .slice ao xs.length cap]] W0 fun e w' => e = .returned .nilIface ∧ Below W0.heap.size W0 w') := by
    refine (check_calls N ao cap xs W0 (hl.keep hB0) hm).mono ?_
    rintro e w' ⟨v, rfl, ht, hb⟩
    rw [hgood] at ht
    rcases ht with ⟨_, rfl⟩ | ⟨h, _⟩
    · exact ⟨rfl, hb⟩
    · exact absurd rfl h
  unfold maxLen at hm
  have HL : Hid (HasArcs w (.slice ao xs.length cap) xs) := hl
  have HR : Hid (GoodTo xs m) := hr
  have HBA : Hid (xs[m]? = some a) := hbad
  have HWY : Hid (a.1 = a.2.1 ∨ (a.1 ≠ a.2.1 ∧ ∃ j p, m = j + 1 ∧ xs[j]? = some p ∧ 0 ≤ endsI p a)) := hwhy
  have hml : m < xs.length := (List.getElem?_eq_some_iff.1 hbad).1
  have HK0 : Hid (W0.heap[w.heap.size]? = some (.cells #[.int .i64 N, .slice ao xs.length cap] 24)) := k0
  clear hl hr hgood k0 hB0 hW0 hbad hwhy
  go_enter Try.func10, Try.ntmps10
  go_wp2_with fail
  rw [HW0.out]
  refine HCK.out.mono ?_
  rintro e w1 ⟨rfl, hb1⟩
  have HB1 : Hid (Below w.heap.size w w1) := HB0.out.trans (hb1.mono HB0.out.size)
  have HK1 : Hid (w1.heap[w.heap.size]? = some (.cells #[.int .i64 N, .slice ao xs.length cap] 24)) := (hb1.block _ (lt_of_get HK0.out)).trans HK0.out
  obtain ⟨c0, c1⟩ : w1.cell? ⟨w.heap.size, 0, none⟩ = some (.int .i64 N) ∧ w1.cell? ⟨w.heap.size, 1, none⟩ = some (.slice ao xs.length cap) := by simp [World.cell?, HK1.out]
  clear hb1
  go_wp2_with fail
  go_loopw [15] (fun iv wr => ∃ k : Nat, k ≤ m ∧ iv = .int .i64 k ∧ wr.heap[w.heap.size]? = some (.cells #[.int .i64 N, .slice ao xs.length cap] 24) ∧ Below w.heap.size w wr) (fun iv _ => m - (intOf iv).toNat)
  case atStart => exact ⟨0, Nat.zero_le _, rfl, HK1.out, HB1.out⟩
  case round =>
    obtain ⟨k, hk, rfl, hbx, hbw⟩ := hrel
    have HBX : Hid (wr.heap[w.heap.size]? = some (.cells #[.int .i64 N, .slice ao xs.length cap] 24)) := hbx
    have HBW : Hid (Below w.heap.size w wr) := hbw
    clear hbx hbw c0 c1
    by_cases hltm : k < m
    · have hlt : k < xs.length := by omega
      obtain ⟨a, ha⟩ : ∃ a, xs[k]? = some a := ⟨xs[k], List.getElem?_eq_getElem hlt⟩
      obtain ⟨b, off, hao, hbl, q0, q1, q2⟩ := HL.out.at ha
      subst hao
      have e0 := (HBW.out.cell (p := ⟨b, off + k * 3, none⟩) hbl).trans q0
      have e1 := (HBW.out.cell (p := ⟨b, off + k * 3 + 1, none⟩) hbl).trans q1
      have e2 := (HBW.out.cell (p := ⟨b, off + k * 3 + 2, none⟩) hbl).trans q2
      have hbl' : b < wr.heap.size := Nat.lt_of_lt_of_le hbl HBW.out.size
      have hw0 : w.heap.size < wr.heap.size := lt_of_get HBX.out
      have hnl : (a.1 == a.2.1) = false := HR.out.1 k a hltm ha
      have HIL : Hid (∀ wx, Calls Try.prog 18 #[arcV a] wx fun e w' => e = .returned (.bool false) ∧ Laid wx w') := fun wx => by
        have h := isLoop_calls a wx
        rw [hnl] at h
        exact h
      clear hnl
      have HCL : Hid (∀ wx, Laid (wr.alloc (.cells #[.int .i64 a.1, .int .i64 a.2.1, .int .i64 a.2.2] 42)) wx → wx.cell? ⟨wr.heap.size, 0, none⟩ = some (.int .i64 a.1) ∧ wx.cell? ⟨wr.heap.size, 1, none⟩ = some (.int .i64 a.2.1) ∧ wx.cell? ⟨wr.heap.size, 2, none⟩ = some (.int .i64 a.2.2) ∧ wx.cell? ⟨w.heap.size, 1, none⟩ = some (.slice (some ⟨b, off, none⟩) xs.length cap) ∧ wx.heap[w.heap.size]? = some (.cells #[.int .i64 N, .slice (some ⟨b, off, none⟩) xs.length cap] 24) ∧ Below w.heap.size w wx) := fun wx h => by
        have hn : wx.heap[wr.heap.size]? = some (.cells #[.int .i64 a.1, .int .i64 a.2.1, .int .i64 a.2.2] 42) := (h.block (by simp)).trans (heap_new _ _)
        have hx : wx.heap[w.heap.size]? = some (.cells #[.int .i64 N, .slice (some ⟨b, off, none⟩) xs.length cap] 24) := (h.block (by simp; omega)).trans ((Below.heap_alloc _ _ _ hw0).trans HBX.out)
        exact ⟨by simp [World.cell?, hn], by simp [World.cell?, hn], by simp [World.cell?, hn], by simp [World.cell?, hx], hx, (HBW.out.alloc HBW.out.size _).trans (h.below.mono (by have := HBW.out.size; simp; omega))⟩
      have HLA : Hid (Laid (wr.alloc (.cells #[.int .i64 a.1, .int .i64 a.2.1, .int .i64 a.2.2] 42)) (wr.alloc (.cells #[.int .i64 a.1, .int .i64 a.2.1, .int .i64 a.2.2] 42)).drew) := (Laid.refl _).drew
      have HA : Hid (xs[k]? = some a) := ha
      clear q0 q1 q2 ha
      by_cases hk0 : (0 : Int) < k
      · obtain ⟨j, rfl⟩ : ∃ j, k = j + 1 := ⟨k - 1, by omega⟩
        obtain ⟨p, hp⟩ : ∃ p, xs[j]? = some p := ⟨xs[j], List.getElem?_eq_getElem (by omega)⟩
        have hneg : endsI p a < 0 := HR.out.2 j p a (by omega) hp HA.out
        obtain ⟨b', off', hao', _, r0, r1, r2⟩ := HL.out.at hp
        cases hao'
        have HBY : Hid (∀ wx, Calls Try.prog 22 #[arcV p, arcV a] wx fun e w' => e = .returned (.int .i64 (endsI p a)) ∧ Laid wx w') := fun wx => byEnds_calls p a wx
        have hge : ¬ (0 : Int) ≤ endsI p a := by omega
        generalize endsI p a = E at *
        clear hneg
        obtain ⟨a0, a1, a2⟩ := a
        obtain ⟨p0, p1, p2⟩ := p
        unfold arcV at HIL HBY
        simp only at *
        have HCP : Hid (∀ wx, Laid (wr.alloc (.cells #[.int .i64 a0, .int .i64 a1, .int .i64 a2] 42)) wx → wx.cell? ⟨b, off + j * 3, none⟩ = some (.int .i64 p0) ∧ wx.cell? ⟨b, off + j * 3 + 1, none⟩ = some (.int .i64 p1) ∧ wx.cell? ⟨b, off + j * 3 + 2, none⟩ = some (.int .i64 p2)) := fun wx h => by
          have hB := (HCL.out wx h).2.2.2.2.2
          exact ⟨(hB.cell (p := ⟨b, off + j * 3, none⟩) hbl).trans r0, (hB.cell (p := ⟨b, off + j * 3 + 1, none⟩) hbl).trans r1, (hB.cell (p := ⟨b, off + j * 3 + 2, none⟩) hbl).trans r2⟩
        obtain ⟨s0, s1, s2⟩ : wr.cell? ⟨b, off + j * 3, none⟩ = some (.int .i64 p0) ∧ wr.cell? ⟨b, off + j * 3 + 1, none⟩ = some (.int .i64 p1) ∧ wr.cell? ⟨b, off + j * 3 + 2, none⟩ = some (.int .i64 p2) := ⟨(HBW.out.cell (p := ⟨b, off + j * 3, none⟩) hbl).trans r0, (HBW.out.cell (p := ⟨b, off + j * 3 + 1, none⟩) hbl).trans r1, (HBW.out.cell (p := ⟨b, off + j * 3 + 2, none⟩) hbl).trans r2⟩
        have t1 : wr.cell? ⟨w.heap.size, 1, none⟩ = some (.slice (some ⟨b, off, none⟩) xs.length cap) := by simp [World.cell?, HBX.out]
        have hj1 : (j : Int) < xs.length := by omega
        have hj2 : j < xs.length := by omega
        have hj3 : ¬ (j : Int) < 0 := by omega
        have hj4 : (0 : Int) ≤ j := by omega
        have hj5 : ((j + 1 : Nat) : Int) - 1 = (j : Int) := by omega
        have hj6 : (j : Int) + 1 - 1 = (j : Int) := by omega
        have hj7 : IntKind.i64.wrap (j : Int) = (j : Int) := by rw [IntKind.wrap_i64] <;> omega
        have hj8 : IntKind.i64.wrap ((j : Int) + 1 - 1) = (j : Int) := by rw [IntKind.wrap_i64] <;> omega
        have hj9 : IntKind.i64.wrap (((j + 1 : Nat) : Int) - 1) = (j : Int) := by rw [IntKind.wrap_i64] <;> omega
        clear r0 r1 r2 hp HA
        go_wp2_with fail
        go_region_held3 (fun w' => w'.cell? ⟨wr.heap.size, 0, none⟩ = some (.int .i64 a0) ∧ w'.cell? ⟨wr.heap.size, 1, none⟩ = some (.int .i64 a1) ∧ w'.cell? ⟨wr.heap.size, 2, none⟩ = some (.int .i64 a2) ∧ w'.cell? ⟨w.heap.size, 1, none⟩ = some (.slice (some ⟨b, off, none⟩) xs.length cap) ∧ w'.cell? ⟨b, off + j * 3, none⟩ = some (.int .i64 p0) ∧ w'.cell? ⟨b, off + j * 3 + 1, none⟩ = some (.int .i64 p1) ∧ w'.cell? ⟨b, off + j * 3 + 2, none⟩ = some (.int .i64 p2)) (go_keep) (first
          | (go_at_call 18; refine (HIL.out _).mono ?_; rintro e w2 ⟨rfl, hL2⟩; have HL2 : Hid (Laid (wr.alloc (.cells #[.int .i64 a0, .int .i64 a1, .int .i64 a2] 42)) w2) := HLA.out.trans hL2; obtain ⟨g0, g1, g2, g3, _, _⟩ := HCL.out w2 HL2.out; obtain ⟨g4, g5, g6⟩ := HCP.out w2 HL2.out; clear hL2)
          | (go_at_call 22; refine (HBY.out _).mono ?_; rintro e w3 ⟨rfl, hL3⟩; have HL3 : Hid (Laid (wr.alloc (.cells #[.int .i64 a0, .int .i64 a1, .int .i64 a2] 42)) w3) := HL2.out.trans hL3; obtain ⟨i0, i1, i2, i3, _, _⟩ := HCL.out w3 HL3.out; obtain ⟨i4, i5, i6⟩ := HCP.out w3 HL3.out; clear hL3))
        all_goals
          obtain ⟨_, _, _, _, hx3, hB3⟩ := HCL.out w3 HL3.out
          have HX3 : Hid (w3.heap[w.heap.size]? = some (.cells #[.int .i64 N, .slice (some ⟨b, off, none⟩) xs.length cap] 24) ∧ Below w.heap.size w w3) := ⟨hx3, hB3⟩
          clear hx3 hB3
          go_wp2
          go_roundw
          case rel => exact ⟨j + 1 + 1, by omega, by go_num, HX3.out.1, HX3.out.2⟩
          case measure => simp [intOf]; omega
      · obtain ⟨a0, a1, a2⟩ := a
        unfold arcV at HIL
        simp only at *
        go_wp2_with fail
        obtain rfl : k = 0 := by omega

        refine wp_region_any (by kernel_rfl) ?_
        change wpAny _ _ _ _ _ _ _ (World.drew _)
        refine wpAny_ready (rs := [0]) (by kernel_rfl) (by simp) ?_
        refine AllReady.cons rfl (fun K1 hK1 => ?_) AllReady.nil
        go_simp
        refine hK1 _ _ ?_
        clear hK1 K1
        refine wpAny_ready (rs := [1]) (by kernel_rfl) (by simp) ?_
        refine AllReady.cons rfl (fun K1 hK1 => ?_) AllReady.nil
        go_simp
        refine (HIL.out _).mono ?_
        rintro e w2 ⟨rfl, hL2⟩
        have HL2 : Hid (Laid (wr.alloc (.cells #[.int .i64 a0, .int .i64 a1, .int .i64 a2] 42)) w2) := HLA.out.trans hL2
        clear hL2
        refine hK1 _ _ ?_
        clear hK1 K1
        refine wpAny_take_at (i := 2) (d := some 22) (v := .bool false) rfl rfl (by kernel_rfl) (by kernel_rfl) (by kernel_rfl) (fun _ _ _ h => h) (Or.inl ⟨by kernel_rfl, fun w => by kernel_rfl⟩) ?_
        refine wpAny_take_at (i := 3) (d := some 23) (v := .int .i64 ((0 : Nat) : Int)) rfl rfl (by kernel_rfl) (by kernel_rfl) (by kernel_rfl) (fun _ _ _ h => h) (Or.inl ⟨by kernel_rfl, fun w => by kernel_rfl⟩) ?_
        refine wpAny_take_at (i := 4) (d := some 24) (v := .bool false) rfl rfl (by kernel_rfl) (by kernel_rfl) (by kernel_rfl) (fun _ _ _ h => h) (Or.inl ⟨by kernel_rfl, fun w => by kernel_rfl⟩) ?_
        refine wpAny_take_at (i := 5) (d := some 25) (v := .bool false) rfl rfl (by kernel_rfl) (by kernel_rfl) (by kernel_rfl) (fun _ _ _ h => h) (Or.inl ⟨by kernel_rfl, fun w => by kernel_rfl⟩) ?_
        refine wpAny_take_at (i := 6) (d := some 26) (v := undef) rfl rfl (by kernel_rfl) (by kernel_rfl) (by kernel_rfl) (fun _ _ _ h => h) (Or.inr ⟨by kernel_rfl, rfl⟩) ?_
        refine wpAny_take_at (i := 7) (d := some 27) (v := undef) rfl rfl (by kernel_rfl) (by kernel_rfl) (by kernel_rfl) (fun _ _ _ h => h) (Or.inr ⟨by kernel_rfl, rfl⟩) ?_
        refine wpAny_take_at (i := 8) (d := some 28) (v := undef) rfl rfl (by kernel_rfl) (by kernel_rfl) (by kernel_rfl) (fun _ _ _ h => h) (Or.inr ⟨by kernel_rfl, rfl⟩) ?_
        refine wpAny_take_at (i := 9) (d := some 29) (v := undef) rfl rfl (by kernel_rfl) (by kernel_rfl) (by kernel_rfl) (fun _ _ _ h => h) (Or.inr ⟨by kernel_rfl, rfl⟩) ?_
        refine wpAny_take_at (i := 10) (d := some 30) (v := undef) rfl rfl (by kernel_rfl) (by kernel_rfl) (by kernel_rfl) (fun _ _ _ h => h) (Or.inr ⟨by kernel_rfl, rfl⟩) ?_
        refine wpAny_take_at (i := 11) (d := some 31) (v := undef) rfl rfl (by kernel_rfl) (by kernel_rfl) (by kernel_rfl) (fun _ _ _ h => h) (Or.inr ⟨by kernel_rfl, rfl⟩) ?_
        refine wpAny_take_at (i := 12) (d := some 32) (v := undef) rfl rfl (by kernel_rfl) (by kernel_rfl) (by kernel_rfl) (fun _ _ _ h => h) (Or.inr ⟨by kernel_rfl, rfl⟩) ?_
        refine wpAny_take_at (i := 13) (d := some 33) (v := undef) rfl rfl (by kernel_rfl) (by kernel_rfl) (by kernel_rfl) (fun _ _ _ h => h) (Or.inr ⟨by kernel_rfl, rfl⟩) ?_
        refine wpAny_take_at (i := 14) (d := some 34) (v := undef) rfl rfl (by kernel_rfl) (by kernel_rfl) (by kernel_rfl) (fun _ _ _ h => h) (Or.inr ⟨by kernel_rfl, rfl⟩) ?_
        refine wpAny_take_at (i := 15) (d := some 35) (v := .bool false) rfl rfl (by kernel_rfl) (by kernel_rfl) (by kernel_rfl) (fun _ _ _ h => h) (Or.inl ⟨by kernel_rfl, fun w => by kernel_rfl⟩) ?_
        refine wpAny_take_at (i := 16) (d := some 36) (v := .bool false) rfl rfl (by kernel_rfl) (by kernel_rfl) (by kernel_rfl) (fun _ _ _ h => h) (Or.inl ⟨by kernel_rfl, fun w => by kernel_rfl⟩) ?_
        refine wpAny_done (by kernel_rfl) ?_ _
        refine (congrArg (fun A => Exit.then _ _ Exit.normal A w2) (show ({ tmps := #[.agg #[.int .i64 N, .slice (some ⟨b, off, none⟩) xs.length cap], .pointer (some ⟨w.heap.size, 0, none⟩), u2, u3, .nilIface, .int .i64 0, .pointer (some ⟨wr.heap.size, 0, none⟩), .agg #[.int .i64 N, .slice (some ⟨b, off, none⟩) xs.length cap], .nilIface, .nilIface, .bool false, undef, .pointer (some ⟨w.heap.size, 1, none⟩), .slice (some ⟨b, off, none⟩) xs.length cap, .int .i64 xs.length, .int .i64 0, .bool true, .int .i64 0, .pointer (some ⟨b, off, none⟩), .agg #[.int .i64 a0, .int .i64 a1, .int .i64 a2], .agg #[.int .i64 a0, .int .i64 a1, .int .i64 a2], .bool false, .bool false, .int .i64 0, .bool false, .bool false, undef, undef, undef, undef, undef, undef, undef, undef, undef, .bool false, .bool false, u37], defers := [] } : Act) = _ from by kernel_rfl)).mp ?_
        obtain ⟨_, _, _, _, hx2, hB2⟩ := HCL.out w2 HL2.out
        have HX2 : Hid (w2.heap[w.heap.size]? = some (.cells #[.int .i64 N, .slice (some ⟨b, off, none⟩) xs.length cap] 24) ∧ Below w.heap.size w w2) := ⟨hx2, hB2⟩
        clear hx2 hB2
        go_wp2
        go_roundw
        case rel => exact ⟨1, by omega, by go_num, HX2.out.1, HX2.out.2⟩
        case measure => simp [intOf]; omega
    · obtain rfl : k = m := by omega
      have hlt : k < xs.length := hml
      obtain ⟨b, off, hao, hbl, q0, q1, q2⟩ := HL.out.at HBA.out
      subst hao
      have e0 := (HBW.out.cell (p := ⟨b, off + k * 3, none⟩) hbl).trans q0
      have e1 := (HBW.out.cell (p := ⟨b, off + k * 3 + 1, none⟩) hbl).trans q1
      have e2 := (HBW.out.cell (p := ⟨b, off + k * 3 + 2, none⟩) hbl).trans q2
      have hbl' : b < wr.heap.size := Nat.lt_of_lt_of_le hbl HBW.out.size
      have hw0 : w.heap.size < wr.heap.size := lt_of_get HBX.out
      have HILX : Hid (∀ wx, Calls Try.prog 18 #[arcV a] wx fun e w' => e = .returned (.bool (a.1 == a.2.1)) ∧ Laid wx w') := fun wx => isLoop_calls a wx
      have HCL : Hid (∀ wx, Laid (wr.alloc (.cells #[.int .i64 a.1, .int .i64 a.2.1, .int .i64 a.2.2] 42)) wx → wx.cell? ⟨wr.heap.size, 0, none⟩ = some (.int .i64 a.1) ∧ wx.cell? ⟨wr.heap.size, 1, none⟩ = some (.int .i64 a.2.1) ∧ wx.cell? ⟨wr.heap.size, 2, none⟩ = some (.int .i64 a.2.2) ∧ wx.cell? ⟨w.heap.size, 1, none⟩ = some (.slice (some ⟨b, off, none⟩) xs.length cap) ∧ wx.heap[w.heap.size]? = some (.cells #[.int .i64 N, .slice (some ⟨b, off, none⟩) xs.length cap] 24) ∧ Below w.heap.size w wx) := fun wx h => by
        have hn : wx.heap[wr.heap.size]? = some (.cells #[.int .i64 a.1, .int .i64 a.2.1, .int .i64 a.2.2] 42) := (h.block (by simp)).trans (heap_new _ _)
        have hx : wx.heap[w.heap.size]? = some (.cells #[.int .i64 N, .slice (some ⟨b, off, none⟩) xs.length cap] 24) := (h.block (by simp; omega)).trans ((Below.heap_alloc _ _ _ hw0).trans HBX.out)
        exact ⟨by simp [World.cell?, hn], by simp [World.cell?, hn], by simp [World.cell?, hn], by simp [World.cell?, hx], hx, (HBW.out.alloc HBW.out.size _).trans (h.below.mono (by have := HBW.out.size; simp; omega))⟩
      have HLA : Hid (Laid (wr.alloc (.cells #[.int .i64 a.1, .int .i64 a.2.1, .int .i64 a.2.2] 42)) (wr.alloc (.cells #[.int .i64 a.1, .int .i64 a.2.1, .int .i64 a.2.2] 42)).drew) := (Laid.refl _).drew
      clear q0 q1 q2
      have t1' : wr.cell? ⟨w.heap.size, 1, none⟩ = some (.slice (some ⟨b, off, none⟩) xs.length cap) := by simp [World.cell?, HBX.out]
      rcases HWY.out with hloop | ⟨hnl, j, p, hkj, hp, hneg⟩
      · obtain ⟨a0, a1, a2⟩ := a
        have HIL : Hid (∀ wx, Calls Try.prog 18 #[.agg #[.int .i64 a0, .int .i64 a1, .int .i64 a2]] wx fun e w' => e = .returned (.bool true) ∧ Laid wx w') := fun wx => by
          have h := HILX.out wx
          unfold arcV at h
          rw [show (a0 == a1) = true by simpa using hloop] at h
          exact h
        simp only at *
        clear hloop HILX
        go_wp2_with fail
        refine wp_region_any (by kernel_rfl) ?_
        change wpAny _ _ _ _ _ _ _ (World.drew _)
        refine wpAny_ready (rs := [0]) (by kernel_rfl) (by simp) ?_
        refine AllReady.cons rfl (fun K1 hK1 => ?_) AllReady.nil
        go_simp
        refine hK1 _ _ ?_
        clear hK1 K1
        refine wpAny_ready (rs := [1]) (by kernel_rfl) (by simp) ?_
        refine AllReady.cons rfl (fun K1 hK1 => ?_) AllReady.nil
        go_simp
        refine (HIL.out _).mono ?_
        rintro e w2 ⟨rfl, hL2⟩
        have HL2 : Hid (Laid (wr.alloc (.cells #[.int .i64 a0, .int .i64 a1, .int .i64 a2] 42)) w2) := HLA.out.trans hL2
        clear hL2
        refine hK1 _ _ ?_
        clear hK1 K1
        refine wpAny_take_at (i := 2) (d := some 22) (v := .bool true) rfl rfl (by kernel_rfl) (by kernel_rfl) (by kernel_rfl) (fun _ _ _ h => h) (Or.inl ⟨by kernel_rfl, fun w => by kernel_rfl⟩) ?_
        refine wpAny_take_at (i := 3) (d := some 23) (v := undef) rfl rfl (by kernel_rfl) (by kernel_rfl) (by kernel_rfl) (fun _ _ _ h => h) (Or.inr ⟨by kernel_rfl, rfl⟩) ?_
        refine wpAny_take_at (i := 4) (d := some 24) (v := undef) rfl rfl (by kernel_rfl) (by kernel_rfl) (by kernel_rfl) (fun _ _ _ h => h) (Or.inr ⟨by kernel_rfl, rfl⟩) ?_
        refine wpAny_take_at (i := 5) (d := some 25) (v := undef) rfl rfl (by kernel_rfl) (by kernel_rfl) (by kernel_rfl) (fun _ _ _ h => h) (Or.inr ⟨by kernel_rfl, rfl⟩) ?_
        refine wpAny_take_at (i := 6) (d := some 26) (v := undef) rfl rfl (by kernel_rfl) (by kernel_rfl) (by kernel_rfl) (fun _ _ _ h => h) (Or.inr ⟨by kernel_rfl, rfl⟩) ?_
        refine wpAny_take_at (i := 7) (d := some 27) (v := undef) rfl rfl (by kernel_rfl) (by kernel_rfl) (by kernel_rfl) (fun _ _ _ h => h) (Or.inr ⟨by kernel_rfl, rfl⟩) ?_
        refine wpAny_take_at (i := 8) (d := some 28) (v := undef) rfl rfl (by kernel_rfl) (by kernel_rfl) (by kernel_rfl) (fun _ _ _ h => h) (Or.inr ⟨by kernel_rfl, rfl⟩) ?_
        refine wpAny_take_at (i := 9) (d := some 29) (v := undef) rfl rfl (by kernel_rfl) (by kernel_rfl) (by kernel_rfl) (fun _ _ _ h => h) (Or.inr ⟨by kernel_rfl, rfl⟩) ?_
        refine wpAny_take_at (i := 10) (d := some 30) (v := undef) rfl rfl (by kernel_rfl) (by kernel_rfl) (by kernel_rfl) (fun _ _ _ h => h) (Or.inr ⟨by kernel_rfl, rfl⟩) ?_
        refine wpAny_take_at (i := 11) (d := some 31) (v := undef) rfl rfl (by kernel_rfl) (by kernel_rfl) (by kernel_rfl) (fun _ _ _ h => h) (Or.inr ⟨by kernel_rfl, rfl⟩) ?_
        refine wpAny_take_at (i := 12) (d := some 32) (v := undef) rfl rfl (by kernel_rfl) (by kernel_rfl) (by kernel_rfl) (fun _ _ _ h => h) (Or.inr ⟨by kernel_rfl, rfl⟩) ?_
        refine wpAny_take_at (i := 13) (d := some 33) (v := undef) rfl rfl (by kernel_rfl) (by kernel_rfl) (by kernel_rfl) (fun _ _ _ h => h) (Or.inr ⟨by kernel_rfl, rfl⟩) ?_
        refine wpAny_take_at (i := 14) (d := some 34) (v := undef) rfl rfl (by kernel_rfl) (by kernel_rfl) (by kernel_rfl) (fun _ _ _ h => h) (Or.inr ⟨by kernel_rfl, rfl⟩) ?_
        refine wpAny_take_at (i := 15) (d := some 35) (v := undef) rfl rfl (by kernel_rfl) (by kernel_rfl) (by kernel_rfl) (fun _ _ _ h => h) (Or.inr ⟨by kernel_rfl, rfl⟩) ?_
        refine wpAny_take_at (i := 16) (d := some 36) (v := .bool true) rfl rfl (by kernel_rfl) (by kernel_rfl) (by kernel_rfl) (fun _ _ _ h => h) (Or.inl ⟨by kernel_rfl, fun w => by kernel_rfl⟩) ?_
        refine wpAny_done (by kernel_rfl) ?_ _
        refine (congrArg (fun A => Exit.then _ _ Exit.normal A w2) (show ({ tmps := #[.agg #[.int .i64 N, .slice (some ⟨b, off, none⟩) xs.length cap], .pointer (some ⟨w.heap.size, 0, none⟩), u2, u3, .nilIface, .int .i64 k, .pointer (some ⟨wr.heap.size, 0, none⟩), .agg #[.int .i64 N, .slice (some ⟨b, off, none⟩) xs.length cap], .nilIface, .nilIface, .bool false, undef, .pointer (some ⟨w.heap.size, 1, none⟩), .slice (some ⟨b, off, none⟩) xs.length cap, .int .i64 xs.length, .int .i64 k, .bool true, .int .i64 k, .pointer (some ⟨b, off + k * 3, none⟩), .agg #[.int .i64 a0, .int .i64 a1, .int .i64 a2], .agg #[.int .i64 a0, .int .i64 a1, .int .i64 a2], .bool true, .bool true, undef, undef, undef, undef, undef, undef, undef, undef, undef, undef, undef, undef, undef, .bool true, u37], defers := [] } : Act) = _ from by kernel_rfl)).mp ?_
        obtain ⟨_, _, _, _, _, hB2⟩ := HCL.out w2 HL2.out
        have HX3 : Hid (Below w.heap.size w w2) := hB2
        clear hB2
        go_wp2
        exact bodyPost_ret (v := .tuple #[.bool false, .nilIface]) (by simp [results, Try.results10, go_sem]) rfl ⟨rfl, HX3.out⟩
      · have HIL : Hid (∀ wx, Calls Try.prog 18 #[arcV a] wx fun e w' => e = .returned (.bool false) ∧ Laid wx w') := fun wx => by
          have h := HILX.out wx
          rw [show (a.1 == a.2.1) = false by simpa using hnl] at h
          exact h
        clear HILX hnl HWY
        subst hkj
        have hk0 : (0 : Int) < ((j + 1 : Nat) : Int) := by omega
        obtain ⟨b', off', hao', _, r0, r1, r2⟩ := HL.out.at hp
        cases hao'
        have HBY : Hid (∀ wx, Calls Try.prog 22 #[arcV p, arcV a] wx fun e w' => e = .returned (.int .i64 (endsI p a)) ∧ Laid wx w') := fun wx => byEnds_calls p a wx
        have hge : (0 : Int) ≤ endsI p a := hneg
        generalize endsI p a = E at *
        clear hneg
        obtain ⟨a0, a1, a2⟩ := a
        obtain ⟨p0, p1, p2⟩ := p
        unfold arcV at HIL HBY
        simp only at *
        have HCP : Hid (∀ wx, Laid (wr.alloc (.cells #[.int .i64 a0, .int .i64 a1, .int .i64 a2] 42)) wx → wx.cell? ⟨b, off + j * 3, none⟩ = some (.int .i64 p0) ∧ wx.cell? ⟨b, off + j * 3 + 1, none⟩ = some (.int .i64 p1) ∧ wx.cell? ⟨b, off + j * 3 + 2, none⟩ = some (.int .i64 p2)) := fun wx h => by
          have hB := (HCL.out wx h).2.2.2.2.2
          exact ⟨(hB.cell (p := ⟨b, off + j * 3, none⟩) hbl).trans r0, (hB.cell (p := ⟨b, off + j * 3 + 1, none⟩) hbl).trans r1, (hB.cell (p := ⟨b, off + j * 3 + 2, none⟩) hbl).trans r2⟩
        obtain ⟨s0, s1, s2⟩ : wr.cell? ⟨b, off + j * 3, none⟩ = some (.int .i64 p0) ∧ wr.cell? ⟨b, off + j * 3 + 1, none⟩ = some (.int .i64 p1) ∧ wr.cell? ⟨b, off + j * 3 + 2, none⟩ = some (.int .i64 p2) := ⟨(HBW.out.cell (p := ⟨b, off + j * 3, none⟩) hbl).trans r0, (HBW.out.cell (p := ⟨b, off + j * 3 + 1, none⟩) hbl).trans r1, (HBW.out.cell (p := ⟨b, off + j * 3 + 2, none⟩) hbl).trans r2⟩
        have t1 : wr.cell? ⟨w.heap.size, 1, none⟩ = some (.slice (some ⟨b, off, none⟩) xs.length cap) := by simp [World.cell?, HBX.out]
        have hj1 : (j : Int) < xs.length := by omega
        have hj2 : j < xs.length := by omega
        have hj3 : ¬ (j : Int) < 0 := by omega
        have hj4 : (0 : Int) ≤ j := by omega
        have hj5 : ((j + 1 : Nat) : Int) - 1 = (j : Int) := by omega
        have hj6 : (j : Int) + 1 - 1 = (j : Int) := by omega
        have hj7 : IntKind.i64.wrap (j : Int) = (j : Int) := by rw [IntKind.wrap_i64] <;> omega
        have hj8 : IntKind.i64.wrap ((j : Int) + 1 - 1) = (j : Int) := by rw [IntKind.wrap_i64] <;> omega
        have hj9 : IntKind.i64.wrap (((j + 1 : Nat) : Int) - 1) = (j : Int) := by rw [IntKind.wrap_i64] <;> omega
        clear r0 r1 r2 hp
        go_wp2_with fail
        go_region_held3 (fun w' => w'.cell? ⟨wr.heap.size, 0, none⟩ = some (.int .i64 a0) ∧ w'.cell? ⟨wr.heap.size, 1, none⟩ = some (.int .i64 a1) ∧ w'.cell? ⟨wr.heap.size, 2, none⟩ = some (.int .i64 a2) ∧ w'.cell? ⟨w.heap.size, 1, none⟩ = some (.slice (some ⟨b, off, none⟩) xs.length cap) ∧ w'.cell? ⟨b, off + j * 3, none⟩ = some (.int .i64 p0) ∧ w'.cell? ⟨b, off + j * 3 + 1, none⟩ = some (.int .i64 p1) ∧ w'.cell? ⟨b, off + j * 3 + 2, none⟩ = some (.int .i64 p2)) (go_keep) (first
          | (go_at_call 18; refine (HIL.out _).mono ?_; rintro e w2 ⟨rfl, hL2⟩; have HL2 : Hid (Laid (wr.alloc (.cells #[.int .i64 a0, .int .i64 a1, .int .i64 a2] 42)) w2) := HLA.out.trans hL2; obtain ⟨g0, g1, g2, g3, _, _⟩ := HCL.out w2 HL2.out; obtain ⟨g4, g5, g6⟩ := HCP.out w2 HL2.out; clear hL2)
          | (go_at_call 22; refine (HBY.out _).mono ?_; rintro e w3 ⟨rfl, hL3⟩; have HL3 : Hid (Laid (wr.alloc (.cells #[.int .i64 a0, .int .i64 a1, .int .i64 a2] 42)) w3) := HL2.out.trans hL3; obtain ⟨i0, i1, i2, i3, _, _⟩ := HCL.out w3 HL3.out; obtain ⟨i4, i5, i6⟩ := HCP.out w3 HL3.out; clear hL3))
        all_goals
          obtain ⟨_, _, _, _, hx3, hB3⟩ := HCL.out w3 HL3.out
          have HX3 : Hid (w3.heap[w.heap.size]? = some (.cells #[.int .i64 N, .slice (some ⟨b, off, none⟩) xs.length cap] 24) ∧ Below w.heap.size w w3) := ⟨hx3, hB3⟩
          clear hx3 hB3
          go_wp2
          exact bodyPost_ret (v := .tuple #[.bool false, .nilIface]) (by simp [results, Try.results10, go_sem]) rfl ⟨rfl, HX3.out.2⟩
end Go.Proofs.Ytbfopkhdngfanaa
