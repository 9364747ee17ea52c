/- viaductseen.Same, where an error of the program is the one that is wanted: it says so. -/
import Derived.Test.YtbkclhaonbjobaaGreatDoorErrZ
import Derived.Test.YtbkclhaonbjobaaGreatDoorCheck
import Derived.Deep.RegionWith
import Derived.Deep.RegionHeld
namespace Go.Proofs.YtbkclhaonbjobaaGreatDoor
open Go.RowKit Go.Extern

attribute [local go_sem] Oper.semAt_some

/-- the listed variable of package errors. -/
def HasType (w : World) : Prop := w.cell? ⟨0, 0, none⟩ = some (.iface 173 (.agg #[.pointer (some ⟨1, 38, none⟩)]))
theorem HasType.pos {w : World} (h : HasType w) : 0 < w.heap.size := by
  rcases Nat.eq_zero_or_pos w.heap.size with h0 | h0
  · simp [HasType, World.cell?, Array.getElem?_eq_none (show w.heap.size ≤ 0 by omega)] at h
  · exact h0
theorem HasType.keep {w w' : World} {n : Nat} (h : HasType w) (hb : Below n w w') (hn : 0 < n) : HasType w' := (hb.cell (p := ⟨0, 0, none⟩) hn).trans h
/-- a slice whose places lie in memory. -/
def HasPlaces (w : World) (lv : Value) (ps : List (Int × Int)) : Prop :=
  ∃ ao cap, lv = .slice ao ps.length cap ∧ ∀ j p, ps[j]? = some p → ∃ b off, ao = some ⟨b, off, none⟩ ∧ b < w.heap.size ∧
    w.cell? ⟨b, off + j * 2, none⟩ = some (.int .i64 p.1) ∧ w.cell? ⟨b, off + j * 2 + 1, none⟩ = some (.int .i64 p.2)
theorem HasPlaces.keep {w w' : World} {lv : Value} {ps : List (Int × Int)} (h : HasPlaces w lv ps) (hb : Below w.heap.size w w') : HasPlaces w' lv ps := by
  obtain ⟨ao, cap, e, hc⟩ := h
  refine ⟨ao, cap, e, fun j p hj => ?_⟩
  obtain ⟨b, off, ea, hl, h0, h1⟩ := hc j p hj
  exact ⟨b, off, ea, Nat.lt_of_lt_of_le hl hb.size, (hb.cell (p := ⟨b, _, none⟩) hl).trans h0, (hb.cell (p := ⟨b, _, none⟩) hl).trans h1⟩

theorem bad_calls (C : Int) (mo : Option Addr) (l cap : Nat) (w : World) :
    Calls Tryz.prog 27 #[.agg #[.int .i64 C, .slice mo l cap]] w fun e w' => e = .returned (.bool (C != 0 || decide (0 < l))) ∧ Below w.heap.size w w' := by
  have HB : Hid (Below w.heap.size w (w.alloc (.cells #[.int .i64 C, .slice mo l cap] 44))) := (Below.refl _ w).alloc (Nat.le_refl _) _
  by_cases hC : C = 0
  · subst hC
    by_cases hl : 0 < l
    · have h1 : decide (0 < l) = true := decide_eq_true hl
      have h2 : decide ((0 : Int) < (l : Int)) = true := decide_eq_true (by omega)
      rw [h1]
      go_enter Tryz.func27, Tryz.ntmps27
      go_wp2
      go_ret
      exact ⟨rfl, HB.out⟩
    · obtain rfl : l = 0 := by omega
      go_enter Tryz.func27, Tryz.ntmps27
      go_wp2
      go_ret
      exact ⟨rfl, HB.out⟩
  · have h1 : (C != 0) = true := by simpa using hC
    rw [h1, Bool.true_or]
    go_enter Tryz.func27, Tryz.ntmps27
    go_wp2
    go_ret
    exact ⟨rfl, HB.out⟩

set_option maxRecDepth 100000 in
set_option maxHeartbeats 1000000 in
theorem seen_none (lo : Option Addr) (cap : Nat) (w : World) :
    Calls Tryz.prog 12 #[.nilIface, .agg #[.int .i64 0, .slice lo 0 cap]] w fun e w' => e = .returned (.bool true) ∧ Below w.heap.size w w' := by
  have HB : Hid (Below w.heap.size w (w.alloc (.cells #[.int .i64 0, .slice lo 0 cap] 44))) := (Below.refl _ w).alloc (Nat.le_refl _) _
  go_enter Tryz.func12, Tryz.ntmps12
  go_wp2_with fail
  refine (bad_calls _ _ _ _ _).mono ?_
  rintro e w1 ⟨rfl, hb⟩
  have HB1 : Hid (Below w.heap.size w w1) := HB.out.trans (hb.mono HB.out.size)
  clear hb
  go_wp2
  go_ret
  exact ⟨rfl, HB1.out⟩

set_option maxRecDepth 100000 in
set_option maxHeartbeats 4000000 in
theorem seen_calls (C : Int) (hC : C ≠ 0) (ps : List (Int × Int)) (v : Value) (lo : Option Addr) (cap : Nat) (w : World) (hv : IsErr w (.iface 59 (.int .i64 C)) ps v) (hp : HasPlaces w (.slice lo ps.length cap) ps) (hm : ps.length ≤ maxLen) (hg : HasType w) :
    Calls Tryz.prog 12 #[v, .agg #[.int .i64 C, .slice lo ps.length cap]] w fun e w' => e = .returned (.bool true) ∧ Below w.heap.size w w' := by
  unfold maxLen at hm
  obtain ⟨W0, hW0⟩ : ∃ W0, w.alloc (.cells #[.int .i64 C, .slice lo ps.length cap] 44) = W0 := ⟨_, rfl⟩
  have hB0 : Below w.heap.size w W0 := by rw [← hW0]; exact (Below.refl _ w).alloc (Nat.le_refl _) _
  have hN0 : W0.heap[w.heap.size]? = some (.cells #[.int .i64 C, .slice lo ps.length cap] 44) := by rw [← hW0]; exact heap_new _ _
  have HW0 : Hid (w.alloc (.cells #[.int .i64 C, .slice lo ps.length cap] 44) = W0) := hW0
  have HB0 : Hid (Below w.heap.size w W0) := hB0
  have hp0 : 0 < W0.heap.size := Nat.lt_of_lt_of_le hg.pos hB0.size
  have HG0 : Hid (HasType W0) := hg.keep hB0 hg.pos
  have HV0 : Hid (IsErr W0 (.iface 59 (.int .i64 C)) ps v) := hv.keep (Below.keeps hB0)
  have HP0 : Hid (HasPlaces W0 (.slice lo ps.length cap) ps) := hp.keep hB0
  have HK : Hid (∀ wx, Below W0.heap.size W0 wx → wx.cell? ⟨w.heap.size, 0, none⟩ = some (.int .i64 C) ∧ wx.cell? ⟨w.heap.size, 1, none⟩ = some (.slice lo ps.length cap) ∧ w.heap.size < wx.heap.size ∧ HasType wx ∧ IsErr wx (.iface 59 (.int .i64 C)) ps v ∧ Below w.heap.size w wx) := fun wx h => by
    have hn := (h.block _ (lt_of_get hN0)).trans hN0
    exact ⟨by simp [World.cell?, hn], by simp [World.cell?, hn], lt_of_get hn, HG0.out.keep h hp0, HV0.out.keep (Below.keeps h), HB0.out.trans (h.mono HB0.out.size)⟩
  obtain ⟨T, x, hsh⟩ : ∃ T x, v = .iface T x := by
    cases ps with
    | nil => exact ⟨_, _, hv⟩
    | cons p r => obtain ⟨b, u, e, _⟩ := hv; exact ⟨_, _, e⟩
  subst hsh
  have hbad : (C != 0 || decide (0 < ps.length)) = true := by simp [hC]
  have HBAD : Hid (∀ wx, Calls Tryz.prog 27 #[.agg #[.int .i64 C, .slice lo ps.length cap]] wx fun e w' => e = .returned (.bool true) ∧ Below wx.heap.size wx w') := fun wx => by
    have h := bad_calls C lo ps.length cap wx
    rw [hbad] at h
    exact h
  have HIS : Hid (∀ wx m, Below W0.heap.size W0 wx → Calls Tryz.prog 35 #[.iface T x, .iface 59 (.int .i64 m)] wx fun e w' => e = .returned (.bool (C == m)) ∧ w' = wx) := fun wx m h => errorsIs_num ps C m _ wx (HK.out wx h).2.2.2.2.1
  clear hv hp hg hN0 hB0 hW0 hbad
  go_enter Tryz.func12, Tryz.ntmps12
  go_wp2_with fail
  rw [HW0.out]
  refine (HBAD.out _).mono ?_
  rintro e w1 ⟨rfl, hb1⟩
  have HB1 : Hid (Below W0.heap.size W0 w1) := hb1
  clear hb1
  obtain ⟨c0, c1, hs1, _, _, _⟩ := HK.out w1 HB1.out
  go_wp2_with fail
  go_loopw [5, 23] (fun su iv wr => ∃ k : Nat, k ≤ ps.length ∧ iv = .int .i64 k ∧ IsErr wr (.iface 59 (.int .i64 C)) (ps.drop k) su ∧ Below W0.heap.size W0 wr) (fun _ iv _ => ps.length - (intOf iv).toNat)
  case atStart => exact ⟨0, Nat.zero_le _, rfl, (HK.out w1 HB1.out).2.2.2.2.1, HB1.out⟩
  case round =>
    obtain ⟨k, hk, rfl, he, hbr⟩ := hrel
    have HBR : Hid (Below W0.heap.size W0 wr) := hbr
    have HER : Hid (IsErr wr (.iface 59 (.int .i64 C)) (ps.drop k) u5) := he
    clear he hbr c0 c1 hs1
    by_cases hlt : k < ps.length
    · obtain ⟨p, hp⟩ : ∃ p, ps[k]? = some p := ⟨ps[k], List.getElem?_eq_getElem hlt⟩
      have hd : ps.drop k = p :: ps.drop (k + 1) := by
        obtain ⟨hl, he⟩ := List.getElem?_eq_some_iff.1 hp
        rw [List.drop_eq_getElem_cons hl, he]
      have hx := HER.out
      rw [hd] at hx
      obtain ⟨b, u, hu, hb, hr⟩ := hx
      subst hu
      have HB : Hid (wr.heap[b]? = some (.cells #[.int .i64 p.1, .int .i64 p.2, u] 100)) := hb
      have HR : Hid (IsErr wr (.iface 59 (.int .i64 C)) (ps.drop (k + 1)) u) := hr
      have hbl : b < wr.heap.size := lt_of_get hb
      obtain ⟨gb, off, hlo, q0, q1⟩ : ∃ gb off, lo = some ⟨gb, off, none⟩ ∧ wr.cell? ⟨gb, off + k * 2, none⟩ = some (.int .i64 p.1) ∧ wr.cell? ⟨gb, off + k * 2 + 1, none⟩ = some (.int .i64 p.2) := by
        obtain ⟨ao', cap', e, hc⟩ := HP0.out.keep HBR.out
        injection e with e1 e2 e3
        subst e1
        obtain ⟨gb, off, ea, _, h0, h1⟩ := hc k p hp
        exact ⟨gb, off, ea, h0, h1⟩
      subst hlo
      clear hb hr hp hd
      have HAS : Hid (Calls Tryz.prog 34 #[.iface 96 (.pointer (some ⟨b, 0, none⟩)), .iface 98 (.pointer (some ⟨wr.heap.size + 1, 0, none⟩))] ((wr.alloc (.cells #[.int .i64 p.1, .int .i64 p.2] 95)).alloc (.cells #[.pointer none] 96)).drew fun e wz => e = .returned (.bool true) ∧ wz.cell? ⟨wr.heap.size + 1, 0, none⟩ = some (.pointer (some ⟨b, 0, none⟩)) ∧ wz.cell? ⟨b, 0, none⟩ = some (.int .i64 p.1) ∧ wz.cell? ⟨b, 1, none⟩ = some (.int .i64 p.2) ∧ wz.cell? ⟨b, 2, none⟩ = some u ∧ wz.cell? ⟨wr.heap.size, 0, none⟩ = some (.int .i64 p.1) ∧ wz.cell? ⟨wr.heap.size, 1, none⟩ = some (.int .i64 p.2) ∧ IsErr wz (.iface 59 (.int .i64 C)) (ps.drop (k + 1)) u ∧ Below W0.heap.size W0 wz) := by
        obtain ⟨Wf, hWf⟩ : ∃ Wf, ((wr.alloc (.cells #[.int .i64 p.1, .int .i64 p.2] 95)).alloc (.cells #[.pointer none] 96)).drew = Wf := ⟨_, rfl⟩
        have hBf : Below wr.heap.size wr Wf := by rw [← hWf]; exact (((Below.refl _ wr).alloc (Nat.le_refl _) _).alloc (by simp) _).drew
        have hsf : Wf.heap.size = wr.heap.size + 2 := by rw [← hWf]; show ((wr.alloc _).alloc _).heap.size = _; simp
        have hN0 : Wf.heap[wr.heap.size]? = some (.cells #[.int .i64 p.1, .int .i64 p.2] 95) := by
          rw [← hWf]
          show ((wr.alloc _).alloc _).heap[wr.heap.size]? = _
          rw [Below.heap_alloc _ _ _ (by simp)]; exact heap_new _ _
        have hN1 : Wf.heap[wr.heap.size + 1]? = some (.cells #[.pointer none] 96) := by
          rw [← hWf]
          have h := heap_new (wr.alloc (.cells #[.int .i64 p.1, .int .i64 p.2] 95)) (.cells #[.pointer none] 96)
          show ((wr.alloc _).alloc _).heap[wr.heap.size + 1]? = _
          simpa using h
        rw [hWf]
        have hBW := HBR.out.trans (hBf.mono HBR.out.size)
        refine (as_fault ⟨b, 0, none⟩ (wr.heap.size + 1) (.pointer none) Wf (HG0.out.keep hBW hp0) hN1).mono ?_
        rintro e wz ⟨rfl, hG, ht⟩
        have hK : ∀ j, j < wr.heap.size → wz.heap[j]? = wr.heap[j]? := fun j hj => (ht.block j (by omega) (by omega)).trans (hBf.block j hj)
        have hf := cell_of_fault ((hK b hbl).trans HB.out)
        have hpp : wz.heap[wr.heap.size]? = _ := (ht.block wr.heap.size (by omega) (by omega)).trans hN0
        exact ⟨rfl, by simp [World.cell?, hG], hf.1, hf.2.1, hf.2.2, by simp [World.cell?, hpp], by simp [World.cell?, hpp], HR.out.keep (fun j c hj => (hK j (lt_of_get hj)).trans hj), hBW.trans (ht.below (by have := HBR.out.size; omega) (by omega))⟩
      go_wp2_with fail
      go_region_with (go_at_call 34; refine HAS.out.mono ?_; rintro e wz ⟨rfl, cG, e0, e1, e2, f0, f1, hEz, hBz⟩; have HZ : Hid (IsErr wz (.iface 59 (.int .i64 C)) (ps.drop (k + 1)) u ∧ Below W0.heap.size W0 wz) := ⟨hEz, hBz⟩; clear hEz hBz)
      all_goals
        go_wp2
        go_roundw
        case rel => exact ⟨k + 1, by omega, by go_num, HZ.out.1, HZ.out.2⟩
        case measure => simp [intOf]; omega
    · obtain rfl : k = ps.length := by omega
      have hx := HER.out
      rw [List.drop_length] at hx
      have hx' : u5 = .iface 59 (.int .i64 C) := hx
      clear hx
      subst hx'
      have HA1 : Hid (∀ wx t, Below W0.heap.size W0 wx → Calls Tryz.prog 34 #[.iface 59 (.int .i64 C), .iface 98 (.pointer (some t))] wx fun e w' => e = .returned (.bool false) ∧ Below wx.heap.size wx w') := fun wx t h => as_fault_no _ t wx (HK.out wx h).2.2.2.1
      have HA2 : Hid (∀ wx, Below W0.heap.size W0 wx → Calls Tryz.prog 34 #[.iface T x, .iface 101 (.pointer (some ⟨wx.heap.size, 0, none⟩))] (wx.alloc (.cells #[.int .i64 0] 59)) fun e w' => e = .returned (.bool true) ∧ w'.cell? ⟨wx.heap.size, 0, none⟩ = some (.int .i64 C) ∧ Below W0.heap.size W0 w') := fun wx h => by
        have hb : Below W0.heap.size W0 (wx.alloc (.cells #[.int .i64 0] 59)) := h.alloc h.size _
        refine (as_num ps C _ wx.heap.size _ _ (HK.out _ hb).2.2.2.2.1 (HK.out _ hb).2.2.2.1 (heap_new _ _)).mono ?_
        rintro e w' ⟨rfl, hn, ht⟩
        exact ⟨rfl, by simp [World.cell?, hn], hb.trans (ht.below h.size (by simp))⟩
      have HBM : Hid (Below W0.heap.size W0 (wr.alloc (.cells #[.pointer none] 96))) := HBR.out.alloc HBR.out.size _
      go_wp2_with fail
      refine (HA1.out _ _ HBM.out).mono ?_
      rintro e w2 ⟨rfl, hb2⟩
      have HB2 : Hid (Below W0.heap.size W0 w2) := HBM.out.trans (hb2.mono HBM.out.size)
      clear hb2
      go_wp2_with fail
      refine (HA2.out w2 HB2.out).mono ?_
      rintro e w3 ⟨rfl, cn, hb3⟩
      have HB3 : Hid (Below W0.heap.size W0 w3) := hb3
      obtain ⟨c0, c1, hs3, _, _, _⟩ := HK.out w3 hb3
      have hcc : (C != C) = false := by simp
      clear hb3
      go_wp2_with fail
      go_loopw [11] (fun iv wr => ∃ i : Nat, 1 ≤ i ∧ i ≤ 21 ∧ iv = .int .i64 i ∧ Below W0.heap.size W0 wr) (fun iv _ => 21 - (intOf iv).toNat)
      case atStart => exact ⟨1, by omega, by omega, rfl, HB3.out⟩
      case round =>
        obtain ⟨i, hi1, hi2, rfl, hbi⟩ := hrel
        have HBI : Hid (Below W0.heap.size W0 wr) := hbi
        clear hbi c0 c1 cn hs3
        obtain ⟨d0, d1, hs4, _, _, _⟩ := HK.out wr HBI.out
        have HFB : Hid (Below w.heap.size w wr) := (HK.out wr HBI.out).2.2.2.2.2
        by_cases hle : (i : Int) ≤ 20
        · have HII : Hid (Calls Tryz.prog 35 #[.iface T x, .iface 59 (.int .i64 i)] wr.drew fun e w' => e = .returned (.bool (C == (i : Int))) ∧ w' = wr.drew) := HIS.out _ _ HBI.out.drew
          go_wp2_with fail
          go_region_held (fun w' => w'.cell? ⟨w.heap.size, 0, none⟩ = some (.int .i64 C)) (go_keep) (first | (go_at_call 35; refine HII.out.mono ?_; rintro e w' ⟨rfl, rfl⟩))
          all_goals go_wp2
          all_goals first
            | exact ⟨⟨i + 1, by omega, by omega, by go_num, HBI.out.drew⟩, by simp [intOf]; omega⟩
            | (exfalso
               rename_i hq
               have hsym : ((i : Int) == C) = (C == (i : Int)) := by rw [Bool.eq_iff_iff, beq_iff_eq, beq_iff_eq]; exact eq_comm
               rw [hsym] at hq
               simp at hq)
        · go_wp2
          go_ret
          exact ⟨rfl, HFB.out⟩
/-- the same, whatever is told. -/
theorem seen_told (e : Int × List (Int × Int)) (v : Value) (lo : Option Addr) (cap : Nat) (w : World) (hv : IsTold w e v) (hp : HasPlaces w (.slice lo e.2.length cap) e.2) (hm : e.2.length ≤ maxLen) (hg : HasType w) :
    Calls Tryz.prog 12 #[v, .agg #[.int .i64 e.1, .slice lo e.2.length cap]] w fun r w' => r = .returned (.bool true) ∧ Below w.heap.size w w' := by
  rcases hv with ⟨he, rfl⟩ | ⟨h1, h2⟩
  · subst he
    exact seen_none lo cap w
  · exact seen_calls e.1 h1 e.2 v lo cap w h2 hp hm hg
end Go.Proofs.YtbkclhaonbjobaaGreatDoor
