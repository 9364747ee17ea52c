/- an overlay's loseArcs. -/
import Derived.Test.YtnclegldhafaeaaGreatDoorOvV
namespace Go.Proofs.YtnclegldhafaeaaGreatDoor
open Go.RowKit Go.Extern Go.Sort

attribute [local go_sem] Oper.semAt_some
section
variable {w w' : World} {PX : Nat → Option Obj} {B pb ab n : Nat} {sb : Bool → Nat} {bs : List Bool} {R : Bool → Nat → Rw} {nodes arcs : Int}
set_option maxRecDepth 100000 in
set_option maxHeartbeats 4000000 in
theorem loseArcs_calls (h : OvMem PX w B pb ab sb n bs R nodes arcs) (hk : RowsOk n R) (s s' : Bool) (hss : s ≠ s') (u : Nat) (hu : u < n) (hpre : ∀ a ∈ livH bs (R s u).2.1, (R s' a.1.toNat).2.2 + 1 ≤ (R s' a.1.toNat).2.1.length) (ha : -4611686018427387904 ≤ arcs ∧ arcs ≤ 4611686018427387904) :
    Calls Tryz.prog 38 #[.pointer (some ⟨pb, 0, none⟩), .agg #[(R s u).1, .int .i64 ((R s u).2.2 : Nat)], .slice (some ⟨sb s', 0, none⟩) n n] w fun e w' => e = .returned (.tuple #[]) ∧ ∃ R', OvMem PX w' B pb ab sb n bs R' nodes (arcs - ((livH bs (R s u).2.1).length : Int)) ∧ RowsOk n R' ∧ LostR n bs s' (R s u).2.1 R R' ∧ Below B w w' := by
  have ho := h.own s u hu
  obtain ⟨l, hl⟩ : ∃ l, (R s u).2.1 = l := ⟨_, rfl⟩
  have hll := h.len hk s hu
  have hri := hk.rise s u hu
  have hno := hk.node s u hu
  obtain ⟨ao, c, hv⟩ := rowH_slice ho
  rw [hl] at hv ho hpre hll hri hno ⊢
  have HV : Hid ((R s u).1 = .slice ao l.length c ∧ (R s u).2.1 = l) := ⟨hv, hl⟩
  rw [hv]
  have HP : Hid ((∀ a ∈ livH bs l, (R s' a.1.toNat).2.2 + 1 ≤ (R s' a.1.toNat).2.1.length) ∧ RiseH l ∧ (∀ a ∈ l, 0 ≤ a.1 ∧ a.1 < (n : Int))) := ⟨hpre, hri, hno⟩
  have HU : Hid (s ≠ s' ∧ u < n) := ⟨hss, hu⟩
  have HA : Hid (-4611686018427387904 ≤ arcs ∧ arcs ≤ 4611686018427387904 ∧ (livH bs l).length ≤ 65536) := ⟨ha.1, ha.2, Nat.le_trans (livH_len _ _) hll⟩
  have HM0 : Hid (OvMem PX w B pb ab sb n bs R nodes arcs ∧ RowsOk n R) := ⟨h, hk⟩
  generalize (R s u).2.2 = gn at *
  have HBZ : Hid (B ≤ w.heap.size) := h.size
  clear h hk hv hl hpre hri hno hss hu ha ho
  go_enter Tryz.func38, Tryz.ntmps38
  go_wp2_with fail
  go_loopw [11] (fun iv wr => ∃ (k : Nat) (R' : Bool → Nat → Rw), k ≤ l.length ∧ iv = .int .i64 (k : Nat) ∧ OvMem PX wr B pb ab sb n bs R' nodes (arcs - ((livH bs (l.take k)).length : Int)) ∧ RowsOk n R' ∧ LostR n bs s' (l.take k) R R' ∧ Below B w wr) (fun iv _ => l.length - (intOf iv).toNat)
  case atStart => exact ⟨0, R, Nat.zero_le _, rfl, by have hm := HM0.out.1.keep ((Below.refl _ w).alloc (Nat.le_refl _) (.cells #[.slice ao l.length c, .int .i64 (gn : Int)] 69)); simpa [livH] using hm, HM0.out.2, LostR.start _ _ _ _ _, (Below.refl B w).alloc HBZ.out _⟩
  case round =>
    obtain ⟨k, R', hkl, rfl, hM, hK, hL, hB⟩ := hrel
    by_cases hlt : k < l.length
    · obtain ⟨a, hal⟩ : ∃ a, l[k]? = some a := ⟨l[k], List.getElem?_eq_getElem hlt⟩
      have hru : R' s u = R s u := (hL s u HU.out.2).2 (fun e => HU.out.1 e.1)
      have ho := hM.own s u HU.out.2
      rw [hru, HV.out.1, HV.out.2] at ho
      obtain ⟨b, off, rfl, bl, e0, e1, e2⟩ := (hs_of_rowH ho).at hal
      obtain ⟨n0, n1⟩ := HP.out.2.2 a (List.mem_of_getElem? hal)
      obtain ⟨a0, a1, a2⟩ := a
      simp only at e0 e1 e2 n0 n1
      obtain ⟨m, rfl⟩ : ∃ m : Nat, a0 = (m : Int) := ⟨a0.toNat, by omega⟩
      have hm : m < n := by omega
      have i1 : (k : Int) < (l.length : Int) := by omega
      have i2 : (0 : Int) ≤ (k : Int) := by omega
      have i3 : (m : Int) < (n : Int) := by omega
      have i4 : (0 : Int) ≤ (m : Int) := by omega
      obtain ⟨Wa, hWa⟩ : ∃ Wa, wr.alloc (.cells #[.int .i64 (m : Int), .int .u64 a1, .int .i64 a2] 71) = Wa := ⟨_, rfl⟩
      have bWa : Below wr.heap.size wr Wa := by rw [← hWa]; exact (Below.refl _ wr).alloc (Nat.le_refl _) _
      have hMa := hM.keep bWa
      have hha : Wa.heap[wr.heap.size]? = some (.cells #[.int .i64 (m : Int), .int .u64 a1, .int .i64 a2] 71 (0, 0)) := by rw [← hWa]; exact heap_new wr _
      have hMd := hMa.keep (Below.refl _ Wa).drew
      have HWA : Hid (wr.alloc (.cells #[.int .i64 (m : Int), .int .u64 a1, .int .i64 a2] 71) = Wa) := hWa
      have HR : Hid (OvMem PX Wa.drew B pb ab sb n bs R' nodes (arcs - ((livH bs (l.take k)).length : Int)) ∧ RowsOk n R' ∧ LostR n bs s' (l.take k) R R' ∧ Below B w Wa.drew) := ⟨hMd, hK, hL, (hB.trans (bWa.mono hM.size)).drew⟩
      have HAL : Hid (l[k]? = some ((m : Int), a1, a2)) := hal
      obtain ⟨c0, c1, c2, c3, c4, cs⟩ := hMa.cells
      have f0 := hMa.flag hm
      have g0 : Wa.cell? ⟨wr.heap.size, 0, none⟩ = some (.int .i64 (m : Int)) := by simp [World.cell?, hha]
      have l1 : wr.heap.size < Wa.heap.size := lt_of_get hha
      have l2 : ab < Wa.heap.size := lt_of_get hMa.al
      have HHA : Hid (Wa.heap[wr.heap.size]? = some (.cells #[.int .i64 (m : Int), .int .u64 a1, .int .i64 a2] 71 (0, 0)) ∧ wr.heap.size ≠ pb ∧ wr.heap.size < Wa.heap.size) := ⟨hha, fun e => by have := lt_of_get hM.box; omega, l1⟩
      clear hWa hMd hMa hha hM hK hL hB hal hru ho bWa
      have HLE : Hid ((livH bs (l.take (k + 1))).length ≤ (livH bs l).length) := ((List.take_sublist _ _).filter _).length_le
      obtain ⟨A, hA⟩ : ∃ A, arcs - ((livH bs (l.take k)).length : Int) = A := ⟨_, rfl⟩
      rw [hA] at HR c4
      cases hbm : bs[m]?.getD false with
      | true =>
        rw [hbm] at f0
        have hls := livH_take_succ (bs := bs) HAL.out
        rw [if_pos (show bs[((m : Int), a1, a2).1.toNat]?.getD false = true by simpa using hbm)] at hls
        have hle := HLE.out
        rw [hls, List.length_append, List.length_singleton] at hle
        have i5 : IntKind.i64.wrap (A - 1) = A - 1 := by have := HA.out; rw [IntKind.wrap_i64] <;> omega
        have HAF : Hid (arcs - ((livH bs (l.take (k + 1))).length : Int) = A - 1) := by show _ = _; rw [hls, List.length_append, List.length_singleton]; omega
        have hmem : ((m : Int), a1, a2) ∈ livH bs l := livH_mem.2 ⟨List.mem_of_getElem? HAL.out, by simpa using hbm⟩
        have hpm := HP.out.1 _ hmem
        simp only [Int.toNat_natCast] at hpm
        have hst := fun v' => LostR.step (v' := v') HP.out.2.1 HR.out.2.2.1 HAL.out rfl hm (by simpa using hbm)
        have hrm := (hst (.slice none 0 0)).2
        have HST : Hid (∀ v', LostR n bs s' (l.take (k + 1)) R (updS R' s' m (v', loseH bs (R' s' m).2.1 (R' s' m).2.2))) := fun v' => (hst v').1
        have hsa := HR.out.1.setArcs (A - 1)
        have HC : Hid (∀ Wc, (Wa.setCell ⟨pb, 4, none⟩ (.int .i64 (A - 1))).drew = Wc → (OvMem PX Wc.drew B pb ab sb n bs R' nodes (A - 1) ∧ Below B Wa.drew Wc.drew) ∧ Wc.cell? ⟨wr.heap.size, 0, none⟩ = some (.int .i64 (m : Int)) ∧ wr.heap.size < Wc.heap.size ∧ Calls Tryz.prog 59 #[.pointer (some ⟨sb s', m * 2, none⟩), .slice (some ⟨ab, 0, none⟩) n n] Wc.drew fun e w' => e = .returned (.tuple #[]) ∧ ∃ v', OvMem PX w' B pb ab sb n bs (updS R' s' m (v', loseH bs (R' s' m).2.1 (R' s' m).2.2)) nodes (A - 1) ∧ Below B Wc.drew w' ∧ wr.heap.size < w'.heap.size) := fun Wc e => by
          have e' : Wa.drew.setCell ⟨pb, 4, none⟩ (.int .i64 (A - 1)) = Wc := e
          clear e
          subst e'
          have hMc := hsa.1.keep (Below.refl _ _).drew
          have hl1 : wr.heap.size < (Wa.drew.setCell ⟨pb, 4, none⟩ (.int .i64 (A - 1))).heap.size := by simpa using HHA.out.2.2
          refine ⟨⟨hMc, hsa.2.drew⟩, ?_, hl1, ?_⟩
          · have hg : (Wa.drew.setCell ⟨pb, 4, none⟩ (.int .i64 (A - 1))).heap[wr.heap.size]? = some (.cells #[.int .i64 (m : Int), .int .u64 a1, .int .i64 a2] 71 (0, 0)) := (heap_setCell_other _ _ _ _ HHA.out.2.1).trans HHA.out.1
            simp [World.cell?, hg]
          · refine (hMc.lose HR.out.2.1 s' hm (by rw [hrm]; exact hpm)).mono ?_
            rintro e w' ⟨rfl, v', hm', hb'⟩
            exact ⟨rfl, v', hm', hb', Nat.lt_of_lt_of_le hl1 hb'.size⟩
        have cf : Wa.frozen? ⟨pb, 4, none⟩ = false := by
          have hb := HR.out.1.box
          have hb' : Wa.heap[pb]? = _ := hb
          simp [World.frozen?, hb']
        have cn : pb ≠ wr.heap.size := Ne.symm HHA.out.2.1
        clear hls hle hmem hpm hst hrm hsa
        go_wp2_with fail
        rw [HWA.out]
        go_region_held3 (fun w' => w'.cell? ⟨pb, 0, none⟩ = some (.slice (some ⟨ab, 0, none⟩) n n) ∧ w'.cell? ⟨wr.heap.size, 0, none⟩ = some (.int .i64 (m : Int)) ∧ w'.cell? ⟨ab, m, none⟩ = some (.bool true)) (go_keep) (first | fail)
        go_wp2_with fail
        generalize hWc : (Wa.setCell ⟨pb, 4, none⟩ (.int .i64 (A - 1))).drew = Wc
        obtain ⟨⟨hMc, hbc⟩, hgc, hlc, hcl⟩ := HC.out Wc hWc
        have HCL : Hid (type_of% hcl) := hcl
        have HBC : Hid (Below B w Wc.drew) := HR.out.2.2.2.trans hbc
        have z0 : Wc.cell? ⟨pb, 0, none⟩ = some (.slice (some ⟨ab, 0, none⟩) n n) := hMc.cells.1
        have z1 : pb < Wc.heap.size := hMc.cells.2.2.2.2.2
        have HK : Hid (RowsOk n R') := HR.out.2.1
        clear hWc HC hMc hbc hcl c0 c1 c2 c3 c4 cs f0 g0 l1 l2 cf HR HHA
        go_region_law (first | (go_simp; go_at_call 59; refine HCL.out.mono ?_; rintro e y1 ⟨rfl, v', hm', hb', hl'⟩; have Y1 : Hid (OvMem PX y1 B pb ab sb n bs (updS R' s' m (v', loseH bs (R' s' m).2.1 (R' s' m).2.2)) nodes (A - 1) ∧ Below B w y1) := ⟨hm', HBC.out.trans hb'⟩; clear hm' hb' hl'))
        all_goals
          go_wp2
          go_roundw
          case rel => exact ⟨k + 1, _, by omega, by go_num, by rw [HAF.out]; exact Y1.out.1, HK.out.lose bs s' v', HST.out v', Y1.out.2⟩
          case measure => simp [intOf]; omega
      | false =>
        rw [hbm] at f0
        have hls := livH_take_succ (bs := bs) HAL.out
        rw [if_neg (show ¬ bs[((m : Int), a1, a2).1.toNat]?.getD false = true by simp [hbm]), List.append_nil] at hls
        have HAF : Hid (arcs - ((livH bs (l.take (k + 1))).length : Int) = A) := by show _ = _; rw [hls]; exact hA
        have HST : Hid (LostR n bs s' (l.take (k + 1)) R R') := LostR.skip HR.out.2.2.1 HAL.out (by simpa using hbm)
        clear hls
        go_wp2_with fail
        rw [HWA.out]
        go_region_held3 (fun w' => w'.cell? ⟨pb, 0, none⟩ = some (.slice (some ⟨ab, 0, none⟩) n n) ∧ w'.cell? ⟨wr.heap.size, 0, none⟩ = some (.int .i64 (m : Int)) ∧ w'.cell? ⟨ab, m, none⟩ = some (.bool false)) (go_keep) (first | fail)
        go_wp2
        go_roundw
        case rel => exact ⟨k + 1, R', by omega, by go_num, by rw [HAF.out]; exact HR.out.1, HR.out.2.1, HST.out, HR.out.2.2.2⟩
        case measure => simp [intOf]; omega
    · obtain rfl : k = l.length := by omega
      rw [List.take_length] at hM hL
      have HF : Hid (type_of% (And.intro hM (And.intro hK (And.intro hL hB)))) := ⟨hM, hK, hL, hB⟩
      clear hM hK hL hB
      go_wp2
      exact bodyPost_end (v := .tuple #[]) (by simp [results, Tryz.results38]) rfl ⟨rfl, R', HF.out⟩
end
end Go.Proofs.YtnclegldhafaeaaGreatDoor
