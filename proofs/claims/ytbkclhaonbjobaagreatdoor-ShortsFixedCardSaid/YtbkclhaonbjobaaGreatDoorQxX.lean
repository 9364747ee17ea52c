/- Needed, Diff and Contract of no overlay. ShortsFixed: its two graphs, and what is answered on them. -/
import Derived.Test.YtbkclhaonbjobaaGreatDoorQyX
import Derived.Test.YtbkclhaonbjobaaGreatDoorQmX
namespace Go.Proofs.YtbkclhaonbjobaaGreatDoor.Wt
open Go Go.RowKit Go.Extern Go.Deep

attribute [local go_sem] Oper.semAt_some

set_option maxRecDepth 100000 in
set_option maxHeartbeats 4000000 in
theorem each_nil (w : World) (v o0 o1 o2 o3 o4 : Int) (fv : Value) : Calls Tryz.prog 31 #[.pointer none, .int .i64 v, .agg #[.int .i64 o0, .int .i64 o1, .int .i64 o2, .int .i64 o3, .int .i64 o4], fv] w fun e w' => e = .returned (.iface 59 (.int .i64 19)) ∧ Below w.heap.size w w' := by
  have HZ : Hid (Below w.heap.size w (w.alloc (.cells #[.int .i64 o0, .int .i64 o1, .int .i64 o2, .int .i64 o3, .int .i64 o4] 27))) := bel_one _ _
  go_enter Tryz.func31, Tryz.ntmps31
  go_wp2
  go_ret
  exact ⟨rfl, HZ.out⟩
set_option maxRecDepth 100000 in
set_option maxHeartbeats 4000000 in
theorem need_nil (w : World) (v o0 o1 o2 o3 o4 : Int) : Calls Tryz.prog 8 #[.pointer none, .int .i64 v, .agg #[.int .i64 o0, .int .i64 o1, .int .i64 o2, .int .i64 o3, .int .i64 o4]] w fun e w' => e = .returned (.tuple #[.slice none 0 0, .iface 59 (.int .i64 19)]) ∧ Below w.heap.size w w' := by
  obtain ⟨W0, hW0⟩ : ∃ W0, (w.alloc (optObj o0 o1 o2 o3 o4)).alloc (.cells #[.slice none 0 0] 36) = W0 := ⟨_, rfl⟩
  obtain ⟨hbx, hk0, hB0⟩ := two_new w (optObj o0 o1 o2 o3 o4) (.cells #[.slice none 0 0] 36)
  rw [hW0] at hbx hk0 hB0
  have HW0 : Hid ((w.alloc (.cells #[.int .i64 o0, .int .i64 o1, .int .i64 o2, .int .i64 o3, .int .i64 o4] 27)).alloc (.cells #[.slice none 0 0] 36) = W0) := hW0
  have HB : Hid (Below w.heap.size w W0) := hB0
  obtain ⟨c0, c1, cs⟩ := opt_cells hbx
  obtain ⟨c2, c3, c4⟩ := opt_all hbx
  have HEA : Hid (∀ fv, type_of% (each_nil W0 v o0 o1 o2 o3 o4 fv)) := fun fv => each_nil W0 v o0 o1 o2 o3 o4 fv
  clear hW0 hbx hk0 hB0
  go_enter Tryz.func8, Tryz.ntmps8
  go_upto_region 2 with fail
  rw [HW0.out]
  go_wp2_with fail
  refine (HEA.out _).mono ?_
  rintro e w5 ⟨rfl, hb⟩
  have HZ : Hid (Below w.heap.size w w5) := btr HB.out hb
  clear hb c0 c1 c2 c3 c4 cs HEA
  go_wp2
  go_ret2
  exact ⟨rfl, HZ.out⟩
set_option maxRecDepth 100000 in
set_option maxHeartbeats 4000000 in
theorem diff_nil (w : World) (v o0 o1 o2 o3 o4 : Int) : Calls Tryz.prog 13 #[.pointer none, .int .i64 v, .agg #[.int .i64 o0, .int .i64 o1, .int .i64 o2, .int .i64 o3, .int .i64 o4]] w fun e w' => e = .returned (.tuple #[.int .i64 0, .iface 59 (.int .i64 19)]) ∧ Below w.heap.size w w' := by
  obtain ⟨W0, hW0⟩ : ∃ W0, (w.alloc (optObj o0 o1 o2 o3 o4)).alloc (.cells #[.int .i64 0] 3) = W0 := ⟨_, rfl⟩
  obtain ⟨hbx, hk0, hB0⟩ := two_new w (optObj o0 o1 o2 o3 o4) (.cells #[.int .i64 0] 3)
  rw [hW0] at hbx hk0 hB0
  have HW0 : Hid ((w.alloc (.cells #[.int .i64 o0, .int .i64 o1, .int .i64 o2, .int .i64 o3, .int .i64 o4] 27)).alloc (.cells #[.int .i64 0] 3) = W0) := hW0
  have HB : Hid (Below w.heap.size w W0) := hB0
  obtain ⟨c0, c1, cs⟩ := opt_cells hbx
  obtain ⟨c2, c3, c4⟩ := opt_all hbx
  have HEA : Hid (∀ fv, type_of% (each_nil W0 v o0 o1 o2 o3 o4 fv)) := fun fv => each_nil W0 v o0 o1 o2 o3 o4 fv
  clear hW0 hbx hk0 hB0
  go_enter Tryz.func13, Tryz.ntmps13
  go_upto_region 2 with fail
  rw [HW0.out]
  go_wp2_with fail
  refine (HEA.out _).mono ?_
  rintro e w5 ⟨rfl, hb⟩
  have HZ : Hid (Below w.heap.size w w5) := btr HB.out hb
  clear hb c0 c1 c2 c3 c4 cs HEA
  go_wp2
  go_ret2
  exact ⟨rfl, HZ.out⟩
set_option maxRecDepth 100000 in
set_option maxHeartbeats 4000000 in
theorem cont_nil (w : World) (v o0 o1 o2 o3 o4 : Int) : Calls Tryz.prog 16 #[.pointer none, .int .i64 v, .agg #[.int .i64 o0, .int .i64 o1, .int .i64 o2, .int .i64 o3, .int .i64 o4]] w fun e w' => e = .returned (.tuple #[.slice none 0 0, .iface 59 (.int .i64 19)]) ∧ Below w.heap.size w w' := by
  obtain ⟨W0, hW0⟩ : ∃ W0, w.alloc (optObj o0 o1 o2 o3 o4) = W0 := ⟨_, rfl⟩
  have HW0 : Hid (w.alloc (.cells #[.int .i64 o0, .int .i64 o1, .int .i64 o2, .int .i64 o3, .int .i64 o4] 27) = W0) := hW0
  have hB0 : Below w.heap.size w W0 := by rw [← hW0]; exact bel_one _ _
  have hbx : W0.heap[w.heap.size]? = some (optObj o0 o1 o2 o3 o4) := by rw [← hW0]; exact heap_new _ _
  have HB : Hid (Below w.heap.size w W0) := hB0
  obtain ⟨c0, c1, cs⟩ := opt_cells hbx
  obtain ⟨c2, c3, c4⟩ := opt_all hbx
  have HNE : Hid (type_of% (need_nil W0 v o0 o1 o2 o3 o4)) := need_nil W0 v o0 o1 o2 o3 o4
  clear hW0 hbx hB0
  go_enter Tryz.func16, Tryz.ntmps16
  go_upto_region 1 with fail
  rw [HW0.out]
  go_wp2_with fail
  refine HNE.out.mono ?_
  rintro e w5 ⟨rfl, hb⟩
  have HZ : Hid (Below w.heap.size w w5) := btr HB.out hb
  clear hb c0 c1 c2 c3 c4 cs HNE
  go_wp2
  go_ret2
  exact ⟨rfl, HZ.out⟩
end Go.Proofs.YtbkclhaonbjobaaGreatDoor.Wt

namespace Go.Proofs.YtbkclhaonbjobaaGreatDoor.Wt
open Go Go.RowKit Go.Extern Go.Deep

attribute [local go_sem] Oper.semAt_some

/-- an overlay of a graph of four nodes, with its rows. -/
def OvR (zs : List (Int × Int × Int)) (w : World) (B pb : Nat) : Prop := ∃ R, IsOv noP B w pb 4 bsQ R 4 4 ∧ Tied 4 bsQ R (zs.map asA4) ∧ ZB (zs.map asA4) ∧ ∀ s u, u < 4 → (R s u).2 = (sideL s zs u, 0)
def xsG : List (Int × Int × Int) := [(0, 1, 4), (1, 2, 1), (0, 3, 1), (3, 2, 4)]
def zsG : List (Int × Int × Int) := [(0, 1, 4), (0, 3, 1), (1, 2, 1), (3, 2, 4)]
theorem xsG_good : graphErr ((4 : Nat) : Int) xsG = (0, []) := by kernel_rfl
theorem xsG_norm : normA xsG = zsG := by kernel_rfl
theorem arcsG {W : World} {b : Nat} (h : W.heap[b]? = some (.cells #[.int .i64 0, .int .i64 1, .int .i64 4, .int .i64 1, .int .i64 2, .int .i64 1, .int .i64 0, .int .i64 3, .int .i64 1, .int .i64 3, .int .i64 2, .int .i64 4] 70)) : HasArcs W (.slice (some ⟨b, 0, none⟩) 4 4) xsG := by
  refine ⟨some ⟨b, 0, none⟩, 4, rfl, fun j a hj => ⟨b, 0, rfl, lt_of_get h, ?_⟩⟩
  unfold xsG at hj
  rcases j with _ | _ | _ | _ | j
  · simp at hj; subst hj; simp [World.cell?, h]
  · simp at hj; subst hj; simp [World.cell?, h]
  · simp at hj; subst hj; simp [World.cell?, h]
  · simp at hj; subst hj; simp [World.cell?, h]
  · simp at hj
theorem newG_calls {w : World} {ab : Nat} (h : HasArcs w (.slice (some ⟨ab, 0, none⟩) 4 4) xsG) : Calls Tryz.prog 20 #[.agg #[.int .i64 4, .slice (some ⟨ab, 0, none⟩) 4 4]] w fun e w' => ∃ pb, e = .returned (.tuple #[.pointer (some ⟨pb, 0, none⟩), .nilIface]) ∧ OvR zsG w' w.heap.size pb ∧ Below w.heap.size w w' := by
  refine (ov_new (n := 4) (some ⟨ab, 0, none⟩) 4 4 xsG w h xsG_good).mono ?_
  rintro e w' ⟨pb, R, rfl, h1, h2, h3⟩
  rw [xsG_norm] at h1 h2
  refine ⟨pb, rfl, ⟨R, h1, tied_new (n := 4) (by unfold zsG Go.Proofs.YtbkclhaonbjobaaGreatDoor.RiseA Go.Proofs.YtbkclhaonbjobaaGreatDoor.lessA; decide) (by unfold zsG; decide) (by unfold zsG; decide) h2, ?_, h2⟩, h3⟩
  intro a ha
  unfold zsG asA4 at ha
  simp at ha
  rcases ha with rfl | rfl | rfl | rfl <;> exact ⟨by decide, by decide⟩
section
variable {zs : List (Int × Int × Int)} {w w' : World} {B pb : Nat}
theorem OvR.keep (h : OvR zs w B pb) (hb : Below w.heap.size w w') : OvR zs w' B pb := by
  obtain ⟨R, h1, h2⟩ := h
  exact ⟨R, h1.keep hb, h2⟩
theorem OvR.need (h : OvR zs w B pb) (v o0 o1 o2 o3 o4 : Int) (L : List S3) (hv : aliveB 4 bsQ v = true) (hL : needL 4 bsQ (newR zs) v (min (max o0 0) 1048576) (min (max o1 0) 1048576) = L) : Calls Tryz.prog 8 #[.pointer (some ⟨pb, 0, none⟩), .int .i64 v, .agg #[.int .i64 o0, .int .i64 o1, .int .i64 o2, .int .i64 o3, .int .i64 o4]] w fun e w' => Below w.heap.size w w' ∧ ∃ so sc, e = .returned (.tuple #[.slice so L.length sc, .nilIface]) ∧ HasSs w' (.slice so L.length sc) L := by
  obtain ⟨R, h1, h2, h3, h4⟩ := h
  refine (need_calls h1 h2 h3 (by omega) v o0 o1 o2 o3 o4).mono ?_
  rw [needL_new h4, hL]
  rintro e w' ⟨hb, ⟨hn, _⟩ | ⟨_, so, sc, rfl, ho⟩⟩
  · rw [hv] at hn; cases hn
  · exact ⟨hb, so, sc, rfl, ss_of_row ho⟩
theorem OvR.diff (h : OvR zs w B pb) (v o0 o1 o2 o3 o4 d : Int) (hv : aliveB 4 bsQ v = true) (hd : ((needL 4 bsQ (newR zs) v (min (max o0 0) 1048576) (min (max o1 0) 1048576)).length : Int) - ((outM 4 bsQ (newR zs) false v).length : Int) - ((outM 4 bsQ (newR zs) true v).length : Int) = d) : Calls Tryz.prog 13 #[.pointer (some ⟨pb, 0, none⟩), .int .i64 v, .agg #[.int .i64 o0, .int .i64 o1, .int .i64 o2, .int .i64 o3, .int .i64 o4]] w fun e w' => Below w.heap.size w w' ∧ e = .returned (.tuple #[.int .i64 d, .nilIface]) := by
  obtain ⟨R, h1, h2, h3, h4⟩ := h
  refine (diff_calls h1 h2 h3 (by omega) v o0 o1 o2 o3 o4).mono ?_
  rw [needL_new h4, outM_new h4, hd]
  rintro e w' ⟨hb, ⟨hn, _⟩ | ⟨_, rfl⟩⟩
  · rw [hv] at hn; cases hn
  · exact ⟨hb, rfl⟩
end
theorem sf_a : needL 4 bsQ (newR zsQ) 2 (min (max 5 0) 1048576) (min (max 5 0) 1048576) = [(0, 3, 11), (1, 3, 3)] := by kernel_rfl
theorem sf_b : needL 4 bsQ (newR zsQ) 0 (min (max 5 0) 1048576) (min (max 5 0) 1048576) = [] := by kernel_rfl
theorem sf_c : ((needL 4 bsQ (newR zsQ) 0 (min (max 5 0) 1048576) (min (max 5 0) 1048576)).length : Int) - ((outM 4 bsQ (newR zsQ) false 0).length : Int) - ((outM 4 bsQ (newR zsQ) true 0).length : Int) = -2 := by kernel_rfl
theorem sf_d : ((needL 4 bsQ (newR zsQ) 1 (min (max 5 0) 1048576) (min (max 5 0) 1048576)).length : Int) - ((outM 4 bsQ (newR zsQ) false 1).length : Int) - ((outM 4 bsQ (newR zsQ) true 1).length : Int) = -1 := by kernel_rfl
theorem sf_l : needL 4 bsQ (newR zsQ) 1 (min (max 5 0) 1048576) (min (max 5 0) 1048576) = [(0, 2, 5)] := by kernel_rfl
theorem sf_x : needL 4 bsQ (newR zsG) 1 (min (max 2 0) 1048576) (min (max 9 0) 1048576) = [] := by kernel_rfl
theorem sf_y : needL 4 bsQ (newR zsG) 1 (min (max 1 0) 1048576) (min (max 9 0) 1048576) = [(0, 2, 5)] := by kernel_rfl
theorem sf_z : needL 4 bsQ (newR zsG) 1 (min (max 2 0) 1048576) (min (max 1 0) 1048576) = [(0, 2, 5)] := by kernel_rfl
theorem sf_out : sortA (sideA false (contZ 1 (zsQ.map asA4) [(0, 2, 5)]) 0) = [(2, 5, 1)] := by kernel_rfl
theorem sf_alive : aliveN 4 bsQ = 4 ∧ aliveB 4 bsQ 1 = true ∧ aliveB 4 (bsQ.set 1 false) 1 = false ∧ aliveB 4 (bsQ.set 1 false) (-1) = false ∧ aliveB 4 (bsQ.set 1 false) 4 = false := ⟨by kernel_rfl, by kernel_rfl, by kernel_rfl, by kernel_rfl, by kernel_rfl⟩
end Go.Proofs.YtbkclhaonbjobaaGreatDoor.Wt
