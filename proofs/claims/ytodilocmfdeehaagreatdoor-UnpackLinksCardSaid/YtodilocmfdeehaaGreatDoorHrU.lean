/- small functions of the reference; what holds between the links of a hierarchy in form. -/
import Derived.Test.YtodilocmfdeehaaGreatDoorHrR
namespace Go.Proofs.YtodilocmfdeehaaGreatDoor.Hi
open Go.RowKit Go.Extern

attribute [local go_sem] Oper.semAt_some

set_option maxRecDepth 100000 in
set_option maxHeartbeats 2000000 in
theorem count_calls (v : HV) (h : Hr) (w : World) (hb1 : h.up.length ≤ 1152921504606846976) (hb2 : h.dn.length ≤ 1152921504606846976) :
    Calls Tryz.prog 30 #[hvl v h] w fun e w' => e = .returned (.int .i64 ((h.up.length + h.dn.length : Nat) : Int)) ∧ w' = w.alloc (.cells (cellsH v h) 25) := by
  have hw : IntKind.i64.wrap ((h.up.length : Int) + (h.dn.length : Int)) = ((h.up.length + h.dn.length : Nat) : Int) := by rw [IntKind.wrap_i64]; omega
  obtain ⟨W0, hW0⟩ : ∃ W0, w.alloc (.cells (cellsH v h) 25) = W0 := ⟨_, rfl⟩
  have h0 : W0.heap[w.heap.size]? = some (.cells (cellsH v h) 25) := by rw [← hW0]; exact heap_newW _ _
  have HW0 : Hid (w.alloc (.cells (cellsH v h) 25) = W0) := hW0
  obtain ⟨c0, c1, c2, c3, c4⟩ := five_cells h0
  clear hW0 h0
  rw [HW0.out]
  unfold cellsH at HW0
  unfold hvl
  go_enter Tryz.func30, Tryz.ntmps30
  go_upto_region 1 with fail
  rw [HW0.out]
  go_wp2
  go_ret
  exact ⟨rfl, rfl⟩
def greatB (h : Hr) : Bool := decide (2000 < h.up.length + h.dn.length) && decide (h.up.length + h.dn.length ≤ 1048576)
theorem set_four {W : World} {b : Nat} {p q r s : Value} {T : TypeId} (h : W.heap[b]? = some (.cells #[p, q, r, s] T)) (x y u t : Value) : ((((W.setCell ⟨b, 0, none⟩ x).setCell ⟨b, 1, none⟩ y).setCell ⟨b, 2, none⟩ u).setCell ⟨b, 3, none⟩ t).heap[b]? = some (.cells #[x, y, u, t] T) := by
  have hlt := some_lt h
  simp only [World.setCell, Array.getElem?_modify]
  simp [h]
theorem link_res {W : World} {z : Nat} {l : Lk} {tmps : Array Value} (h1 : W.heap[z]? = some (.cells #[.int .u32 (l.hd : Int), .int .u64 (l.wt : Int), .int .u32 (l.lf : Int), .int .u32 (l.rt : Int)] 65)) (t4 : tmps[4]?.getD undef = .pointer (some ⟨z, 0, none⟩)) :
    (results Tryz.f27 tmps).run Tryz.prog W = .ok (lvl l) W := by
  have c0 : W.cell? ⟨z, 0, none⟩ = some (.int .u32 (l.hd : Int)) := by simp [World.cell?, h1]
  have c1 : W.cell? ⟨z, 1, none⟩ = some (.int .u64 (l.wt : Int)) := by simp [World.cell?, h1]
  have c2 : W.cell? ⟨z, 2, none⟩ = some (.int .u32 (l.lf : Int)) := by simp [World.cell?, h1]
  have c3 : W.cell? ⟨z, 3, none⟩ = some (.int .u32 (l.rt : Int)) := by simp [World.cell?, h1]
  simp [results, Tryz.results27, go_sem, t4, c0, c1, c2, c3, lvl]
def linkAt (h : Hr) (i : Nat) : Lk := (h.up ++ h.dn).getD i default
set_option maxRecDepth 100000 in
set_option maxHeartbeats 2000000 in
theorem link_calls (v : HV) (h : Hr) (i : Nat) (w : World) (hH : HasH w v h) (hb2 : h.dn.length ≤ 1152921504606846976) (hi : i < h.up.length + h.dn.length) :
    Calls Tryz.prog 27 #[hvl v h, .int .i64 (i : Int)] w fun e w' => e = .returned (lvl (linkAt h i)) ∧ Below w.heap.size w w' := by
  obtain ⟨z, hz⟩ : ∃ z, w.heap.size = z := ⟨_, rfl⟩
  obtain ⟨W0, hW0⟩ : ∃ W0, (w.alloc (.cells (cellsH v h) 25)).alloc (.cells #[.int .u32 0, .int .u64 0, .int .u32 0, .int .u32 0] 65) = W0 := ⟨_, rfl⟩
  have hB0 : Below w.heap.size w W0 := by rw [← hW0]; exact ((Below.refl _ w).alloc (Nat.le_refl _) _).alloc (by simp) _
  have h0 : W0.heap[z]? = some (.cells (cellsH v h) 25) := by
    rw [← hW0, ← hz]; exact (Below.heap_alloc _ _ _ (by simp)).trans (heap_newW _ _)
  have h1 : W0.heap[z + 1]? = some (.cells #[.int .u32 0, .int .u64 0, .int .u32 0, .int .u32 0] 65) := by
    have g := heap_newW (w.alloc (.cells (cellsH v h) 25)) (.cells #[.int .u32 0, .int .u64 0, .int .u32 0, .int .u32 0] 65)
    rw [World.size_alloc, hW0, hz] at g
    exact g
  have HW0 : Hid ((w.alloc (.cells (cellsH v h) 25)).alloc (.cells #[.int .u32 0, .int .u64 0, .int .u32 0, .int .u32 0] 65) = W0) := hW0
  have HH : Hid (HasH W0 v h ∧ Below w.heap.size w W0) := ⟨hH.keep hB0, hB0⟩
  have H1 : Hid (W0.heap[z + 1]? = some (.cells #[.int .u32 0, .int .u64 0, .int .u32 0, .int .u32 0] 65)) := h1
  obtain ⟨c0, c1, c2, c3, c4⟩ := five_cells h0
  clear hW0 h0 hB0 hH h1
  unfold hvl
  unfold cellsH at HW0
  go_enter Tryz.func27, Tryz.ntmps27
  go_upto_region 1 with fail
  rw [HW0.out]
  have f0 : W0.heap[z + 1]? = some (.cells #[.int .u32 0, .int .u64 0, .int .u32 0, .int .u32 0] 65) := H1.out
  have e0 : W0.cell? ⟨z + 1, 0, none⟩ = some (.int .u32 0) := by simp [World.cell?, f0]
  have e1 : W0.cell? ⟨z + 1, 1, none⟩ = some (.int .u64 0) := by simp [World.cell?, f0]
  have e2 : W0.cell? ⟨z + 1, 2, none⟩ = some (.int .u32 0) := by simp [World.cell?, f0]
  have e3 : W0.cell? ⟨z + 1, 3, none⟩ = some (.int .u32 0) := by simp [World.cell?, f0]
  have z0 : W0.frozen? ⟨z + 1, 0, none⟩ = false := by simp [World.frozen?, f0]
  have z1 : W0.frozen? ⟨z + 1, 1, none⟩ = false := by simp [World.frozen?, f0]
  have z2 : W0.frozen? ⟨z + 1, 2, none⟩ = false := by simp [World.frozen?, f0]
  have z3 : W0.frozen? ⟨z + 1, 3, none⟩ = false := by simp [World.frozen?, f0]
  clear f0
  by_cases hlt : i < h.up.length
  · have d1 : decide ((i : Int) < (h.up.length : Int)) = true := by simp; omega
    obtain ⟨l, hl⟩ : ∃ l, h.up[i]? = some l := ⟨h.up[i], List.getElem?_eq_getElem hlt⟩
    have HL : Hid (linkAt h i = l) := by show _ = _; unfold linkAt; rw [List.getD_eq_getElem?_getD, List.getElem?_append_left hlt, hl]; rfl
    obtain ⟨hok, b, off, hbo, hbl, q0, q1, q2, q3⟩ := HH.out.1.up.at hl
    rw [hbo] at c2
    clear hok hl
    go_wp2
    have hS := set_four H1.out (.int .u32 (l.hd : Int)) (.int .u64 (l.wt : Int)) (.int .u32 (l.lf : Int)) (.int .u32 (l.rt : Int))
    refine bodyPost_ret (link_res hS rfl) rfl ⟨by rw [HL.out], ?_⟩
    exact (((HH.out.2.setCell (by rw [hz]; exact Nat.le_succ _) _).setCell (by rw [hz]; exact Nat.le_succ _) _).setCell (by rw [hz]; exact Nat.le_succ _) _).setCell (by rw [hz]; exact Nat.le_succ _) _
  · have d1 : decide ((i : Int) < (h.up.length : Int)) = false := by simp; omega
    obtain ⟨k, hk⟩ : ∃ k, i = h.up.length + k := ⟨i - h.up.length, by omega⟩
    subst hk
    obtain ⟨l, hl⟩ : ∃ l, h.dn[k]? = some l := ⟨h.dn[k], List.getElem?_eq_getElem (by omega)⟩
    have HL : Hid (linkAt h (h.up.length + k) = l) := by show _ = _; unfold linkAt; rw [List.getD_eq_getElem?_getD, List.getElem?_append_right (by omega), Nat.add_sub_cancel_left, hl]; rfl
    obtain ⟨hok, b, off, hbo, hbl, q0, q1, q2, q3⟩ := HH.out.1.dn.at hl
    rw [hbo] at c4
    have hw : IntKind.i64.wrap (((h.up.length + k : Nat) : Int) - (h.up.length : Int)) = (k : Int) := by rw [IntKind.wrap_i64]; omega
    have k1 : (k : Int) < (h.dn.length : Int) := by omega
    have k2 : (0 : Int) ≤ (k : Int) := by omega
    clear hok hl
    go_wp2
    have hS := set_four H1.out (.int .u32 (l.hd : Int)) (.int .u64 (l.wt : Int)) (.int .u32 (l.lf : Int)) (.int .u32 (l.rt : Int))
    refine bodyPost_ret (link_res hS rfl) rfl ⟨by rw [HL.out], ?_⟩
    exact (((HH.out.2.setCell (by rw [hz]; exact Nat.le_succ _) _).setCell (by rw [hz]; exact Nat.le_succ _) _).setCell (by rw [hz]; exact Nat.le_succ _) _).setCell (by rw [hz]; exact Nat.le_succ _) _

set_option maxRecDepth 100000 in
theorem tplain_calls (l : Lk) (w : World) : Calls Tryz.prog 26 #[lvl l] w fun e w' => e = .returned (.bool l.plain) ∧ Below w.heap.size w w' := by
  obtain ⟨hd, wt, lf, rt⟩ := l
  unfold lvl Lk.plain noLink
  dsimp only
  by_cases h1 : lf = 4294967295
  · subst h1
    by_cases h2 : rt = 4294967295
    · subst h2
      go_enter Tryz.func26, Tryz.ntmps26
      go_wp2
      go_ret
      exact ⟨rfl, (Below.refl _ _).alloc (Nat.le_refl _) _⟩
    · have g2 : ((rt : Int) == 4294967295) = false := by simp; omega
      have g3 : (rt == 4294967295) = false := by simp [h2]
      go_enter Tryz.func26, Tryz.ntmps26
      go_wp2
      go_ret
      exact ⟨by rw [g3]; rfl, (Below.refl _ _).alloc (Nat.le_refl _) _⟩
  · have g2 : ((lf : Int) == 4294967295) = false := by simp; omega
    have g3 : (lf == 4294967295) = false := by simp [h1]
    go_enter Tryz.func26, Tryz.ntmps26
    go_wp2
    go_ret
    exact ⟨by rw [g3]; rfl, (Below.refl _ _).alloc (Nat.le_refl _) _⟩

/-- what a hierarchy in form tells of the link of a number. -/
structure LinkOk (h : Hr) (i : Nat) : Prop where
  lk : linkAt h i = (sd (stds h) i).lk
  low : (sd (stds h) i).rk < (sd (stds h) i).lk.hd
  high : (sd (stds h) i).lk.hd < h.node.length
  mak : making (sd (stds h) i) (stds h) = 0
theorem stds_lk {h : Hr} (hu : FOk h.upF h.up.length) (hd : FOk h.dnF h.dn.length) {i : Nat} (hi : i < (stds h).length) : linkAt h i = (sd (stds h) i).lk := by
  have h0 := sd_get hi
  generalize sd (stds h) i = s at h0
  unfold linkAt
  rw [List.getD_eq_getElem?_getD]
  unfold stds at h0
  rcases Nat.lt_or_ge i h.up.length with h1 | h1
  · rw [List.getElem?_append_left (by rw [List.length_map, rkL_len hu]; exact h1), List.getElem?_map] at h0
    obtain ⟨y, hy, rfl⟩ := Option.map_eq_some_iff.1 h0
    rw [List.getElem?_append_left h1, (rkL_get hu hy).1]
    rfl
  · rw [List.getElem?_append_right (by rw [List.length_map, rkL_len hu]; exact h1), List.length_map, rkL_len hu, List.getElem?_map] at h0
    obtain ⟨y, hy, rfl⟩ := Option.map_eq_some_iff.1 h0
    rw [List.getElem?_append_right h1, (rkL_get hd hy).1]
    rfl
theorem link_ok {h : Hr} (hc : chk h = (0, [])) {i : Nat} (hi : i < (stds h).length) : LinkOk h i := by
  obtain ⟨k1, k2, k3, k4, k5, k6, k7, k8⟩ := chk_ok hc
  have h0 := ferr_all k8 i (Nat.zero_le _) (by omega)
  unfold lerr at h0
  split at h0
  · exact absurd h0 (by decide)
  · rename_i h1
    simp only [not_or] at h1
    exact ⟨stds_lk k5 k6 hi, by omega, by omega, h0⟩
/-- a shortcut's children. -/
structure Falls (h : Hr) (i : Nat) : Prop where
  l1 : (sd (stds h) i).lk.lf < (stds h).length
  l2 : (sd (stds h) i).lk.rt < (stds h).length
  t1 : (sd (stds h) (sd (stds h) i).lk.lf).tail = (sd (stds h) i).tail
  t2 : (sd (stds h) (sd (stds h) i).lk.rt).head = (sd (stds h) i).head
  m1 : (sd (stds h) (sd (stds h) i).lk.lf).head = (sd (stds h) (sd (stds h) i).lk.rt).tail
  m2 : (sd (stds h) (sd (stds h) i).lk.lf).head < (sd (stds h) i).tail
  m3 : (sd (stds h) (sd (stds h) i).lk.lf).head < (sd (stds h) i).head
  wt : (sd (stds h) i).lk.wt = (linkAt h (sd (stds h) i).lk.lf).wt + (linkAt h (sd (stds h) i).lk.rt).wt
  ws : (sd (stds h) i).lk.wt ≤ 140737488355328
theorem falls {h : Hr} (hc : chk h = (0, [])) {i : Nat} (hi : i < (stds h).length) (hp : (sd (stds h) i).lk.plain = false) : Falls h i := by
  have hk := link_ok hc hi
  have h0 := hk.mak
  unfold making at h0
  rw [if_neg (by simp [hp])] at h0
  split at h0
  · exact absurd h0 (by decide)
  · rename_i a1
    split at h0
    · exact absurd h0 (by decide)
    · rename_i a2
      split at h0
      · exact absurd h0 (by decide)
      · rename_i a3
        simp only [not_or, Bool.not_eq_true, Bool.not_eq_false, Decidable.not_not] at a1 a2 a3
        obtain ⟨b1, b2⟩ := a1
        obtain ⟨b3, b4, b5, b6, b7⟩ := a2
        obtain ⟨b8, b9⟩ := a3
        have f1 := link_ok hc (i := (sd (stds h) i).lk.lf) (by omega)
        have f2 := link_ok hc (i := (sd (stds h) i).lk.rt) (by omega)
        have e1 : (sd (stds h) (sd (stds h) i).lk.lf).head = (sd (stds h) (sd (stds h) i).lk.lf).rk := by unfold Sd.head; rw [b3]; rfl
        have e2 : (sd (stds h) (sd (stds h) i).lk.lf).tail = (sd (stds h) (sd (stds h) i).lk.lf).lk.hd := by unfold Sd.tail; rw [b3]; rfl
        have e3 : (sd (stds h) (sd (stds h) i).lk.rt).tail = (sd (stds h) (sd (stds h) i).lk.rt).rk := by unfold Sd.tail; rw [b4]; rfl
        have e4 : (sd (stds h) (sd (stds h) i).lk.rt).head = (sd (stds h) (sd (stds h) i).lk.rt).lk.hd := by unfold Sd.head; rw [b4]; rfl
        have g1 := f1.low
        have g2 := f2.low
        refine ⟨by omega, by omega, b6, b7, by rw [e1, e3, b5], by rw [← b6, e1, e2]; exact g1, by rw [← b7, e1, e4, b5]; exact g2, by rw [f1.lk, f2.lk]; exact b9, by omega⟩
end Go.Proofs.YtodilocmfdeehaaGreatDoor.Hi
