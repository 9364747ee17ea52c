/- cmp.Compare, cmp.Or at two numbers, normal's byEnds, isLoop and its two closures: what they answer; blocks are laid and draws are made, nothing else turns. -/
import Derived.Test.YtbkclhaonbjobaaGreatErrP
import Derived.Deep.RegionWith
import Derived.Deep.RegionHeld
import Derived.Deep.QuietTactic
import Derived.BigQuiet
import Derived.Sort.Grow
namespace Go.Proofs.YtbkclhaonbjobaaGreat
open Go.RowKit Go.Extern Go.Sort

/-- blocks laid and draws made, nothing else. -/
def Laid (W w' : World) : Prop := ∃ q os, w' = grow (W.drewN q) os
theorem Laid.refl (W : World) : Laid W W := ⟨0, #[], by simp [grow, World.drewN]⟩
theorem Laid.alloc {W w : World} (h : Laid W w) (o : Obj) : Laid W (w.alloc o) := by
  obtain ⟨q, os, rfl⟩ := h
  exact ⟨q, os.push o, by rw [alloc_eq_grow, grow_grow]; simp [grow]⟩
theorem Laid.drew {W w : World} (h : Laid W w) : Laid W w.drew := by
  obtain ⟨q, os, rfl⟩ := h
  exact ⟨q + 1, os, rfl⟩
theorem Laid.trans {W w w' : World} (h : Laid W w) (k : Laid w w') : Laid W w' := by
  obtain ⟨q, os, rfl⟩ := h
  obtain ⟨q', os', rfl⟩ := k
  exact ⟨q + q', os ++ os', by simp [grow, World.drewN, Nat.add_assoc, Array.append_assoc]⟩
theorem Laid.block {W w : World} (h : Laid W w) {k : Nat} (hk : k < W.heap.size) : w.heap[k]? = W.heap[k]? := by
  obtain ⟨q, os, rfl⟩ := h
  simp [grow, World.drewN, Array.getElem?_append, hk]
theorem Laid.size {W w : World} (h : Laid W w) : W.heap.size ≤ w.heap.size := by
  obtain ⟨q, os, rfl⟩ := h
  simp [grow, World.drewN]
theorem Laid.below {W w : World} (h : Laid W w) : Below W.heap.size W w := by
  obtain ⟨q, os, rfl⟩ := h
  exact ⟨rfl, rfl, rfl, by simp [grow, World.drewN], fun k hk => by simp [grow, World.drewN, Array.getElem?_append, hk]⟩

theorem heap_new (w : World) (o : Obj) : (w.alloc o).heap[w.heap.size]? = some o := by show (w.heap.push _)[w.heap.size]? = _; simp

/-- what cmp.Compare tells. -/
def cmpI (a b : Int) : Int := if a < b then -1 else if b < a then 1 else 0
/-- what cmp.Or tells of two numbers. -/
def orI (a b : Int) : Int := if a = 0 then b else a

theorem nan_calls (a : Int) (w : World) : Calls Tryz.prog 63 #[.int .i64 a] w fun e w' => e = .returned (.bool false) ∧ w' = w := by
  have h : (a != a) = false := by simp
  go_enter Tryz.func63, Tryz.ntmps63
  go_wp2
  go_ret
  exact ⟨rfl, rfl⟩
theorem compare_calls (a b : Int) (w : World) : Calls Tryz.prog 48 #[.int .i64 a, .int .i64 b] w fun e w' => e = .returned (.int .i64 (cmpI a b)) ∧ w' = w := by
  rcases (show a < b ∨ b < a ∨ a = b by omega) with h | h | h
  · have e : cmpI a b = -1 := by rw [cmpI, if_pos h]
    rw [e]
    go_enter Tryz.func48, Tryz.ntmps48
    go_wp2_with fail
    refine (nan_calls _ _).mono ?_
    rintro e w' ⟨rfl, rfl⟩
    go_wp2_with fail
    refine (nan_calls _ _).mono ?_
    rintro e w' ⟨rfl, rfl⟩
    go_wp2
    go_ret
    exact ⟨rfl, rfl⟩
  · have e : cmpI a b = 1 := by rw [cmpI, if_neg (by omega), if_pos h]
    rw [e]
    have h' : ¬ a < b := by omega
    go_enter Tryz.func48, Tryz.ntmps48
    go_wp2_with fail
    refine (nan_calls _ _).mono ?_
    rintro e w' ⟨rfl, rfl⟩
    go_wp2_with fail
    refine (nan_calls _ _).mono ?_
    rintro e w' ⟨rfl, rfl⟩
    go_wp2
    go_ret
    exact ⟨rfl, rfl⟩
  · subst h
    have e : cmpI a a = 0 := by rw [cmpI, if_neg (by omega), if_neg (by omega)]
    rw [e]
    have h' : ¬ a < a := by omega
    go_enter Tryz.func48, Tryz.ntmps48
    go_wp2_with fail
    refine (nan_calls _ _).mono ?_
    rintro e w' ⟨rfl, rfl⟩
    go_wp2_with fail
    refine (nan_calls _ _).mono ?_
    rintro e w' ⟨rfl, rfl⟩
    go_wp2
    go_ret
    exact ⟨rfl, rfl⟩

set_option maxHeartbeats 1000000 in
/-- cmp.Or of a new row of two numbers. -/
theorem or_calls (a b : Int) (g : Nat) (w : World) (h0 : w.cell? ⟨g, 0, none⟩ = some (.int .i64 a)) (h1 : w.cell? ⟨g, 1, none⟩ = some (.int .i64 b)) :
    Calls Tryz.prog 46 #[.slice (some ⟨g, 0, none⟩) 2 2] w fun e w' => e = .returned (.int .i64 (orI a b)) ∧ w' = w := by
  by_cases ha : a = 0
  · subst ha
    rw [show orI 0 b = b from rfl]
    by_cases hb : b = 0
    · subst hb
      go_enter Tryz.func46, Tryz.ntmps46
      go_wp2_with fail
      refine wp_loop_rounds 3 ?_
      rw [rounds_succ]
      go_wp2
      rw [rounds_succ]
      go_wp2
      rw [rounds_succ]
      go_wp2
      go_ret
      exact ⟨rfl, rfl⟩
    · have hb' : (b != 0) = true := by simpa using hb
      go_enter Tryz.func46, Tryz.ntmps46
      go_wp2_with fail
      refine wp_loop_rounds 2 ?_
      rw [rounds_succ]
      go_wp2
      rw [rounds_succ]
      go_wp2
      go_ret
      exact ⟨rfl, rfl⟩
  · have ha' : (a != 0) = true := by simpa using ha
    rw [show orI a b = a by rw [orI, if_neg ha]]
    go_enter Tryz.func46, Tryz.ntmps46
    go_wp2_with fail
    refine wp_loop_rounds 1 ?_
    rw [rounds_succ]
    go_wp2
    go_ret
    exact ⟨rfl, rfl⟩

/-- how arcs stand by their ends, and wholly. -/
def endsI (a b : Int × Int × Int) : Int := orI (cmpI a.1 b.1) (cmpI a.2.1 b.2.1)
def arcI (a b : Int × Int × Int) : Int := orI (endsI a b) (cmpI a.2.2 b.2.2)
def arcV (a : Int × Int × Int) : Value := .agg #[.int .i64 a.1, .int .i64 a.2.1, .int .i64 a.2.2]

set_option maxRecDepth 100000 in
set_option maxHeartbeats 1000000 in
theorem byEnds_calls (a b : Int × Int × Int) (w : World) : Calls Tryz.prog 47 #[arcV a, arcV b] w fun e w' => e = .returned (.int .i64 (endsI a b)) ∧ Laid w w' := by
  obtain ⟨a0, a1, a2⟩ := a
  obtain ⟨b0, b1, b2⟩ := b
  unfold endsI arcV
  simp only
  go_enter Tryz.func47, Tryz.ntmps47
  go_wp2_with fail
  go_region_held (fun w' => w'.cell? ⟨w.heap.size, 0, none⟩ = some (.int .i64 a0) ∧ w'.cell? ⟨w.heap.size, 1, none⟩ = some (.int .i64 a1) ∧ w'.cell? ⟨w.heap.size + 1, 0, none⟩ = some (.int .i64 b0) ∧ w'.cell? ⟨w.heap.size + 1, 1, none⟩ = some (.int .i64 b1)) (go_keep) (first
    | (go_at_call 48; refine (compare_calls _ _ _).mono ?_; rintro e w' ⟨rfl, rfl⟩)
    | (go_at_call 46; refine (or_calls (cmpI a0 b0) (cmpI a1 b1) _ _ ?_ ?_).mono ?_; (show (World.alloc _ _).cell? _ = _; simp [World.cell?_alloc_at]); (show (World.alloc _ _).cell? _ = _; simp [World.cell?_alloc_at]); rintro e w' ⟨rfl, rfl⟩))
  all_goals
    go_wp2
    go_ret
    exact ⟨rfl, ((((Laid.refl w).alloc _).alloc _).alloc _).drew⟩

set_option maxRecDepth 100000 in
set_option maxHeartbeats 1000000 in
/-- the closure by which arcs are sorted. -/
theorem sortCmp_calls (a b : Int × Int × Int) (w : World) : Calls Tryz.prog 45 #[arcV a, arcV b] w fun e w' => e = .returned (.int .i64 (arcI a b)) ∧ Laid w w' := by
  have HBY : Hid (∀ wx, Calls Tryz.prog 47 #[arcV a, arcV b] wx fun e w' => e = .returned (.int .i64 (endsI a b)) ∧ Laid wx w') := fun wx => byEnds_calls a b wx
  unfold arcI
  generalize endsI a b = E at *
  obtain ⟨a0, a1, a2⟩ := a
  obtain ⟨b0, b1, b2⟩ := b
  unfold arcV at *
  simp only at *
  have HL0 : Hid (Laid w ((w.alloc (.cells #[.int .i64 a0, .int .i64 a1, .int .i64 a2] 84)).alloc (.cells #[.int .i64 b0, .int .i64 b1, .int .i64 b2] 84)).drew) := (((Laid.refl w).alloc _).alloc _).drew
  have HCE : Hid (∀ wx, Laid ((w.alloc (.cells #[.int .i64 a0, .int .i64 a1, .int .i64 a2] 84)).alloc (.cells #[.int .i64 b0, .int .i64 b1, .int .i64 b2] 84)).drew wx → wx.cell? ⟨w.heap.size, 0, none⟩ = some (.int .i64 a0) ∧ wx.cell? ⟨w.heap.size, 1, none⟩ = some (.int .i64 a1) ∧ wx.cell? ⟨w.heap.size, 2, none⟩ = some (.int .i64 a2) ∧ wx.cell? ⟨w.heap.size + 1, 0, none⟩ = some (.int .i64 b0) ∧ wx.cell? ⟨w.heap.size + 1, 1, none⟩ = some (.int .i64 b1) ∧ wx.cell? ⟨w.heap.size + 1, 2, none⟩ = some (.int .i64 b2) ∧ w.heap.size + 1 < wx.heap.size) := fun wx h => by
    have h0 : wx.heap[w.heap.size]? = some (.cells #[.int .i64 a0, .int .i64 a1, .int .i64 a2] 84) := by
      rw [h.block (by show _ < ((w.alloc _).alloc _).heap.size; simp; omega)]
      show ((w.alloc _).alloc _).heap[w.heap.size]? = _
      rw [Below.heap_alloc _ _ _ (by simp)]; exact heap_new _ _
    have h1 : wx.heap[w.heap.size + 1]? = some (.cells #[.int .i64 b0, .int .i64 b1, .int .i64 b2] 84) := by
      rw [h.block (by show _ < ((w.alloc _).alloc _).heap.size; simp)]
      show ((w.alloc _).alloc _).heap[w.heap.size + 1]? = _
      have h := heap_new (w.alloc (.cells #[.int .i64 a0, .int .i64 a1, .int .i64 a2] 84)) (.cells #[.int .i64 b0, .int .i64 b1, .int .i64 b2] 84)
      simpa using h
    have h2 : w.heap.size + 1 < wx.heap.size := by
      rcases Nat.lt_or_ge (w.heap.size + 1) wx.heap.size with h' | h'
      · exact h'
      · rw [Array.getElem?_eq_none h'] at h1; cases h1
    refine ⟨?_, ?_, ?_, ?_, ?_, ?_, h2⟩ <;> simp [World.cell?, h0, h1]
  go_enter Tryz.func45, Tryz.ntmps45
  go_wp2_with fail
  go_region_held (fun w' => w'.cell? ⟨w.heap.size, 0, none⟩ = some (.int .i64 a0) ∧ w'.cell? ⟨w.heap.size, 1, none⟩ = some (.int .i64 a1) ∧ w'.cell? ⟨w.heap.size, 2, none⟩ = some (.int .i64 a2) ∧ w'.cell? ⟨w.heap.size + 1, 0, none⟩ = some (.int .i64 b0) ∧ w'.cell? ⟨w.heap.size + 1, 1, none⟩ = some (.int .i64 b1) ∧ w'.cell? ⟨w.heap.size + 1, 2, none⟩ = some (.int .i64 b2)) (go_keep) (first
    | (go_at_call 47; refine (HBY.out _).mono ?_; rintro e w1 ⟨rfl, hL1⟩; have HL1 : Hid (Laid w w1) := HL0.out.trans hL1; obtain ⟨k0, k1, k2, k3, k4, k5, hsz⟩ := HCE.out w1 hL1; clear hL1)
    | (go_at_call 48; refine (compare_calls _ _ _).mono ?_; rintro e w' ⟨rfl, rfl⟩)
    | (go_at_call 46; refine (or_calls E (cmpI a2 b2) _ _ ?_ ?_).mono ?_; (show (World.alloc _ _).cell? _ = _; simp [World.cell?_alloc_at]); (show (World.alloc _ _).cell? _ = _; simp [World.cell?_alloc_at]); rintro e w' ⟨rfl, rfl⟩))
  all_goals
    go_wp2
    go_ret
    exact ⟨rfl, HL1.out.alloc _⟩

theorem isLoop_calls (a : Int × Int × Int) (w : World) : Calls Tryz.prog 43 #[arcV a] w fun e w' => e = .returned (.bool (a.1 == a.2.1)) ∧ Laid w w' := by
  obtain ⟨a0, a1, a2⟩ := a
  unfold arcV
  simp only
  go_enter Tryz.func43, Tryz.ntmps43
  go_wp2
  go_ret
  exact ⟨rfl, (Laid.refl w).alloc _⟩

set_option maxHeartbeats 1000000 in
/-- the closure by which parallel arcs are told. -/
theorem compactEq_calls (a b : Int × Int × Int) (w : World) : Calls Tryz.prog 50 #[arcV a, arcV b] w fun e w' => e = .returned (.bool (endsI a b == 0)) ∧ Laid w w' := by
  have HBY : Hid (∀ wx, Calls Tryz.prog 47 #[arcV a, arcV b] wx fun e w' => e = .returned (.int .i64 (endsI a b)) ∧ Laid wx w') := fun wx => byEnds_calls a b wx
  generalize endsI a b = E at *
  obtain ⟨a0, a1, a2⟩ := a
  obtain ⟨b0, b1, b2⟩ := b
  unfold arcV at *
  simp only at *
  have HL0 : Hid (Laid w ((w.alloc (.cells #[.int .i64 a0, .int .i64 a1, .int .i64 a2] 84)).alloc (.cells #[.int .i64 b0, .int .i64 b1, .int .i64 b2] 84))) := ((Laid.refl w).alloc _).alloc _
  go_enter Tryz.func50, Tryz.ntmps50
  go_wp2_with fail
  refine (HBY.out _).mono ?_
  rintro e w1 ⟨rfl, hL⟩
  have HL1 : Hid (Laid w w1) := HL0.out.trans hL
  clear hL
  go_wp2
  go_ret
  exact ⟨rfl, HL1.out⟩
end Go.Proofs.YtbkclhaonbjobaaGreat
