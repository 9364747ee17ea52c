/- The reference's Get and Reset. -/
import Derived.Test.YtlgdhoemjllfdaaDoorPair
namespace Go.Proofs.YtlgdhoemjllfdaaDoor
open Go.RowKit

attribute [local go_sem] Oper.semAt_some

theorem one_new (w : World) (o : Obj) : (w.alloc o).heap[w.heap.size]? = some o ∧ Below w.heap.size w (w.alloc o) := ⟨heap_new _ _, (Below.refl _ w).alloc (Nat.le_refl _) _⟩

set_option maxRecDepth 100000 in
set_option maxHeartbeats 2000000 in
theorem rget_far {kb ib n : Nat} (i : Int) (hi : i < 0 ∨ (n : Int) ≤ i) (w : World) : Calls Tryd.prog 21 #[.agg #[.slice (some ⟨kb, 0, none⟩) n n, .slice (some ⟨ib, 0, none⟩) n n], .int .i64 i] w fun e w' => e = .returned (.tuple #[.int .u64 0, .bool false]) ∧ Below w.heap.size w w' := by
  obtain ⟨W0, hW0⟩ : ∃ W0, w.alloc (.cells #[.slice (some ⟨kb, 0, none⟩) n n, .slice (some ⟨ib, 0, none⟩) n n] 33) = W0 := ⟨_, rfl⟩
  obtain ⟨k0, hB0⟩ := one_new w (.cells #[.slice (some ⟨kb, 0, none⟩) n n, .slice (some ⟨ib, 0, none⟩) n n] 33)
  rw [hW0] at k0 hB0
  obtain ⟨bx, hbx⟩ : ∃ bx, w.heap.size = bx := ⟨_, rfl⟩
  rw [hbx] at k0
  have HB0 : Hid (Below w.heap.size w W0) := hB0
  obtain ⟨c0, c1⟩ := pair_cells k0
  have HW0 : Hid (w.alloc (.cells #[.slice (some ⟨kb, 0, none⟩) n n, .slice (some ⟨ib, 0, none⟩) n n] 33) = W0) := hW0
  have HBX : Hid (w.heap.size = bx) := hbx
  clear hW0 hbx k0 hB0
  rcases (show (i < 0) ∨ (¬ i < 0 ∧ (n : Int) ≤ i) by omega) with h | ⟨h, h2⟩
  all_goals
    go_enter Tryd.func21, Tryd.ntmps21
    go_upto_region 1 with fail
    rw [HW0.out, HBX.out]
    go_wp2
    go_ret2
    exact ⟨rfl, HB0.out⟩

set_option maxRecDepth 100000 in
set_option maxHeartbeats 2000000 in
theorem rget_in {kb ib n : Nat} {ls : List Int} {bs : List Bool} {w : World} (h : RM w kb ib n ls bs) (i : Nat) (b : Bool) (y : Int) (hi : bs[i]? = some b) (hy : ls[i]? = some y) : Calls Tryd.prog 21 #[.agg #[.slice (some ⟨kb, 0, none⟩) n n, .slice (some ⟨ib, 0, none⟩) n n], .int .i64 i] w fun e w' => e = .returned (gotV (if b then some y else none)) ∧ Below w.heap.size w w' := by
  obtain ⟨W0, hW0⟩ : ∃ W0, w.alloc (.cells #[.slice (some ⟨kb, 0, none⟩) n n, .slice (some ⟨ib, 0, none⟩) n n] 33) = W0 := ⟨_, rfl⟩
  obtain ⟨k0, hB0⟩ := one_new w (.cells #[.slice (some ⟨kb, 0, none⟩) n n, .slice (some ⟨ib, 0, none⟩) n n] 33)
  rw [hW0] at k0 hB0
  obtain ⟨bx, hbx⟩ : ∃ bx, w.heap.size = bx := ⟨_, rfl⟩
  rw [hbx] at k0
  have HB0 : Hid (Below w.heap.size w W0) := hB0
  obtain ⟨c0, c1⟩ := pair_cells k0
  have hR0 := h.below hB0
  obtain ⟨e0, _⟩ := hR0.kcell hy
  obtain ⟨e2, _⟩ := hR0.icell hi
  have hlt : i < n := by have := (List.getElem?_eq_some_iff.1 hi).1; have := h.il; omega
  have b0 : (0 : Int) ≤ (i : Int) := by omega
  have b1 : (i : Int) < (n : Int) := by omega
  have b2 : decide ((i : Int) < 0) = false := decide_eq_false (by omega)
  have b3 : decide ((n : Int) ≤ (i : Int)) = false := decide_eq_false (by omega)
  have b4 : ¬ (i : Int) < 0 := by omega
  have HW0 : Hid (w.alloc (.cells #[.slice (some ⟨kb, 0, none⟩) n n, .slice (some ⟨ib, 0, none⟩) n n] 33) = W0) := hW0
  have HBX : Hid (w.heap.size = bx) := hbx
  clear hW0 hbx k0 hB0 hR0 hi hy h
  cases b with
  | false =>
    rw [if_neg (by simp)]
    unfold gotV
    go_enter Tryd.func21, Tryd.ntmps21
    go_upto_region 1 with fail
    rw [HW0.out, HBX.out]
    go_wp2
    go_ret2
    exact ⟨rfl, HB0.out⟩
  | true =>
    rw [if_pos rfl]
    unfold gotV
    go_enter Tryd.func21, Tryd.ntmps21
    go_upto_region 1 with fail
    rw [HW0.out, HBX.out]
    go_wp2
    go_ret2
    exact ⟨rfl, HB0.out⟩

set_option maxRecDepth 100000 in
set_option maxHeartbeats 2000000 in
theorem rreset_calls {kb ib n : Nat} {ls : List Int} {bs : List Bool} {w : World} (h : RM w kb ib n ls bs) (hn : n ≤ 65536) : Calls Tryd.prog 22 #[.agg #[.slice (some ⟨kb, 0, none⟩) n n, .slice (some ⟨ib, 0, none⟩) n n]] w fun e w' => e = .returned (.tuple #[]) ∧ RS kb ib n w ls (List.replicate n false) w' := by
  obtain ⟨W0, hW0⟩ : ∃ W0, w.alloc (.cells #[.slice (some ⟨kb, 0, none⟩) n n, .slice (some ⟨ib, 0, none⟩) n n] 33) = W0 := ⟨_, rfl⟩
  obtain ⟨k0, hB0⟩ := one_new w (.cells #[.slice (some ⟨kb, 0, none⟩) n n, .slice (some ⟨ib, 0, none⟩) n n] 33)
  rw [hW0] at k0 hB0
  obtain ⟨bx, hbx⟩ : ∃ bx, w.heap.size = bx := ⟨_, rfl⟩
  rw [hbx] at k0
  have hib : ib ≠ bx := by have := lt_of_get h.irow; omega
  have HK0 : Hid (W0.heap[bx]? = some (.cells #[.slice (some ⟨kb, 0, none⟩) n n, .slice (some ⟨ib, 0, none⟩) n n] 33)) := k0
  obtain ⟨c0, c1⟩ := pair_cells k0
  have HR0 : Hid (RS kb ib n w ls bs W0) := (RS.refl h).below hB0
  have HW0 : Hid (w.alloc (.cells #[.slice (some ⟨kb, 0, none⟩) n n, .slice (some ⟨ib, 0, none⟩) n n] 33) = W0) := hW0
  have HBX : Hid (w.heap.size = bx) := hbx
  have hil := h.il
  clear hW0 hbx k0 hB0 h
  go_enter Tryd.func22, Tryd.ntmps22
  go_upto_region 1 with fail
  rw [HW0.out, HBX.out]
  go_wp2_with fail
  go_loopw [6] (fun iv wr => ∃ (k : Nat) (bs' : List Bool), k ≤ n ∧ iv = .int .i64 k ∧ RS kb ib n w ls bs' wr ∧ (∀ j, j < k → bs'[j]? = some false) ∧ wr.heap[bx]? = some (.cells #[.slice (some ⟨kb, 0, none⟩) n n, .slice (some ⟨ib, 0, none⟩) n n] 33)) (fun iv _ => n - (intOf iv).toNat)
  case atStart => exact ⟨0, bs, Nat.zero_le _, rfl, HR0.out, fun j hj => absurd hj (Nat.not_lt_zero _), HK0.out⟩
  case round =>
    obtain ⟨k, bs', hk, rfl, hR, hF, hX⟩ := hrel
    have HR : Hid (RS kb ib n w ls bs' wr ∧ (∀ j, j < k → bs'[j]? = some false) ∧ wr.heap[bx]? = some (.cells #[.slice (some ⟨kb, 0, none⟩) n n, .slice (some ⟨ib, 0, none⟩) n n] 33)) := ⟨hR, hF, hX⟩
    clear c0 c1
    obtain ⟨c0, c1⟩ := pair_cells hX
    have hil' := hR.rm.il
    by_cases hlt : k < n
    · obtain ⟨b, hb⟩ : ∃ b, bs'[k]? = some b := ⟨bs'[k]'(by omega), List.getElem?_eq_getElem _⟩
      obtain ⟨e2, e3⟩ := hR.rm.icell hb
      have b0 : (0 : Int) ≤ (k : Int) := by omega
      have b1 : (k : Int) < (n : Int) := by omega
      clear hR hF hX hb
      go_wp2
      go_roundw
      case rel =>
        refine ⟨k + 1, bs'.set k false, by omega, by go_num, HR.out.1.putI, fun j hj => ?_, (heap_setCell_other _ _ _ _ (Ne.symm hib)).trans HR.out.2.2⟩
        by_cases e : j = k
        · subst e; exact set_same _ (by omega)
        · rw [set_other _ e]; exact HR.out.2.1 j (by omega)
      case measure => simp [intOf]; omega
    · obtain rfl : k = n := by omega
      have HE : Hid (bs' = List.replicate k false) := by
        show _ = _
        apply List.ext_getElem?
        intro j
        rw [List.getElem?_replicate]
        split
        · rename_i hj; exact hF j hj
        · rw [List.getElem?_eq_none (by omega)]
      clear hR hF hX hil'
      go_wp2
      exact bodyPost_end (v := .tuple #[]) (by simp [results, Tryd.results22]) rfl ⟨rfl, by have h := HR.out.1; rw [HE.out] at h; exact h⟩
end Go.Proofs.YtlgdhoemjllfdaaDoor
