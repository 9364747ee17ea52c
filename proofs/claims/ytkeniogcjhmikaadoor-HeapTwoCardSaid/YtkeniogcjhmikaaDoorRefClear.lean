/- viaductref06.Do: kind 8: nothing is in. -/
import Derived.Test.YtkeniogcjhmikaaDoorRefDo
namespace Go.Proofs.YtkeniogcjhmikaaDoor
open Go.RowKit

attribute [local go_sem] Oper.semAt_some

section
variable {kb ib n : Nat} {w : World} {ls : List Int} {bs : List Bool}

set_option maxRecDepth 100000 in
set_option maxHeartbeats 2000000 in
theorem ref_clear (kind key : Int) (id : Nat) (hid : id ≤ 4294967295) (hn : n ≤ 65536) (h : RM w kb ib n ls bs) (hk : kind = 8) :
    Calls Tryd.prog 12 #[.agg #[.slice (some ⟨kb, 0, none⟩) n n, .slice (some ⟨ib, 0, none⟩) n n], .agg #[.int .u8 kind, .int .u32 (id : Int), .int .u64 key]] w fun e w' => e = .returned (.agg #[.int .u32 0, .int .u64 0, .bool false, .int .i64 0, .int .i64 0, .slice none 0 0]) ∧ RS kb ib n w (ls) (List.replicate n false) w' := by
  obtain ⟨W0, hW0⟩ : ∃ W0, ((w.alloc (.cells #[.slice (some ⟨kb, 0, none⟩) n n, .slice (some ⟨ib, 0, none⟩) n n] 32)).alloc (.cells #[.int .u8 kind, .int .u32 (id : Int), .int .u64 key] 42)).alloc (.cells #[.int .u32 0, .int .u64 0, .bool false, .int .i64 0, .int .i64 0, .slice none 0 0] 44) = W0 := ⟨_, rfl⟩
  obtain ⟨k0, k1, k2, ks, hB0⟩ := three_new w (.cells #[.slice (some ⟨kb, 0, none⟩) n n, .slice (some ⟨ib, 0, none⟩) n n] 32) (.cells #[.int .u8 kind, .int .u32 (id : Int), .int .u64 key] 42) (.cells #[.int .u32 0, .int .u64 0, .bool false, .int .i64 0, .int .i64 0, .slice none 0 0] 44)
  rw [hW0] at k0 k1 k2 ks hB0
  obtain ⟨bx, hbx⟩ : ∃ bx, w.heap.size = bx := ⟨_, rfl⟩
  have l1 : kb < w.heap.size := lt_of_get h.krow
  have l2 : ib < w.heap.size := lt_of_get h.irow
  have hll := h.ll
  have hil := h.il
  have HR0 : Hid (RS kb ib n w ls bs W0) := (RS.refl h).below hB0
  have HC : Hid (w.heap.size ≤ bx + 1 + 1 ∧ kb ≠ bx + 1 + 1 ∧ ib ≠ bx + 1 + 1) := by exact ⟨by omega, by omega, by omega⟩
  have HK : Hid (∀ w1, Below W0.heap.size W0 w1 → w1.heap[bx]? = some (.cells #[.slice (some ⟨kb, 0, none⟩) n n, .slice (some ⟨ib, 0, none⟩) n n] 32) ∧ w1.heap[bx + 1]? = some (.cells #[.int .u8 kind, .int .u32 (id : Int), .int .u64 key] 42) ∧ w1.heap[bx + 1 + 1]? = some (.cells #[.int .u32 0, .int .u64 0, .bool false, .int .i64 0, .int .i64 0, .slice none 0 0] 44) ∧ bx + 1 + 1 < w1.heap.size) := fun w1 hF => by
    rw [← hbx]
    refine ⟨(hF.block _ (by omega)).trans k0, (hF.block _ (by omega)).trans k1, (hF.block _ (by omega)).trans k2, by have := hF.size; omega⟩
  have HW0 : Hid (((w.alloc (.cells #[.slice (some ⟨kb, 0, none⟩) n n, .slice (some ⟨ib, 0, none⟩) n n] 32)).alloc (.cells #[.int .u8 kind, .int .u32 (id : Int), .int .u64 key] 42)).alloc (.cells #[.int .u32 0, .int .u64 0, .bool false, .int .i64 0, .int .i64 0, .slice none 0 0] 44) = W0) := hW0
  have HBE : Hid (w.heap.size = bx) := hbx
  have n1 : kb ≠ ib := h.ne
  have n2 : ib ≠ kb := Ne.symm n1
  have n3 : kb ≠ bx := by omega
  have n4 : bx ≠ kb := by omega
  have n5 : ib ≠ bx := by omega
  have n6 : bx ≠ ib := by omega
  have n7 : kb ≠ bx + 1 := by omega
  have n8 : bx + 1 ≠ kb := by omega
  have n9 : ib ≠ bx + 1 := by omega
  have n10 : bx + 1 ≠ ib := by omega
  have n11 : kb ≠ bx + 1 + 1 := by omega
  have n12 : bx + 1 + 1 ≠ kb := by omega
  have n13 : ib ≠ bx + 1 + 1 := by omega
  have n14 : bx + 1 + 1 ≠ ib := by omega
  have i0 : (0 : Int) ≤ (id : Int) := by omega
  have i1 : (id : Int) ≤ 4294967295 := by omega
  have i2 : (0 : Int) ≤ (n : Int) := by omega
  have i3 : (n : Int) ≤ 65536 := by omega
  have hB0s := hB0.size
  have m1 : kb < W0.heap.size := by omega
  have m2 : ib < W0.heap.size := by omega
  subst hk
  have j0 : (id : Int) < (n : Int) ∨ ¬ (id : Int) < (n : Int) := Classical.em _
  obtain ⟨s0, s1, s2, s3⟩ := HK.out W0 (Below.refl _ _)
  obtain ⟨x0, x1⟩ := pair_cells s0
  obtain ⟨x2, x3, x4⟩ := three_cells s1
  obtain ⟨⟨y0, y1, y2, y3, y4, y5⟩, ⟨v0, v1, v2, v3, v4, v5⟩⟩ := six_cells s2
  have hs0 : bx < W0.heap.size := by omega
  have hs1 : bx + 1 < W0.heap.size := by omega
  have H0 : Hid (W0.heap[bx]? = some (.cells #[.slice (some ⟨kb, 0, none⟩) n n, .slice (some ⟨ib, 0, none⟩) n n] 32) ∧ W0.heap[bx + 1 + 1]? = some (.cells #[.int .u32 0, .int .u64 0, .bool false, .int .i64 0, .int .i64 0, .slice none 0 0] 44)) := ⟨s0, s2⟩
  rcases j0 with j0 | j0
  all_goals
    clear h hW0 k0 k1 k2 ks hB0 hbx l1 l2 s0 s1 s2 hB0s
    go_enter Tryd.func12, Tryd.ntmps12
    go_upto_region 1 with fail
    rw [HW0.out, HBE.out]
    go_wp2_with fail
    go_loopw [128] (fun iv wr => ∃ (k : Nat) (bs' : List Bool), k ≤ n ∧ iv = .int .i64 k ∧ RS kb ib n w ls bs' wr ∧ (∀ j, j < k → bs'[j]? = some false) ∧ wr.heap[bx]? = some (.cells #[.slice (some ⟨kb, 0, none⟩) n n, .slice (some ⟨ib, 0, none⟩) n n] 32) ∧ wr.heap[bx + 1 + 1]? = some (.cells #[.int .u32 0, .int .u64 0, .bool false, .int .i64 0, .int .i64 0, .slice none 0 0] 44)) (fun iv _ => n - (intOf iv).toNat)
    case atStart => exact ⟨0, bs, Nat.zero_le _, rfl, HR0.out, fun j hj => by omega, H0.out.1, H0.out.2⟩
    case round =>
      obtain ⟨k, bs', hk, rfl, hR, hz, hx, hy⟩ := hrel
      have HR : Hid (RS kb ib n w ls bs' wr) := hR
      have HZ : Hid (∀ j, j < k → bs'[j]? = some false) := hz
      have HX : Hid (wr.heap[bx]? = some (.cells #[.slice (some ⟨kb, 0, none⟩) n n, .slice (some ⟨ib, 0, none⟩) n n] 32) ∧ wr.heap[bx + 1 + 1]? = some (.cells #[.int .u32 0, .int .u64 0, .bool false, .int .i64 0, .int .i64 0, .slice none 0 0] 44)) := ⟨hx, hy⟩
      clear x0 x1 x2 x3 x4 y0 y1 y2 y3 y4 y5 v0 v1 v2 v3 v4 v5 hs0 hs1 s3
      obtain ⟨x0, x1⟩ := pair_cells hx
      obtain ⟨⟨y0, y1, y2, y3, y4, y5⟩, ⟨v0, v1, v2, v3, v4, v5⟩⟩ := six_cells hy
      have hil' := hR.rm.il
      have hs0 : bx < wr.heap.size := lt_of_get hx
      have hs2 : bx + 1 + 1 < wr.heap.size := lt_of_get hy
      have hs1 : ib < wr.heap.size := lt_of_get hR.rm.irow
      by_cases hlt : k < n
      · obtain ⟨b, hb⟩ : ∃ b, bs'[k]? = some b := ⟨bs'[k]'(by omega), List.getElem?_eq_getElem _⟩
        obtain ⟨e0, e1⟩ := hR.rm.icell hb
        have b0 : (0 : Int) ≤ (k : Int) := by omega
        have b1 : (k : Int) < (n : Int) := by omega
        clear hR hz hx hy hb
        go_wp2
        go_roundw
        case rel =>
          refine ⟨k + 1, bs'.set k false, by omega, by go_num, HR.out.putI, fun j hj => ?_, ?_, ?_⟩
          · by_cases e : j = k
            · subst e; exact set_same _ (by omega)
            · rw [set_other _ e]; exact HZ.out j (by omega)
          · rw [heap_setCell_other _ _ _ _ (by show bx ≠ ib; omega)]; exact HX.out.1
          · rw [heap_setCell_other _ _ _ _ (by show bx + 1 + 1 ≠ ib; omega)]; exact HX.out.2
        case measure => simp [intOf]; omega
      · obtain rfl : k = n := by omega
        have HE : Hid (bs' = List.replicate k false) := by
          show _ = _
          apply List.ext_getElem?
          intro d
          rw [List.getElem?_replicate]
          split
          · rename_i hd; exact HZ.out d hd
          · rw [List.getElem?_eq_none (by omega)]
        clear hR hz hx hy
        go_wp2
        refine bodyPost_ret (v := .agg #[.int .u32 0, .int .u64 0, .bool false, .int .i64 0, .int .i64 0, .slice none 0 0]) (by simp [results, Tryd.results12, go_sem, y0, y1, y2, y3, y4, y5]) rfl ⟨rfl, ?_⟩
        rw [← HE.out]
        repeat first
          | with_reducible refine RS.res HC.out ?_
        exact HR.out
end
end Go.Proofs.YtkeniogcjhmikaaDoor
