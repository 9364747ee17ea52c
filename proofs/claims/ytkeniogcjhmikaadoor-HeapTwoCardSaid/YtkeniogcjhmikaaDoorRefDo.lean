/- viaductref06.Do: the call, done to the reference's lists, by its kind. -/
import Derived.Test.YtkeniogcjhmikaaDoorDocNew
import Derived.Test.YtkeniogcjhmikaaDoorDo
namespace Go.Proofs.YtkeniogcjhmikaaDoor
open Go.RowKit

attribute [local go_sem] Oper.semAt_some

/-- the reference's lists, and that nothing old but they has turned. -/
structure RS (kb ib n : Nat) (w : World) (ls : List Int) (bs : List Bool) (wx : World) : Prop where
  rm : RM wx kb ib n ls bs
  os : wx.os = w.os
  tape : wx.tape = w.tape
  output : wx.output = w.output
  size : w.heap.size ≤ wx.heap.size
  block : ∀ k, k < w.heap.size → k ≠ kb → k ≠ ib → wx.heap[k]? = w.heap[k]?
section
variable {kb ib n : Nat} {w wx wy : World} {ls : List Int} {bs : List Bool}
theorem RS.refl (h : RM w kb ib n ls bs) : RS kb ib n w ls bs w := ⟨h, rfl, rfl, rfl, Nat.le_refl _, fun _ _ _ _ => rfl⟩
theorem RS.below (h : RS kb ib n w ls bs wx) (hb : Below wx.heap.size wx wy) : RS kb ib n w ls bs wy := ⟨h.rm.below hb, hb.os.trans h.os, hb.tape.trans h.tape, hb.output.trans h.output, Nat.le_trans h.size hb.size, fun k hk h1 h2 => (hb.block k (by have := h.size; omega)).trans (h.block k hk h1 h2)⟩
theorem RS.drew (h : RS kb ib n w ls bs wx) : RS kb ib n w ls bs wx.drew := h.below ((Below.refl _ _).drew)
theorem RS.drewN {q : Nat} (h : RS kb ib n w ls bs wx) : RS kb ib n w ls bs (wx.drewN q) := h.below (below_draws (Below.refl _ _) q)
theorem RS.putK {d : Nat} {k : Int} (h : RS kb ib n w ls bs wx) : RS kb ib n w (ls.set d k) bs (wx.setCell ⟨kb, d, none⟩ (.int .u64 k)) := ⟨h.rm.putK d k, h.os, h.tape, h.output, by simpa using h.size, fun j hj h1 h2 => (heap_setCell_other _ _ _ _ h1).trans (h.block j hj h1 h2)⟩
theorem RS.putI {d : Nat} {b : Bool} (h : RS kb ib n w ls bs wx) : RS kb ib n w ls (bs.set d b) (wx.setCell ⟨ib, d, none⟩ (.bool b)) := ⟨h.rm.putI d b, h.os, h.tape, h.output, by simpa using h.size, fun j hj h1 h2 => (heap_setCell_other _ _ _ _ h2).trans (h.block j hj h1 h2)⟩
theorem RS.res {c o : Nat} {v : Value} (hc : w.heap.size ≤ c ∧ kb ≠ c ∧ ib ≠ c) (h : RS kb ib n w ls bs wx) : RS kb ib n w ls bs (wx.setCell ⟨c, o, none⟩ v) := ⟨h.rm.keep (heap_setCell_other _ _ _ _ hc.2.1) (heap_setCell_other _ _ _ _ hc.2.2), h.os, h.tape, h.output, by simpa using h.size, fun j hj h1 h2 => (heap_setCell_other _ _ _ _ (by show j ≠ c; omega)).trans (h.block j hj h1 h2)⟩
end

section
variable {kb ib n : Nat} {w : World} {ls : List Int} {bs : List Bool}

set_option maxRecDepth 100000 in
set_option maxHeartbeats 2000000 in
theorem ref_far (kind key : Int) (id : Nat) (hid : id ≤ 4294967295) (hn : n ≤ 65536) (h : RM w kb ib n ls bs) (hk : kind = 1 ∨ kind = 2) (hd : n ≤ id) :
    Calls Tryd.prog 12 #[.agg #[.slice (some ⟨kb, 0, none⟩) n n, .slice (some ⟨ib, 0, none⟩) n n], .agg #[.int .u8 kind, .int .u32 (id : Int), .int .u64 key]] w fun e w' => e = .returned (.agg #[.int .u32 0, .int .u64 0, .bool false, .int .i64 0, .int .i64 7, .slice none 0 0]) ∧ RS kb ib n w (ls) (bs) w' := by
  obtain ⟨W0, hW0⟩ : ∃ W0, ((w.alloc (.cells #[.slice (some ⟨kb, 0, none⟩) n n, .slice (some ⟨ib, 0, none⟩) n n] 32)).alloc (.cells #[.int .u8 kind, .int .u32 (id : Int), .int .u64 key] 42)).alloc (.cells #[.int .u32 0, .int .u64 0, .bool false, .int .i64 0, .int .i64 0, .slice none 0 0] 44) = W0 := ⟨_, rfl⟩
  obtain ⟨k0, k1, k2, ks, hB0⟩ := three_new w (.cells #[.slice (some ⟨kb, 0, none⟩) n n, .slice (some ⟨ib, 0, none⟩) n n] 32) (.cells #[.int .u8 kind, .int .u32 (id : Int), .int .u64 key] 42) (.cells #[.int .u32 0, .int .u64 0, .bool false, .int .i64 0, .int .i64 0, .slice none 0 0] 44)
  rw [hW0] at k0 k1 k2 ks hB0
  obtain ⟨bx, hbx⟩ : ∃ bx, w.heap.size = bx := ⟨_, rfl⟩
  have l1 : kb < w.heap.size := lt_of_get h.krow
  have l2 : ib < w.heap.size := lt_of_get h.irow
  have hll := h.ll
  have hil := h.il
  have HR0 : Hid (RS kb ib n w ls bs W0) := (RS.refl h).below hB0
  have HC : Hid (w.heap.size ≤ bx + 1 + 1 ∧ kb ≠ bx + 1 + 1 ∧ ib ≠ bx + 1 + 1) := by exact ⟨by omega, by omega, by omega⟩
  have HK : Hid (∀ w1, Below W0.heap.size W0 w1 → w1.heap[bx]? = some (.cells #[.slice (some ⟨kb, 0, none⟩) n n, .slice (some ⟨ib, 0, none⟩) n n] 32) ∧ w1.heap[bx + 1]? = some (.cells #[.int .u8 kind, .int .u32 (id : Int), .int .u64 key] 42) ∧ w1.heap[bx + 1 + 1]? = some (.cells #[.int .u32 0, .int .u64 0, .bool false, .int .i64 0, .int .i64 0, .slice none 0 0] 44) ∧ bx + 1 + 1 < w1.heap.size) := fun w1 hF => by
    rw [← hbx]
    refine ⟨(hF.block _ (by omega)).trans k0, (hF.block _ (by omega)).trans k1, (hF.block _ (by omega)).trans k2, by have := hF.size; omega⟩
  have HW0 : Hid (((w.alloc (.cells #[.slice (some ⟨kb, 0, none⟩) n n, .slice (some ⟨ib, 0, none⟩) n n] 32)).alloc (.cells #[.int .u8 kind, .int .u32 (id : Int), .int .u64 key] 42)).alloc (.cells #[.int .u32 0, .int .u64 0, .bool false, .int .i64 0, .int .i64 0, .slice none 0 0] 44) = W0) := hW0
  have HBE : Hid (w.heap.size = bx) := hbx
  have n1 : kb ≠ ib := h.ne
  have n2 : ib ≠ kb := Ne.symm n1
  have n3 : kb ≠ bx := by omega
  have n4 : bx ≠ kb := by omega
  have n5 : ib ≠ bx := by omega
  have n6 : bx ≠ ib := by omega
  have n7 : kb ≠ bx + 1 := by omega
  have n8 : bx + 1 ≠ kb := by omega
  have n9 : ib ≠ bx + 1 := by omega
  have n10 : bx + 1 ≠ ib := by omega
  have n11 : kb ≠ bx + 1 + 1 := by omega
  have n12 : bx + 1 + 1 ≠ kb := by omega
  have n13 : ib ≠ bx + 1 + 1 := by omega
  have n14 : bx + 1 + 1 ≠ ib := by omega
  have i0 : (0 : Int) ≤ (id : Int) := by omega
  have i1 : (id : Int) ≤ 4294967295 := by omega
  have i2 : (0 : Int) ≤ (n : Int) := by omega
  have i3 : (n : Int) ≤ 65536 := by omega
  have hB0s := hB0.size
  have m1 : kb < W0.heap.size := by omega
  have m2 : ib < W0.heap.size := by omega
  have j0 : ¬ (id : Int) < (n : Int) := by omega
  have HE : Hid (∀ wx, Calls Tryd.prog 18 #[.int .i64 7] wx fun e w' => e = .returned (.agg #[.int .i64 7, .slice none 0 0]) ∧ Below wx.heap.size wx w') := fun wx => E_calls 7 wx
  obtain ⟨s0, s1, s2, s3⟩ := HK.out W0 (Below.refl _ _)
  obtain ⟨x0, x1⟩ := pair_cells s0
  obtain ⟨x2, x3, x4⟩ := three_cells s1
  obtain ⟨⟨y0, y1, y2, y3, y4, y5⟩, ⟨v0, v1, v2, v3, v4, v5⟩⟩ := six_cells s2
  have hs0 : bx < W0.heap.size := by omega
  have hs1 : bx + 1 < W0.heap.size := by omega
  clear h hW0 k0 k1 k2 ks hB0 hbx l1 l2 s0 s1 s2 hB0s
  rcases hk with rfl | rfl
  all_goals
    go_enter Tryd.func12, Tryd.ntmps12
    go_upto_region 1 with fail
    rw [HW0.out, HBE.out]
    go_wp2_with fail
    refine (HE.out _).mono ?_
    rintro e w1 ⟨rfl, hb1⟩
    have HB1 : Hid (Below W0.heap.size W0 w1) := hb1
    clear x0 x1 x2 x3 x4 y0 y1 y2 y3 y4 y5 v0 v1 v2 v3 v4 v5 hs0 hs1 s3
    obtain ⟨s0, s1, s2, s3⟩ := HK.out w1 hb1
    obtain ⟨⟨y0, y1, y2, y3, y4, y5⟩, ⟨v0, v1, v2, v3, v4, v5⟩⟩ := six_cells s2
    clear hb1 s0 s1 s2
    go_wp2
    refine bodyPost_ret (v := .agg #[.int .u32 0, .int .u64 0, .bool false, .int .i64 0, .int .i64 7, .slice none 0 0]) (by simp [results, Tryd.results12, go_sem, y0, y1, y2, y3, y4, y5]) rfl ⟨rfl, ?_⟩
    repeat first
      | with_reducible refine RS.res HC.out ?_
      | with_reducible refine RS.drewN ?_
      | with_reducible refine RS.drew ?_
      | with_reducible refine RS.putI ?_
      | with_reducible refine RS.putK ?_
    exact HR0.out.below HB1.out

set_option maxRecDepth 100000 in
set_option maxHeartbeats 2000000 in
theorem ref_set (kind key : Int) (id : Nat) (hid : id ≤ 4294967295) (l0 : Int) (hn : n ≤ 65536) (h : RM w kb ib n ls bs) (hk : kind = 2) (hd : id < n) (hl : ls[id]? = some l0) :
    Calls Tryd.prog 12 #[.agg #[.slice (some ⟨kb, 0, none⟩) n n, .slice (some ⟨ib, 0, none⟩) n n], .agg #[.int .u8 kind, .int .u32 (id : Int), .int .u64 key]] w fun e w' => e = .returned (.agg #[.int .u32 0, .int .u64 0, .bool false, .int .i64 0, .int .i64 0, .slice none 0 0]) ∧ RS kb ib n w (ls.set id key) (bs.set id true) w' := by
  obtain ⟨W0, hW0⟩ : ∃ W0, ((w.alloc (.cells #[.slice (some ⟨kb, 0, none⟩) n n, .slice (some ⟨ib, 0, none⟩) n n] 32)).alloc (.cells #[.int .u8 kind, .int .u32 (id : Int), .int .u64 key] 42)).alloc (.cells #[.int .u32 0, .int .u64 0, .bool false, .int .i64 0, .int .i64 0, .slice none 0 0] 44) = W0 := ⟨_, rfl⟩
  obtain ⟨k0, k1, k2, ks, hB0⟩ := three_new w (.cells #[.slice (some ⟨kb, 0, none⟩) n n, .slice (some ⟨ib, 0, none⟩) n n] 32) (.cells #[.int .u8 kind, .int .u32 (id : Int), .int .u64 key] 42) (.cells #[.int .u32 0, .int .u64 0, .bool false, .int .i64 0, .int .i64 0, .slice none 0 0] 44)
  rw [hW0] at k0 k1 k2 ks hB0
  obtain ⟨bx, hbx⟩ : ∃ bx, w.heap.size = bx := ⟨_, rfl⟩
  have l1 : kb < w.heap.size := lt_of_get h.krow
  have l2 : ib < w.heap.size := lt_of_get h.irow
  have hll := h.ll
  have hil := h.il
  have HR0 : Hid (RS kb ib n w ls bs W0) := (RS.refl h).below hB0
  have HC : Hid (w.heap.size ≤ bx + 1 + 1 ∧ kb ≠ bx + 1 + 1 ∧ ib ≠ bx + 1 + 1) := by exact ⟨by omega, by omega, by omega⟩
  have HK : Hid (∀ w1, Below W0.heap.size W0 w1 → w1.heap[bx]? = some (.cells #[.slice (some ⟨kb, 0, none⟩) n n, .slice (some ⟨ib, 0, none⟩) n n] 32) ∧ w1.heap[bx + 1]? = some (.cells #[.int .u8 kind, .int .u32 (id : Int), .int .u64 key] 42) ∧ w1.heap[bx + 1 + 1]? = some (.cells #[.int .u32 0, .int .u64 0, .bool false, .int .i64 0, .int .i64 0, .slice none 0 0] 44) ∧ bx + 1 + 1 < w1.heap.size) := fun w1 hF => by
    rw [← hbx]
    refine ⟨(hF.block _ (by omega)).trans k0, (hF.block _ (by omega)).trans k1, (hF.block _ (by omega)).trans k2, by have := hF.size; omega⟩
  have HW0 : Hid (((w.alloc (.cells #[.slice (some ⟨kb, 0, none⟩) n n, .slice (some ⟨ib, 0, none⟩) n n] 32)).alloc (.cells #[.int .u8 kind, .int .u32 (id : Int), .int .u64 key] 42)).alloc (.cells #[.int .u32 0, .int .u64 0, .bool false, .int .i64 0, .int .i64 0, .slice none 0 0] 44) = W0) := hW0
  have HBE : Hid (w.heap.size = bx) := hbx
  have n1 : kb ≠ ib := h.ne
  have n2 : ib ≠ kb := Ne.symm n1
  have n3 : kb ≠ bx := by omega
  have n4 : bx ≠ kb := by omega
  have n5 : ib ≠ bx := by omega
  have n6 : bx ≠ ib := by omega
  have n7 : kb ≠ bx + 1 := by omega
  have n8 : bx + 1 ≠ kb := by omega
  have n9 : ib ≠ bx + 1 := by omega
  have n10 : bx + 1 ≠ ib := by omega
  have n11 : kb ≠ bx + 1 + 1 := by omega
  have n12 : bx + 1 + 1 ≠ kb := by omega
  have n13 : ib ≠ bx + 1 + 1 := by omega
  have n14 : bx + 1 + 1 ≠ ib := by omega
  have i0 : (0 : Int) ≤ (id : Int) := by omega
  have i1 : (id : Int) ≤ 4294967295 := by omega
  have i2 : (0 : Int) ≤ (n : Int) := by omega
  have i3 : (n : Int) ≤ 65536 := by omega
  have hB0s := hB0.size
  have m1 : kb < W0.heap.size := by omega
  have m2 : ib < W0.heap.size := by omega
  subst hk
  have j0 : (id : Int) < (n : Int) := by omega
  obtain ⟨b, hb⟩ : ∃ b, bs[id]? = some b := ⟨bs[id]'(by omega), List.getElem?_eq_getElem _⟩
  obtain ⟨e0, e1⟩ := HR0.out.rm.icell hb
  obtain ⟨e2, e3⟩ := HR0.out.rm.kcell hl
  obtain ⟨s0, s1, s2, s3⟩ := HK.out W0 (Below.refl _ _)
  obtain ⟨x0, x1⟩ := pair_cells s0
  obtain ⟨x2, x3, x4⟩ := three_cells s1
  obtain ⟨⟨y0, y1, y2, y3, y4, y5⟩, ⟨v0, v1, v2, v3, v4, v5⟩⟩ := six_cells s2
  have hs0 : bx < W0.heap.size := by omega
  have hs1 : bx + 1 < W0.heap.size := by omega
  clear h hW0 k0 k1 k2 ks hB0 hbx l1 l2 s0 s1 s2 hB0s
  go_enter Tryd.func12, Tryd.ntmps12
  go_upto_region 1 with fail
  rw [HW0.out, HBE.out]
  go_wp2_with fail
  go_quiet (fail)
  go_wp2
  refine bodyPost_ret (v := .agg #[.int .u32 0, .int .u64 0, .bool false, .int .i64 0, .int .i64 0, .slice none 0 0]) (by simp [results, Tryd.results12, go_sem, y0, y1, y2, y3, y4, y5]) rfl ⟨rfl, ?_⟩
  repeat first
    | with_reducible refine RS.res HC.out ?_
    | with_reducible refine RS.drewN ?_
    | with_reducible refine RS.drew ?_
    | with_reducible refine RS.putI ?_
    | with_reducible refine RS.putK ?_
  exact HR0.out

set_option maxRecDepth 100000 in
set_option maxHeartbeats 2000000 in
theorem ref_push_new (kind key : Int) (id : Nat) (hid : id ≤ 4294967295) (l0 : Int) (hn : n ≤ 65536) (h : RM w kb ib n ls bs) (hk : kind = 1) (hd : id < n) (hl : ls[id]? = some l0) (hb0 : bs[id]? = some false) :
    Calls Tryd.prog 12 #[.agg #[.slice (some ⟨kb, 0, none⟩) n n, .slice (some ⟨ib, 0, none⟩) n n], .agg #[.int .u8 kind, .int .u32 (id : Int), .int .u64 key]] w fun e w' => e = .returned (.agg #[.int .u32 0, .int .u64 0, .bool false, .int .i64 0, .int .i64 0, .slice none 0 0]) ∧ RS kb ib n w (ls.set id key) (bs.set id true) w' := by
  obtain ⟨W0, hW0⟩ : ∃ W0, ((w.alloc (.cells #[.slice (some ⟨kb, 0, none⟩) n n, .slice (some ⟨ib, 0, none⟩) n n] 32)).alloc (.cells #[.int .u8 kind, .int .u32 (id : Int), .int .u64 key] 42)).alloc (.cells #[.int .u32 0, .int .u64 0, .bool false, .int .i64 0, .int .i64 0, .slice none 0 0] 44) = W0 := ⟨_, rfl⟩
  obtain ⟨k0, k1, k2, ks, hB0⟩ := three_new w (.cells #[.slice (some ⟨kb, 0, none⟩) n n, .slice (some ⟨ib, 0, none⟩) n n] 32) (.cells #[.int .u8 kind, .int .u32 (id : Int), .int .u64 key] 42) (.cells #[.int .u32 0, .int .u64 0, .bool false, .int .i64 0, .int .i64 0, .slice none 0 0] 44)
  rw [hW0] at k0 k1 k2 ks hB0
  obtain ⟨bx, hbx⟩ : ∃ bx, w.heap.size = bx := ⟨_, rfl⟩
  have l1 : kb < w.heap.size := lt_of_get h.krow
  have l2 : ib < w.heap.size := lt_of_get h.irow
  have hll := h.ll
  have hil := h.il
  have HR0 : Hid (RS kb ib n w ls bs W0) := (RS.refl h).below hB0
  have HC : Hid (w.heap.size ≤ bx + 1 + 1 ∧ kb ≠ bx + 1 + 1 ∧ ib ≠ bx + 1 + 1) := by exact ⟨by omega, by omega, by omega⟩
  have HK : Hid (∀ w1, Below W0.heap.size W0 w1 → w1.heap[bx]? = some (.cells #[.slice (some ⟨kb, 0, none⟩) n n, .slice (some ⟨ib, 0, none⟩) n n] 32) ∧ w1.heap[bx + 1]? = some (.cells #[.int .u8 kind, .int .u32 (id : Int), .int .u64 key] 42) ∧ w1.heap[bx + 1 + 1]? = some (.cells #[.int .u32 0, .int .u64 0, .bool false, .int .i64 0, .int .i64 0, .slice none 0 0] 44) ∧ bx + 1 + 1 < w1.heap.size) := fun w1 hF => by
    rw [← hbx]
    refine ⟨(hF.block _ (by omega)).trans k0, (hF.block _ (by omega)).trans k1, (hF.block _ (by omega)).trans k2, by have := hF.size; omega⟩
  have HW0 : Hid (((w.alloc (.cells #[.slice (some ⟨kb, 0, none⟩) n n, .slice (some ⟨ib, 0, none⟩) n n] 32)).alloc (.cells #[.int .u8 kind, .int .u32 (id : Int), .int .u64 key] 42)).alloc (.cells #[.int .u32 0, .int .u64 0, .bool false, .int .i64 0, .int .i64 0, .slice none 0 0] 44) = W0) := hW0
  have HBE : Hid (w.heap.size = bx) := hbx
  have n1 : kb ≠ ib := h.ne
  have n2 : ib ≠ kb := Ne.symm n1
  have n3 : kb ≠ bx := by omega
  have n4 : bx ≠ kb := by omega
  have n5 : ib ≠ bx := by omega
  have n6 : bx ≠ ib := by omega
  have n7 : kb ≠ bx + 1 := by omega
  have n8 : bx + 1 ≠ kb := by omega
  have n9 : ib ≠ bx + 1 := by omega
  have n10 : bx + 1 ≠ ib := by omega
  have n11 : kb ≠ bx + 1 + 1 := by omega
  have n12 : bx + 1 + 1 ≠ kb := by omega
  have n13 : ib ≠ bx + 1 + 1 := by omega
  have n14 : bx + 1 + 1 ≠ ib := by omega
  have i0 : (0 : Int) ≤ (id : Int) := by omega
  have i1 : (id : Int) ≤ 4294967295 := by omega
  have i2 : (0 : Int) ≤ (n : Int) := by omega
  have i3 : (n : Int) ≤ 65536 := by omega
  have hB0s := hB0.size
  have m1 : kb < W0.heap.size := by omega
  have m2 : ib < W0.heap.size := by omega
  subst hk
  have j0 : (id : Int) < (n : Int) := by omega
  obtain ⟨b, hb⟩ : ∃ b, bs[id]? = some b := ⟨bs[id]'(by omega), List.getElem?_eq_getElem _⟩
  obtain ⟨e0, e1⟩ := HR0.out.rm.icell hb
  obtain ⟨e2, e3⟩ := HR0.out.rm.kcell hl
  obtain rfl : b = false := by rw [hb0] at hb; exact (Option.some.inj hb).symm
  obtain ⟨s0, s1, s2, s3⟩ := HK.out W0 (Below.refl _ _)
  obtain ⟨x0, x1⟩ := pair_cells s0
  obtain ⟨x2, x3, x4⟩ := three_cells s1
  obtain ⟨⟨y0, y1, y2, y3, y4, y5⟩, ⟨v0, v1, v2, v3, v4, v5⟩⟩ := six_cells s2
  have hs0 : bx < W0.heap.size := by omega
  have hs1 : bx + 1 < W0.heap.size := by omega
  clear h hW0 k0 k1 k2 ks hB0 hbx l1 l2 s0 s1 s2 hB0s
  go_enter Tryd.func12, Tryd.ntmps12
  go_upto_region 1 with fail
  rw [HW0.out, HBE.out]
  go_wp2_with fail
  go_quiet (fail)
  go_wp2
  refine bodyPost_ret (v := .agg #[.int .u32 0, .int .u64 0, .bool false, .int .i64 0, .int .i64 0, .slice none 0 0]) (by simp [results, Tryd.results12, go_sem, y0, y1, y2, y3, y4, y5]) rfl ⟨rfl, ?_⟩
  repeat first
    | with_reducible refine RS.res HC.out ?_
    | with_reducible refine RS.drewN ?_
    | with_reducible refine RS.drew ?_
    | with_reducible refine RS.putI ?_
    | with_reducible refine RS.putK ?_
  exact HR0.out

set_option maxRecDepth 100000 in
set_option maxHeartbeats 2000000 in
theorem ref_push_less (kind key : Int) (id : Nat) (hid : id ≤ 4294967295) (l0 : Int) (hn : n ≤ 65536) (h : RM w kb ib n ls bs) (hk : kind = 1) (hd : id < n) (hl : ls[id]? = some l0) (hb0 : bs[id]? = some true) (hlt : key < l0) :
    Calls Tryd.prog 12 #[.agg #[.slice (some ⟨kb, 0, none⟩) n n, .slice (some ⟨ib, 0, none⟩) n n], .agg #[.int .u8 kind, .int .u32 (id : Int), .int .u64 key]] w fun e w' => e = .returned (.agg #[.int .u32 0, .int .u64 0, .bool false, .int .i64 0, .int .i64 0, .slice none 0 0]) ∧ RS kb ib n w (ls.set id key) (bs.set id true) w' := by
  obtain ⟨W0, hW0⟩ : ∃ W0, ((w.alloc (.cells #[.slice (some ⟨kb, 0, none⟩) n n, .slice (some ⟨ib, 0, none⟩) n n] 32)).alloc (.cells #[.int .u8 kind, .int .u32 (id : Int), .int .u64 key] 42)).alloc (.cells #[.int .u32 0, .int .u64 0, .bool false, .int .i64 0, .int .i64 0, .slice none 0 0] 44) = W0 := ⟨_, rfl⟩
  obtain ⟨k0, k1, k2, ks, hB0⟩ := three_new w (.cells #[.slice (some ⟨kb, 0, none⟩) n n, .slice (some ⟨ib, 0, none⟩) n n] 32) (.cells #[.int .u8 kind, .int .u32 (id : Int), .int .u64 key] 42) (.cells #[.int .u32 0, .int .u64 0, .bool false, .int .i64 0, .int .i64 0, .slice none 0 0] 44)
  rw [hW0] at k0 k1 k2 ks hB0
  obtain ⟨bx, hbx⟩ : ∃ bx, w.heap.size = bx := ⟨_, rfl⟩
  have l1 : kb < w.heap.size := lt_of_get h.krow
  have l2 : ib < w.heap.size := lt_of_get h.irow
  have hll := h.ll
  have hil := h.il
  have HR0 : Hid (RS kb ib n w ls bs W0) := (RS.refl h).below hB0
  have HC : Hid (w.heap.size ≤ bx + 1 + 1 ∧ kb ≠ bx + 1 + 1 ∧ ib ≠ bx + 1 + 1) := by exact ⟨by omega, by omega, by omega⟩
  have HK : Hid (∀ w1, Below W0.heap.size W0 w1 → w1.heap[bx]? = some (.cells #[.slice (some ⟨kb, 0, none⟩) n n, .slice (some ⟨ib, 0, none⟩) n n] 32) ∧ w1.heap[bx + 1]? = some (.cells #[.int .u8 kind, .int .u32 (id : Int), .int .u64 key] 42) ∧ w1.heap[bx + 1 + 1]? = some (.cells #[.int .u32 0, .int .u64 0, .bool false, .int .i64 0, .int .i64 0, .slice none 0 0] 44) ∧ bx + 1 + 1 < w1.heap.size) := fun w1 hF => by
    rw [← hbx]
    refine ⟨(hF.block _ (by omega)).trans k0, (hF.block _ (by omega)).trans k1, (hF.block _ (by omega)).trans k2, by have := hF.size; omega⟩
  have HW0 : Hid (((w.alloc (.cells #[.slice (some ⟨kb, 0, none⟩) n n, .slice (some ⟨ib, 0, none⟩) n n] 32)).alloc (.cells #[.int .u8 kind, .int .u32 (id : Int), .int .u64 key] 42)).alloc (.cells #[.int .u32 0, .int .u64 0, .bool false, .int .i64 0, .int .i64 0, .slice none 0 0] 44) = W0) := hW0
  have HBE : Hid (w.heap.size = bx) := hbx
  have n1 : kb ≠ ib := h.ne
  have n2 : ib ≠ kb := Ne.symm n1
  have n3 : kb ≠ bx := by omega
  have n4 : bx ≠ kb := by omega
  have n5 : ib ≠ bx := by omega
  have n6 : bx ≠ ib := by omega
  have n7 : kb ≠ bx + 1 := by omega
  have n8 : bx + 1 ≠ kb := by omega
  have n9 : ib ≠ bx + 1 := by omega
  have n10 : bx + 1 ≠ ib := by omega
  have n11 : kb ≠ bx + 1 + 1 := by omega
  have n12 : bx + 1 + 1 ≠ kb := by omega
  have n13 : ib ≠ bx + 1 + 1 := by omega
  have n14 : bx + 1 + 1 ≠ ib := by omega
  have i0 : (0 : Int) ≤ (id : Int) := by omega
  have i1 : (id : Int) ≤ 4294967295 := by omega
  have i2 : (0 : Int) ≤ (n : Int) := by omega
  have i3 : (n : Int) ≤ 65536 := by omega
  have hB0s := hB0.size
  have m1 : kb < W0.heap.size := by omega
  have m2 : ib < W0.heap.size := by omega
  subst hk
  have j0 : (id : Int) < (n : Int) := by omega
  obtain ⟨b, hb⟩ : ∃ b, bs[id]? = some b := ⟨bs[id]'(by omega), List.getElem?_eq_getElem _⟩
  obtain ⟨e0, e1⟩ := HR0.out.rm.icell hb
  obtain ⟨e2, e3⟩ := HR0.out.rm.kcell hl
  obtain rfl : b = true := by rw [hb0] at hb; exact (Option.some.inj hb).symm
  obtain ⟨s0, s1, s2, s3⟩ := HK.out W0 (Below.refl _ _)
  obtain ⟨x0, x1⟩ := pair_cells s0
  obtain ⟨x2, x3, x4⟩ := three_cells s1
  obtain ⟨⟨y0, y1, y2, y3, y4, y5⟩, ⟨v0, v1, v2, v3, v4, v5⟩⟩ := six_cells s2
  have hs0 : bx < W0.heap.size := by omega
  have hs1 : bx + 1 < W0.heap.size := by omega
  clear h hW0 k0 k1 k2 ks hB0 hbx l1 l2 s0 s1 s2 hB0s
  go_enter Tryd.func12, Tryd.ntmps12
  go_upto_region 1 with fail
  rw [HW0.out, HBE.out]
  go_wp2_with fail
  go_quiet (fail)
  go_wp2
  refine bodyPost_ret (v := .agg #[.int .u32 0, .int .u64 0, .bool false, .int .i64 0, .int .i64 0, .slice none 0 0]) (by simp [results, Tryd.results12, go_sem, y0, y1, y2, y3, y4, y5]) rfl ⟨rfl, ?_⟩
  repeat first
    | with_reducible refine RS.res HC.out ?_
    | with_reducible refine RS.drewN ?_
    | with_reducible refine RS.drew ?_
    | with_reducible refine RS.putI ?_
    | with_reducible refine RS.putK ?_
  exact HR0.out

set_option maxRecDepth 100000 in
set_option maxHeartbeats 2000000 in
theorem ref_push_more (kind key : Int) (id : Nat) (hid : id ≤ 4294967295) (l0 : Int) (hn : n ≤ 65536) (h : RM w kb ib n ls bs) (hk : kind = 1) (hd : id < n) (hl : ls[id]? = some l0) (hb0 : bs[id]? = some true) (hlt : ¬ key < l0) :
    Calls Tryd.prog 12 #[.agg #[.slice (some ⟨kb, 0, none⟩) n n, .slice (some ⟨ib, 0, none⟩) n n], .agg #[.int .u8 kind, .int .u32 (id : Int), .int .u64 key]] w fun e w' => e = .returned (.agg #[.int .u32 0, .int .u64 0, .bool false, .int .i64 0, .int .i64 0, .slice none 0 0]) ∧ RS kb ib n w (ls) (bs.set id true) w' := by
  obtain ⟨W0, hW0⟩ : ∃ W0, ((w.alloc (.cells #[.slice (some ⟨kb, 0, none⟩) n n, .slice (some ⟨ib, 0, none⟩) n n] 32)).alloc (.cells #[.int .u8 kind, .int .u32 (id : Int), .int .u64 key] 42)).alloc (.cells #[.int .u32 0, .int .u64 0, .bool false, .int .i64 0, .int .i64 0, .slice none 0 0] 44) = W0 := ⟨_, rfl⟩
  obtain ⟨k0, k1, k2, ks, hB0⟩ := three_new w (.cells #[.slice (some ⟨kb, 0, none⟩) n n, .slice (some ⟨ib, 0, none⟩) n n] 32) (.cells #[.int .u8 kind, .int .u32 (id : Int), .int .u64 key] 42) (.cells #[.int .u32 0, .int .u64 0, .bool false, .int .i64 0, .int .i64 0, .slice none 0 0] 44)
  rw [hW0] at k0 k1 k2 ks hB0
  obtain ⟨bx, hbx⟩ : ∃ bx, w.heap.size = bx := ⟨_, rfl⟩
  have l1 : kb < w.heap.size := lt_of_get h.krow
  have l2 : ib < w.heap.size := lt_of_get h.irow
  have hll := h.ll
  have hil := h.il
  have HR0 : Hid (RS kb ib n w ls bs W0) := (RS.refl h).below hB0
  have HC : Hid (w.heap.size ≤ bx + 1 + 1 ∧ kb ≠ bx + 1 + 1 ∧ ib ≠ bx + 1 + 1) := by exact ⟨by omega, by omega, by omega⟩
  have HK : Hid (∀ w1, Below W0.heap.size W0 w1 → w1.heap[bx]? = some (.cells #[.slice (some ⟨kb, 0, none⟩) n n, .slice (some ⟨ib, 0, none⟩) n n] 32) ∧ w1.heap[bx + 1]? = some (.cells #[.int .u8 kind, .int .u32 (id : Int), .int .u64 key] 42) ∧ w1.heap[bx + 1 + 1]? = some (.cells #[.int .u32 0, .int .u64 0, .bool false, .int .i64 0, .int .i64 0, .slice none 0 0] 44) ∧ bx + 1 + 1 < w1.heap.size) := fun w1 hF => by
    rw [← hbx]
    refine ⟨(hF.block _ (by omega)).trans k0, (hF.block _ (by omega)).trans k1, (hF.block _ (by omega)).trans k2, by have := hF.size; omega⟩
  have HW0 : Hid (((w.alloc (.cells #[.slice (some ⟨kb, 0, none⟩) n n, .slice (some ⟨ib, 0, none⟩) n n] 32)).alloc (.cells #[.int .u8 kind, .int .u32 (id : Int), .int .u64 key] 42)).alloc (.cells #[.int .u32 0, .int .u64 0, .bool false, .int .i64 0, .int .i64 0, .slice none 0 0] 44) = W0) := hW0
  have HBE : Hid (w.heap.size = bx) := hbx
  have n1 : kb ≠ ib := h.ne
  have n2 : ib ≠ kb := Ne.symm n1
  have n3 : kb ≠ bx := by omega
  have n4 : bx ≠ kb := by omega
  have n5 : ib ≠ bx := by omega
  have n6 : bx ≠ ib := by omega
  have n7 : kb ≠ bx + 1 := by omega
  have n8 : bx + 1 ≠ kb := by omega
  have n9 : ib ≠ bx + 1 := by omega
  have n10 : bx + 1 ≠ ib := by omega
  have n11 : kb ≠ bx + 1 + 1 := by omega
  have n12 : bx + 1 + 1 ≠ kb := by omega
  have n13 : ib ≠ bx + 1 + 1 := by omega
  have n14 : bx + 1 + 1 ≠ ib := by omega
  have i0 : (0 : Int) ≤ (id : Int) := by omega
  have i1 : (id : Int) ≤ 4294967295 := by omega
  have i2 : (0 : Int) ≤ (n : Int) := by omega
  have i3 : (n : Int) ≤ 65536 := by omega
  have hB0s := hB0.size
  have m1 : kb < W0.heap.size := by omega
  have m2 : ib < W0.heap.size := by omega
  subst hk
  have j0 : (id : Int) < (n : Int) := by omega
  obtain ⟨b, hb⟩ : ∃ b, bs[id]? = some b := ⟨bs[id]'(by omega), List.getElem?_eq_getElem _⟩
  obtain ⟨e0, e1⟩ := HR0.out.rm.icell hb
  obtain ⟨e2, e3⟩ := HR0.out.rm.kcell hl
  obtain rfl : b = true := by rw [hb0] at hb; exact (Option.some.inj hb).symm
  obtain ⟨s0, s1, s2, s3⟩ := HK.out W0 (Below.refl _ _)
  obtain ⟨x0, x1⟩ := pair_cells s0
  obtain ⟨x2, x3, x4⟩ := three_cells s1
  obtain ⟨⟨y0, y1, y2, y3, y4, y5⟩, ⟨v0, v1, v2, v3, v4, v5⟩⟩ := six_cells s2
  have hs0 : bx < W0.heap.size := by omega
  have hs1 : bx + 1 < W0.heap.size := by omega
  clear h hW0 k0 k1 k2 ks hB0 hbx l1 l2 s0 s1 s2 hB0s
  go_enter Tryd.func12, Tryd.ntmps12
  go_upto_region 1 with fail
  rw [HW0.out, HBE.out]
  go_wp2_with fail
  go_quiet (fail)
  go_wp2
  refine bodyPost_ret (v := .agg #[.int .u32 0, .int .u64 0, .bool false, .int .i64 0, .int .i64 0, .slice none 0 0]) (by simp [results, Tryd.results12, go_sem, y0, y1, y2, y3, y4, y5]) rfl ⟨rfl, ?_⟩
  repeat first
    | with_reducible refine RS.res HC.out ?_
    | with_reducible refine RS.drewN ?_
    | with_reducible refine RS.drew ?_
    | with_reducible refine RS.putI ?_
    | with_reducible refine RS.putK ?_
  exact HR0.out

set_option maxRecDepth 100000 in
set_option maxHeartbeats 2000000 in
theorem ref_pop_none (kind key : Int) (id : Nat) (hid : id ≤ 4294967295) (hn : n ≤ 65536) (h : RM w kb ib n ls bs) (hk : kind = 3) (hL : ∀ a, LeastTo ls bs n a → a = -1) :
    Calls Tryd.prog 12 #[.agg #[.slice (some ⟨kb, 0, none⟩) n n, .slice (some ⟨ib, 0, none⟩) n n], .agg #[.int .u8 kind, .int .u32 (id : Int), .int .u64 key]] w fun e w' => e = .returned (.agg #[.int .u32 0, .int .u64 0, .bool false, .int .i64 0, .int .i64 0, .slice none 0 0]) ∧ RS kb ib n w (ls) (bs) w' := by
  obtain ⟨W0, hW0⟩ : ∃ W0, ((w.alloc (.cells #[.slice (some ⟨kb, 0, none⟩) n n, .slice (some ⟨ib, 0, none⟩) n n] 32)).alloc (.cells #[.int .u8 kind, .int .u32 (id : Int), .int .u64 key] 42)).alloc (.cells #[.int .u32 0, .int .u64 0, .bool false, .int .i64 0, .int .i64 0, .slice none 0 0] 44) = W0 := ⟨_, rfl⟩
  obtain ⟨k0, k1, k2, ks, hB0⟩ := three_new w (.cells #[.slice (some ⟨kb, 0, none⟩) n n, .slice (some ⟨ib, 0, none⟩) n n] 32) (.cells #[.int .u8 kind, .int .u32 (id : Int), .int .u64 key] 42) (.cells #[.int .u32 0, .int .u64 0, .bool false, .int .i64 0, .int .i64 0, .slice none 0 0] 44)
  rw [hW0] at k0 k1 k2 ks hB0
  obtain ⟨bx, hbx⟩ : ∃ bx, w.heap.size = bx := ⟨_, rfl⟩
  have l1 : kb < w.heap.size := lt_of_get h.krow
  have l2 : ib < w.heap.size := lt_of_get h.irow
  have hll := h.ll
  have hil := h.il
  have HR0 : Hid (RS kb ib n w ls bs W0) := (RS.refl h).below hB0
  have HC : Hid (w.heap.size ≤ bx + 1 + 1 ∧ kb ≠ bx + 1 + 1 ∧ ib ≠ bx + 1 + 1) := by exact ⟨by omega, by omega, by omega⟩
  have HK : Hid (∀ w1, Below W0.heap.size W0 w1 → w1.heap[bx]? = some (.cells #[.slice (some ⟨kb, 0, none⟩) n n, .slice (some ⟨ib, 0, none⟩) n n] 32) ∧ w1.heap[bx + 1]? = some (.cells #[.int .u8 kind, .int .u32 (id : Int), .int .u64 key] 42) ∧ w1.heap[bx + 1 + 1]? = some (.cells #[.int .u32 0, .int .u64 0, .bool false, .int .i64 0, .int .i64 0, .slice none 0 0] 44) ∧ bx + 1 + 1 < w1.heap.size) := fun w1 hF => by
    rw [← hbx]
    refine ⟨(hF.block _ (by omega)).trans k0, (hF.block _ (by omega)).trans k1, (hF.block _ (by omega)).trans k2, by have := hF.size; omega⟩
  have HW0 : Hid (((w.alloc (.cells #[.slice (some ⟨kb, 0, none⟩) n n, .slice (some ⟨ib, 0, none⟩) n n] 32)).alloc (.cells #[.int .u8 kind, .int .u32 (id : Int), .int .u64 key] 42)).alloc (.cells #[.int .u32 0, .int .u64 0, .bool false, .int .i64 0, .int .i64 0, .slice none 0 0] 44) = W0) := hW0
  have HBE : Hid (w.heap.size = bx) := hbx
  have n1 : kb ≠ ib := h.ne
  have n2 : ib ≠ kb := Ne.symm n1
  have n3 : kb ≠ bx := by omega
  have n4 : bx ≠ kb := by omega
  have n5 : ib ≠ bx := by omega
  have n6 : bx ≠ ib := by omega
  have n7 : kb ≠ bx + 1 := by omega
  have n8 : bx + 1 ≠ kb := by omega
  have n9 : ib ≠ bx + 1 := by omega
  have n10 : bx + 1 ≠ ib := by omega
  have n11 : kb ≠ bx + 1 + 1 := by omega
  have n12 : bx + 1 + 1 ≠ kb := by omega
  have n13 : ib ≠ bx + 1 + 1 := by omega
  have n14 : bx + 1 + 1 ≠ ib := by omega
  have i0 : (0 : Int) ≤ (id : Int) := by omega
  have i1 : (id : Int) ≤ 4294967295 := by omega
  have i2 : (0 : Int) ≤ (n : Int) := by omega
  have i3 : (n : Int) ≤ 65536 := by omega
  have hB0s := hB0.size
  have m1 : kb < W0.heap.size := by omega
  have m2 : ib < W0.heap.size := by omega
  subst hk
  have j0 : (id : Int) < (n : Int) ∨ ¬ (id : Int) < (n : Int) := Classical.em _
  have HLR : Hid (∀ wx, Below W0.heap.size W0 wx → Calls Tryd.prog 24 #[.agg #[.slice (some ⟨kb, 0, none⟩) n n, .slice (some ⟨ib, 0, none⟩) n n]] wx fun e w' => e = .returned (.int .i64 (-1)) ∧ Below wx.heap.size wx w') := fun wx hb => by
    refine (least_ref (HR0.out.rm.below hb) hn).mono ?_
    rintro e w' ⟨a, he, hl, hb'⟩
    obtain rfl := hL a hl
    exact ⟨he, hb'⟩
  obtain ⟨s0, s1, s2, s3⟩ := HK.out W0 (Below.refl _ _)
  obtain ⟨x0, x1⟩ := pair_cells s0
  obtain ⟨x2, x3, x4⟩ := three_cells s1
  obtain ⟨⟨y0, y1, y2, y3, y4, y5⟩, ⟨v0, v1, v2, v3, v4, v5⟩⟩ := six_cells s2
  have hs0 : bx < W0.heap.size := by omega
  have hs1 : bx + 1 < W0.heap.size := by omega
  rcases j0 with j0 | j0
  all_goals
    clear h hW0 k0 k1 k2 ks hB0 hbx l1 l2 s0 s1 s2 hB0s
    go_enter Tryd.func12, Tryd.ntmps12
    go_upto_region 1 with fail
    rw [HW0.out, HBE.out]
    go_wp2_with fail
    refine (HLR.out _ (Below.refl _ _)).mono ?_
    rintro e w1 ⟨rfl, hb1⟩
    have HR1 : Hid (RS kb ib n w ls bs w1) := HR0.out.below hb1
    clear x0 x1 x2 x3 x4 y0 y1 y2 y3 y4 y5 v0 v1 v2 v3 v4 v5 hs0 hs1 s3
    obtain ⟨s0, s1, s2, s3⟩ := HK.out w1 hb1
    obtain ⟨x0, x1⟩ := pair_cells s0
    obtain ⟨x2, x3, x4⟩ := three_cells s1
    obtain ⟨⟨y0, y1, y2, y3, y4, y5⟩, ⟨v0, v1, v2, v3, v4, v5⟩⟩ := six_cells s2
    have hs0 : bx < w1.heap.size := by omega
    have hs1 : bx + 1 < w1.heap.size := by omega
    have hs2 : kb < w1.heap.size := lt_of_get HR1.out.rm.krow
    have hs3 : ib < w1.heap.size := lt_of_get HR1.out.rm.irow
    clear hb1 s0 s1 s2
    go_wp2
    refine bodyPost_ret (v := .agg #[.int .u32 0, .int .u64 0, .bool false, .int .i64 0, .int .i64 0, .slice none 0 0]) (by simp [results, Tryd.results12, go_sem, y0, y1, y2, y3, y4, y5]) rfl ⟨rfl, ?_⟩
    repeat first
      | with_reducible refine RS.res HC.out ?_
      | with_reducible refine RS.drewN ?_
      | with_reducible refine RS.drew ?_
      | with_reducible refine RS.putI ?_
      | with_reducible refine RS.putK ?_
    exact HR1.out

set_option maxRecDepth 100000 in
set_option maxHeartbeats 2000000 in
theorem ref_top_none (kind key : Int) (id : Nat) (hid : id ≤ 4294967295) (hn : n ≤ 65536) (h : RM w kb ib n ls bs) (hk : kind = 4) (hL : ∀ a, LeastTo ls bs n a → a = -1) :
    Calls Tryd.prog 12 #[.agg #[.slice (some ⟨kb, 0, none⟩) n n, .slice (some ⟨ib, 0, none⟩) n n], .agg #[.int .u8 kind, .int .u32 (id : Int), .int .u64 key]] w fun e w' => e = .returned (.agg #[.int .u32 0, .int .u64 0, .bool false, .int .i64 0, .int .i64 0, .slice none 0 0]) ∧ RS kb ib n w (ls) (bs) w' := by
  obtain ⟨W0, hW0⟩ : ∃ W0, ((w.alloc (.cells #[.slice (some ⟨kb, 0, none⟩) n n, .slice (some ⟨ib, 0, none⟩) n n] 32)).alloc (.cells #[.int .u8 kind, .int .u32 (id : Int), .int .u64 key] 42)).alloc (.cells #[.int .u32 0, .int .u64 0, .bool false, .int .i64 0, .int .i64 0, .slice none 0 0] 44) = W0 := ⟨_, rfl⟩
  obtain ⟨k0, k1, k2, ks, hB0⟩ := three_new w (.cells #[.slice (some ⟨kb, 0, none⟩) n n, .slice (some ⟨ib, 0, none⟩) n n] 32) (.cells #[.int .u8 kind, .int .u32 (id : Int), .int .u64 key] 42) (.cells #[.int .u32 0, .int .u64 0, .bool false, .int .i64 0, .int .i64 0, .slice none 0 0] 44)
  rw [hW0] at k0 k1 k2 ks hB0
  obtain ⟨bx, hbx⟩ : ∃ bx, w.heap.size = bx := ⟨_, rfl⟩
  have l1 : kb < w.heap.size := lt_of_get h.krow
  have l2 : ib < w.heap.size := lt_of_get h.irow
  have hll := h.ll
  have hil := h.il
  have HR0 : Hid (RS kb ib n w ls bs W0) := (RS.refl h).below hB0
  have HC : Hid (w.heap.size ≤ bx + 1 + 1 ∧ kb ≠ bx + 1 + 1 ∧ ib ≠ bx + 1 + 1) := by exact ⟨by omega, by omega, by omega⟩
  have HK : Hid (∀ w1, Below W0.heap.size W0 w1 → w1.heap[bx]? = some (.cells #[.slice (some ⟨kb, 0, none⟩) n n, .slice (some ⟨ib, 0, none⟩) n n] 32) ∧ w1.heap[bx + 1]? = some (.cells #[.int .u8 kind, .int .u32 (id : Int), .int .u64 key] 42) ∧ w1.heap[bx + 1 + 1]? = some (.cells #[.int .u32 0, .int .u64 0, .bool false, .int .i64 0, .int .i64 0, .slice none 0 0] 44) ∧ bx + 1 + 1 < w1.heap.size) := fun w1 hF => by
    rw [← hbx]
    refine ⟨(hF.block _ (by omega)).trans k0, (hF.block _ (by omega)).trans k1, (hF.block _ (by omega)).trans k2, by have := hF.size; omega⟩
  have HW0 : Hid (((w.alloc (.cells #[.slice (some ⟨kb, 0, none⟩) n n, .slice (some ⟨ib, 0, none⟩) n n] 32)).alloc (.cells #[.int .u8 kind, .int .u32 (id : Int), .int .u64 key] 42)).alloc (.cells #[.int .u32 0, .int .u64 0, .bool false, .int .i64 0, .int .i64 0, .slice none 0 0] 44) = W0) := hW0
  have HBE : Hid (w.heap.size = bx) := hbx
  have n1 : kb ≠ ib := h.ne
  have n2 : ib ≠ kb := Ne.symm n1
  have n3 : kb ≠ bx := by omega
  have n4 : bx ≠ kb := by omega
  have n5 : ib ≠ bx := by omega
  have n6 : bx ≠ ib := by omega
  have n7 : kb ≠ bx + 1 := by omega
  have n8 : bx + 1 ≠ kb := by omega
  have n9 : ib ≠ bx + 1 := by omega
  have n10 : bx + 1 ≠ ib := by omega
  have n11 : kb ≠ bx + 1 + 1 := by omega
  have n12 : bx + 1 + 1 ≠ kb := by omega
  have n13 : ib ≠ bx + 1 + 1 := by omega
  have n14 : bx + 1 + 1 ≠ ib := by omega
  have i0 : (0 : Int) ≤ (id : Int) := by omega
  have i1 : (id : Int) ≤ 4294967295 := by omega
  have i2 : (0 : Int) ≤ (n : Int) := by omega
  have i3 : (n : Int) ≤ 65536 := by omega
  have hB0s := hB0.size
  have m1 : kb < W0.heap.size := by omega
  have m2 : ib < W0.heap.size := by omega
  subst hk
  have j0 : (id : Int) < (n : Int) ∨ ¬ (id : Int) < (n : Int) := Classical.em _
  have HLR : Hid (∀ wx, Below W0.heap.size W0 wx → Calls Tryd.prog 24 #[.agg #[.slice (some ⟨kb, 0, none⟩) n n, .slice (some ⟨ib, 0, none⟩) n n]] wx fun e w' => e = .returned (.int .i64 (-1)) ∧ Below wx.heap.size wx w') := fun wx hb => by
    refine (least_ref (HR0.out.rm.below hb) hn).mono ?_
    rintro e w' ⟨a, he, hl, hb'⟩
    obtain rfl := hL a hl
    exact ⟨he, hb'⟩
  obtain ⟨s0, s1, s2, s3⟩ := HK.out W0 (Below.refl _ _)
  obtain ⟨x0, x1⟩ := pair_cells s0
  obtain ⟨x2, x3, x4⟩ := three_cells s1
  obtain ⟨⟨y0, y1, y2, y3, y4, y5⟩, ⟨v0, v1, v2, v3, v4, v5⟩⟩ := six_cells s2
  have hs0 : bx < W0.heap.size := by omega
  have hs1 : bx + 1 < W0.heap.size := by omega
  rcases j0 with j0 | j0
  all_goals
    clear h hW0 k0 k1 k2 ks hB0 hbx l1 l2 s0 s1 s2 hB0s
    go_enter Tryd.func12, Tryd.ntmps12
    go_upto_region 1 with fail
    rw [HW0.out, HBE.out]
    go_wp2_with fail
    refine (HLR.out _ (Below.refl _ _)).mono ?_
    rintro e w1 ⟨rfl, hb1⟩
    have HR1 : Hid (RS kb ib n w ls bs w1) := HR0.out.below hb1
    clear x0 x1 x2 x3 x4 y0 y1 y2 y3 y4 y5 v0 v1 v2 v3 v4 v5 hs0 hs1 s3
    obtain ⟨s0, s1, s2, s3⟩ := HK.out w1 hb1
    obtain ⟨x0, x1⟩ := pair_cells s0
    obtain ⟨x2, x3, x4⟩ := three_cells s1
    obtain ⟨⟨y0, y1, y2, y3, y4, y5⟩, ⟨v0, v1, v2, v3, v4, v5⟩⟩ := six_cells s2
    have hs0 : bx < w1.heap.size := by omega
    have hs1 : bx + 1 < w1.heap.size := by omega
    have hs2 : kb < w1.heap.size := lt_of_get HR1.out.rm.krow
    have hs3 : ib < w1.heap.size := lt_of_get HR1.out.rm.irow
    clear hb1 s0 s1 s2
    go_wp2
    refine bodyPost_ret (v := .agg #[.int .u32 0, .int .u64 0, .bool false, .int .i64 0, .int .i64 0, .slice none 0 0]) (by simp [results, Tryd.results12, go_sem, y0, y1, y2, y3, y4, y5]) rfl ⟨rfl, ?_⟩
    repeat first
      | with_reducible refine RS.res HC.out ?_
      | with_reducible refine RS.drewN ?_
      | with_reducible refine RS.drew ?_
      | with_reducible refine RS.putI ?_
      | with_reducible refine RS.putK ?_
    exact HR1.out

set_option maxRecDepth 100000 in
set_option maxHeartbeats 2000000 in
theorem ref_pop_some (kind key : Int) (id : Nat) (hid : id ≤ 4294967295) (d : Nat) (k : Int) (hn : n ≤ 65536) (h : RM w kb ib n ls bs) (hk : kind = 3) (hdn : d < n) (hls : ls[d]? = some k) (hbs : bs[d]? = some true) (hL : ∀ a, LeastTo ls bs n a → a = (d : Int)) :
    Calls Tryd.prog 12 #[.agg #[.slice (some ⟨kb, 0, none⟩) n n, .slice (some ⟨ib, 0, none⟩) n n], .agg #[.int .u8 kind, .int .u32 (id : Int), .int .u64 key]] w fun e w' => e = .returned (.agg #[.int .u32 (d : Int), .int .u64 k, .bool true, .int .i64 0, .int .i64 0, .slice none 0 0]) ∧ RS kb ib n w (ls) (bs.set d false) w' := by
  obtain ⟨W0, hW0⟩ : ∃ W0, ((w.alloc (.cells #[.slice (some ⟨kb, 0, none⟩) n n, .slice (some ⟨ib, 0, none⟩) n n] 32)).alloc (.cells #[.int .u8 kind, .int .u32 (id : Int), .int .u64 key] 42)).alloc (.cells #[.int .u32 0, .int .u64 0, .bool false, .int .i64 0, .int .i64 0, .slice none 0 0] 44) = W0 := ⟨_, rfl⟩
  obtain ⟨k0, k1, k2, ks, hB0⟩ := three_new w (.cells #[.slice (some ⟨kb, 0, none⟩) n n, .slice (some ⟨ib, 0, none⟩) n n] 32) (.cells #[.int .u8 kind, .int .u32 (id : Int), .int .u64 key] 42) (.cells #[.int .u32 0, .int .u64 0, .bool false, .int .i64 0, .int .i64 0, .slice none 0 0] 44)
  rw [hW0] at k0 k1 k2 ks hB0
  obtain ⟨bx, hbx⟩ : ∃ bx, w.heap.size = bx := ⟨_, rfl⟩
  have l1 : kb < w.heap.size := lt_of_get h.krow
  have l2 : ib < w.heap.size := lt_of_get h.irow
  have hll := h.ll
  have hil := h.il
  have HR0 : Hid (RS kb ib n w ls bs W0) := (RS.refl h).below hB0
  have HC : Hid (w.heap.size ≤ bx + 1 + 1 ∧ kb ≠ bx + 1 + 1 ∧ ib ≠ bx + 1 + 1) := by exact ⟨by omega, by omega, by omega⟩
  have HK : Hid (∀ w1, Below W0.heap.size W0 w1 → w1.heap[bx]? = some (.cells #[.slice (some ⟨kb, 0, none⟩) n n, .slice (some ⟨ib, 0, none⟩) n n] 32) ∧ w1.heap[bx + 1]? = some (.cells #[.int .u8 kind, .int .u32 (id : Int), .int .u64 key] 42) ∧ w1.heap[bx + 1 + 1]? = some (.cells #[.int .u32 0, .int .u64 0, .bool false, .int .i64 0, .int .i64 0, .slice none 0 0] 44) ∧ bx + 1 + 1 < w1.heap.size) := fun w1 hF => by
    rw [← hbx]
    refine ⟨(hF.block _ (by omega)).trans k0, (hF.block _ (by omega)).trans k1, (hF.block _ (by omega)).trans k2, by have := hF.size; omega⟩
  have HW0 : Hid (((w.alloc (.cells #[.slice (some ⟨kb, 0, none⟩) n n, .slice (some ⟨ib, 0, none⟩) n n] 32)).alloc (.cells #[.int .u8 kind, .int .u32 (id : Int), .int .u64 key] 42)).alloc (.cells #[.int .u32 0, .int .u64 0, .bool false, .int .i64 0, .int .i64 0, .slice none 0 0] 44) = W0) := hW0
  have HBE : Hid (w.heap.size = bx) := hbx
  have n1 : kb ≠ ib := h.ne
  have n2 : ib ≠ kb := Ne.symm n1
  have n3 : kb ≠ bx := by omega
  have n4 : bx ≠ kb := by omega
  have n5 : ib ≠ bx := by omega
  have n6 : bx ≠ ib := by omega
  have n7 : kb ≠ bx + 1 := by omega
  have n8 : bx + 1 ≠ kb := by omega
  have n9 : ib ≠ bx + 1 := by omega
  have n10 : bx + 1 ≠ ib := by omega
  have n11 : kb ≠ bx + 1 + 1 := by omega
  have n12 : bx + 1 + 1 ≠ kb := by omega
  have n13 : ib ≠ bx + 1 + 1 := by omega
  have n14 : bx + 1 + 1 ≠ ib := by omega
  have i0 : (0 : Int) ≤ (id : Int) := by omega
  have i1 : (id : Int) ≤ 4294967295 := by omega
  have i2 : (0 : Int) ≤ (n : Int) := by omega
  have i3 : (n : Int) ≤ 65536 := by omega
  have hB0s := hB0.size
  have m1 : kb < W0.heap.size := by omega
  have m2 : ib < W0.heap.size := by omega
  subst hk
  have d0 : (0 : Int) ≤ (d : Int) := by omega
  have d1 : (d : Int) < (n : Int) := by omega
  have d2 : ¬ (d : Int) < 0 := by omega
  have d3 : IntKind.u32.wrap (d : Int) = d := by rw [IntKind.wrap_u32]; omega
  have j0 : (id : Int) < (n : Int) ∨ ¬ (id : Int) < (n : Int) := Classical.em _
  have HLR : Hid (∀ wx, Below W0.heap.size W0 wx → Calls Tryd.prog 24 #[.agg #[.slice (some ⟨kb, 0, none⟩) n n, .slice (some ⟨ib, 0, none⟩) n n]] wx fun e w' => e = .returned (.int .i64 (d : Int)) ∧ Below wx.heap.size wx w') := fun wx hb => by
    refine (least_ref (HR0.out.rm.below hb) hn).mono ?_
    rintro e w' ⟨a, he, hl, hb'⟩
    obtain rfl := hL a hl
    exact ⟨he, hb'⟩
  obtain ⟨s0, s1, s2, s3⟩ := HK.out W0 (Below.refl _ _)
  obtain ⟨x0, x1⟩ := pair_cells s0
  obtain ⟨x2, x3, x4⟩ := three_cells s1
  obtain ⟨⟨y0, y1, y2, y3, y4, y5⟩, ⟨v0, v1, v2, v3, v4, v5⟩⟩ := six_cells s2
  have hs0 : bx < W0.heap.size := by omega
  have hs1 : bx + 1 < W0.heap.size := by omega
  rcases j0 with j0 | j0
  all_goals
    clear h hW0 k0 k1 k2 ks hB0 hbx l1 l2 s0 s1 s2 hB0s
    go_enter Tryd.func12, Tryd.ntmps12
    go_upto_region 1 with fail
    rw [HW0.out, HBE.out]
    go_wp2_with fail
    refine (HLR.out _ (Below.refl _ _)).mono ?_
    rintro e w1 ⟨rfl, hb1⟩
    have HR1 : Hid (RS kb ib n w ls bs w1) := HR0.out.below hb1
    clear x0 x1 x2 x3 x4 y0 y1 y2 y3 y4 y5 v0 v1 v2 v3 v4 v5 hs0 hs1 s3
    obtain ⟨s0, s1, s2, s3⟩ := HK.out w1 hb1
    obtain ⟨x0, x1⟩ := pair_cells s0
    obtain ⟨x2, x3, x4⟩ := three_cells s1
    obtain ⟨⟨y0, y1, y2, y3, y4, y5⟩, ⟨v0, v1, v2, v3, v4, v5⟩⟩ := six_cells s2
    have hs0 : bx < w1.heap.size := by omega
    have hs1 : bx + 1 < w1.heap.size := by omega
    have hs2 : kb < w1.heap.size := lt_of_get HR1.out.rm.krow
    have hs3 : ib < w1.heap.size := lt_of_get HR1.out.rm.irow
    obtain ⟨e0, e1⟩ := HR1.out.rm.icell hbs
    obtain ⟨e2, e3⟩ := HR1.out.rm.kcell hls
    clear hb1 s0 s1 s2
    go_wp2
    refine bodyPost_ret (v := .agg #[.int .u32 (d : Int), .int .u64 k, .bool true, .int .i64 0, .int .i64 0, .slice none 0 0]) (by simp [results, Tryd.results12, go_sem, y0, y1, y2, y3, y4, y5]) rfl ⟨rfl, ?_⟩
    repeat first
      | with_reducible refine RS.res HC.out ?_
      | with_reducible refine RS.drewN ?_
      | with_reducible refine RS.drew ?_
      | with_reducible refine RS.putI ?_
      | with_reducible refine RS.putK ?_
    exact HR1.out

set_option maxRecDepth 100000 in
set_option maxHeartbeats 2000000 in
theorem ref_top_some (kind key : Int) (id : Nat) (hid : id ≤ 4294967295) (d : Nat) (k : Int) (hn : n ≤ 65536) (h : RM w kb ib n ls bs) (hk : kind = 4) (hdn : d < n) (hls : ls[d]? = some k) (hbs : bs[d]? = some true) (hL : ∀ a, LeastTo ls bs n a → a = (d : Int)) :
    Calls Tryd.prog 12 #[.agg #[.slice (some ⟨kb, 0, none⟩) n n, .slice (some ⟨ib, 0, none⟩) n n], .agg #[.int .u8 kind, .int .u32 (id : Int), .int .u64 key]] w fun e w' => e = .returned (.agg #[.int .u32 (d : Int), .int .u64 k, .bool true, .int .i64 0, .int .i64 0, .slice none 0 0]) ∧ RS kb ib n w (ls) (bs) w' := by
  obtain ⟨W0, hW0⟩ : ∃ W0, ((w.alloc (.cells #[.slice (some ⟨kb, 0, none⟩) n n, .slice (some ⟨ib, 0, none⟩) n n] 32)).alloc (.cells #[.int .u8 kind, .int .u32 (id : Int), .int .u64 key] 42)).alloc (.cells #[.int .u32 0, .int .u64 0, .bool false, .int .i64 0, .int .i64 0, .slice none 0 0] 44) = W0 := ⟨_, rfl⟩
  obtain ⟨k0, k1, k2, ks, hB0⟩ := three_new w (.cells #[.slice (some ⟨kb, 0, none⟩) n n, .slice (some ⟨ib, 0, none⟩) n n] 32) (.cells #[.int .u8 kind, .int .u32 (id : Int), .int .u64 key] 42) (.cells #[.int .u32 0, .int .u64 0, .bool false, .int .i64 0, .int .i64 0, .slice none 0 0] 44)
  rw [hW0] at k0 k1 k2 ks hB0
  obtain ⟨bx, hbx⟩ : ∃ bx, w.heap.size = bx := ⟨_, rfl⟩
  have l1 : kb < w.heap.size := lt_of_get h.krow
  have l2 : ib < w.heap.size := lt_of_get h.irow
  have hll := h.ll
  have hil := h.il
  have HR0 : Hid (RS kb ib n w ls bs W0) := (RS.refl h).below hB0
  have HC : Hid (w.heap.size ≤ bx + 1 + 1 ∧ kb ≠ bx + 1 + 1 ∧ ib ≠ bx + 1 + 1) := by exact ⟨by omega, by omega, by omega⟩
  have HK : Hid (∀ w1, Below W0.heap.size W0 w1 → w1.heap[bx]? = some (.cells #[.slice (some ⟨kb, 0, none⟩) n n, .slice (some ⟨ib, 0, none⟩) n n] 32) ∧ w1.heap[bx + 1]? = some (.cells #[.int .u8 kind, .int .u32 (id : Int), .int .u64 key] 42) ∧ w1.heap[bx + 1 + 1]? = some (.cells #[.int .u32 0, .int .u64 0, .bool false, .int .i64 0, .int .i64 0, .slice none 0 0] 44) ∧ bx + 1 + 1 < w1.heap.size) := fun w1 hF => by
    rw [← hbx]
    refine ⟨(hF.block _ (by omega)).trans k0, (hF.block _ (by omega)).trans k1, (hF.block _ (by omega)).trans k2, by have := hF.size; omega⟩
  have HW0 : Hid (((w.alloc (.cells #[.slice (some ⟨kb, 0, none⟩) n n, .slice (some ⟨ib, 0, none⟩) n n] 32)).alloc (.cells #[.int .u8 kind, .int .u32 (id : Int), .int .u64 key] 42)).alloc (.cells #[.int .u32 0, .int .u64 0, .bool false, .int .i64 0, .int .i64 0, .slice none 0 0] 44) = W0) := hW0
  have HBE : Hid (w.heap.size = bx) := hbx
  have n1 : kb ≠ ib := h.ne
  have n2 : ib ≠ kb := Ne.symm n1
  have n3 : kb ≠ bx := by omega
  have n4 : bx ≠ kb := by omega
  have n5 : ib ≠ bx := by omega
  have n6 : bx ≠ ib := by omega
  have n7 : kb ≠ bx + 1 := by omega
  have n8 : bx + 1 ≠ kb := by omega
  have n9 : ib ≠ bx + 1 := by omega
  have n10 : bx + 1 ≠ ib := by omega
  have n11 : kb ≠ bx + 1 + 1 := by omega
  have n12 : bx + 1 + 1 ≠ kb := by omega
  have n13 : ib ≠ bx + 1 + 1 := by omega
  have n14 : bx + 1 + 1 ≠ ib := by omega
  have i0 : (0 : Int) ≤ (id : Int) := by omega
  have i1 : (id : Int) ≤ 4294967295 := by omega
  have i2 : (0 : Int) ≤ (n : Int) := by omega
  have i3 : (n : Int) ≤ 65536 := by omega
  have hB0s := hB0.size
  have m1 : kb < W0.heap.size := by omega
  have m2 : ib < W0.heap.size := by omega
  subst hk
  have d0 : (0 : Int) ≤ (d : Int) := by omega
  have d1 : (d : Int) < (n : Int) := by omega
  have d2 : ¬ (d : Int) < 0 := by omega
  have d3 : IntKind.u32.wrap (d : Int) = d := by rw [IntKind.wrap_u32]; omega
  have j0 : (id : Int) < (n : Int) ∨ ¬ (id : Int) < (n : Int) := Classical.em _
  have HLR : Hid (∀ wx, Below W0.heap.size W0 wx → Calls Tryd.prog 24 #[.agg #[.slice (some ⟨kb, 0, none⟩) n n, .slice (some ⟨ib, 0, none⟩) n n]] wx fun e w' => e = .returned (.int .i64 (d : Int)) ∧ Below wx.heap.size wx w') := fun wx hb => by
    refine (least_ref (HR0.out.rm.below hb) hn).mono ?_
    rintro e w' ⟨a, he, hl, hb'⟩
    obtain rfl := hL a hl
    exact ⟨he, hb'⟩
  obtain ⟨s0, s1, s2, s3⟩ := HK.out W0 (Below.refl _ _)
  obtain ⟨x0, x1⟩ := pair_cells s0
  obtain ⟨x2, x3, x4⟩ := three_cells s1
  obtain ⟨⟨y0, y1, y2, y3, y4, y5⟩, ⟨v0, v1, v2, v3, v4, v5⟩⟩ := six_cells s2
  have hs0 : bx < W0.heap.size := by omega
  have hs1 : bx + 1 < W0.heap.size := by omega
  rcases j0 with j0 | j0
  all_goals
    clear h hW0 k0 k1 k2 ks hB0 hbx l1 l2 s0 s1 s2 hB0s
    go_enter Tryd.func12, Tryd.ntmps12
    go_upto_region 1 with fail
    rw [HW0.out, HBE.out]
    go_wp2_with fail
    refine (HLR.out _ (Below.refl _ _)).mono ?_
    rintro e w1 ⟨rfl, hb1⟩
    have HR1 : Hid (RS kb ib n w ls bs w1) := HR0.out.below hb1
    clear x0 x1 x2 x3 x4 y0 y1 y2 y3 y4 y5 v0 v1 v2 v3 v4 v5 hs0 hs1 s3
    obtain ⟨s0, s1, s2, s3⟩ := HK.out w1 hb1
    obtain ⟨x0, x1⟩ := pair_cells s0
    obtain ⟨x2, x3, x4⟩ := three_cells s1
    obtain ⟨⟨y0, y1, y2, y3, y4, y5⟩, ⟨v0, v1, v2, v3, v4, v5⟩⟩ := six_cells s2
    have hs0 : bx < w1.heap.size := by omega
    have hs1 : bx + 1 < w1.heap.size := by omega
    have hs2 : kb < w1.heap.size := lt_of_get HR1.out.rm.krow
    have hs3 : ib < w1.heap.size := lt_of_get HR1.out.rm.irow
    obtain ⟨e0, e1⟩ := HR1.out.rm.icell hbs
    obtain ⟨e2, e3⟩ := HR1.out.rm.kcell hls
    clear hb1 s0 s1 s2
    go_wp2
    refine bodyPost_ret (v := .agg #[.int .u32 (d : Int), .int .u64 k, .bool true, .int .i64 0, .int .i64 0, .slice none 0 0]) (by simp [results, Tryd.results12, go_sem, y0, y1, y2, y3, y4, y5]) rfl ⟨rfl, ?_⟩
    repeat first
      | with_reducible refine RS.res HC.out ?_
      | with_reducible refine RS.drewN ?_
      | with_reducible refine RS.drew ?_
      | with_reducible refine RS.putI ?_
      | with_reducible refine RS.putK ?_
    exact HR1.out

set_option maxRecDepth 100000 in
set_option maxHeartbeats 2000000 in
theorem ref_remove_far (kind key : Int) (id : Nat) (hid : id ≤ 4294967295) (hn : n ≤ 65536) (h : RM w kb ib n ls bs) (hk : kind = 5) (hd : n ≤ id) :
    Calls Tryd.prog 12 #[.agg #[.slice (some ⟨kb, 0, none⟩) n n, .slice (some ⟨ib, 0, none⟩) n n], .agg #[.int .u8 kind, .int .u32 (id : Int), .int .u64 key]] w fun e w' => e = .returned (.agg #[.int .u32 0, .int .u64 0, .bool false, .int .i64 0, .int .i64 0, .slice none 0 0]) ∧ RS kb ib n w (ls) (bs) w' := by
  obtain ⟨W0, hW0⟩ : ∃ W0, ((w.alloc (.cells #[.slice (some ⟨kb, 0, none⟩) n n, .slice (some ⟨ib, 0, none⟩) n n] 32)).alloc (.cells #[.int .u8 kind, .int .u32 (id : Int), .int .u64 key] 42)).alloc (.cells #[.int .u32 0, .int .u64 0, .bool false, .int .i64 0, .int .i64 0, .slice none 0 0] 44) = W0 := ⟨_, rfl⟩
  obtain ⟨k0, k1, k2, ks, hB0⟩ := three_new w (.cells #[.slice (some ⟨kb, 0, none⟩) n n, .slice (some ⟨ib, 0, none⟩) n n] 32) (.cells #[.int .u8 kind, .int .u32 (id : Int), .int .u64 key] 42) (.cells #[.int .u32 0, .int .u64 0, .bool false, .int .i64 0, .int .i64 0, .slice none 0 0] 44)
  rw [hW0] at k0 k1 k2 ks hB0
  obtain ⟨bx, hbx⟩ : ∃ bx, w.heap.size = bx := ⟨_, rfl⟩
  have l1 : kb < w.heap.size := lt_of_get h.krow
  have l2 : ib < w.heap.size := lt_of_get h.irow
  have hll := h.ll
  have hil := h.il
  have HR0 : Hid (RS kb ib n w ls bs W0) := (RS.refl h).below hB0
  have HC : Hid (w.heap.size ≤ bx + 1 + 1 ∧ kb ≠ bx + 1 + 1 ∧ ib ≠ bx + 1 + 1) := by exact ⟨by omega, by omega, by omega⟩
  have HK : Hid (∀ w1, Below W0.heap.size W0 w1 → w1.heap[bx]? = some (.cells #[.slice (some ⟨kb, 0, none⟩) n n, .slice (some ⟨ib, 0, none⟩) n n] 32) ∧ w1.heap[bx + 1]? = some (.cells #[.int .u8 kind, .int .u32 (id : Int), .int .u64 key] 42) ∧ w1.heap[bx + 1 + 1]? = some (.cells #[.int .u32 0, .int .u64 0, .bool false, .int .i64 0, .int .i64 0, .slice none 0 0] 44) ∧ bx + 1 + 1 < w1.heap.size) := fun w1 hF => by
    rw [← hbx]
    refine ⟨(hF.block _ (by omega)).trans k0, (hF.block _ (by omega)).trans k1, (hF.block _ (by omega)).trans k2, by have := hF.size; omega⟩
  have HW0 : Hid (((w.alloc (.cells #[.slice (some ⟨kb, 0, none⟩) n n, .slice (some ⟨ib, 0, none⟩) n n] 32)).alloc (.cells #[.int .u8 kind, .int .u32 (id : Int), .int .u64 key] 42)).alloc (.cells #[.int .u32 0, .int .u64 0, .bool false, .int .i64 0, .int .i64 0, .slice none 0 0] 44) = W0) := hW0
  have HBE : Hid (w.heap.size = bx) := hbx
  have n1 : kb ≠ ib := h.ne
  have n2 : ib ≠ kb := Ne.symm n1
  have n3 : kb ≠ bx := by omega
  have n4 : bx ≠ kb := by omega
  have n5 : ib ≠ bx := by omega
  have n6 : bx ≠ ib := by omega
  have n7 : kb ≠ bx + 1 := by omega
  have n8 : bx + 1 ≠ kb := by omega
  have n9 : ib ≠ bx + 1 := by omega
  have n10 : bx + 1 ≠ ib := by omega
  have n11 : kb ≠ bx + 1 + 1 := by omega
  have n12 : bx + 1 + 1 ≠ kb := by omega
  have n13 : ib ≠ bx + 1 + 1 := by omega
  have n14 : bx + 1 + 1 ≠ ib := by omega
  have i0 : (0 : Int) ≤ (id : Int) := by omega
  have i1 : (id : Int) ≤ 4294967295 := by omega
  have i2 : (0 : Int) ≤ (n : Int) := by omega
  have i3 : (n : Int) ≤ 65536 := by omega
  have hB0s := hB0.size
  have m1 : kb < W0.heap.size := by omega
  have m2 : ib < W0.heap.size := by omega
  subst hk
  have j0 : ¬ (id : Int) < (n : Int) := by omega
  obtain ⟨s0, s1, s2, s3⟩ := HK.out W0 (Below.refl _ _)
  obtain ⟨x0, x1⟩ := pair_cells s0
  obtain ⟨x2, x3, x4⟩ := three_cells s1
  obtain ⟨⟨y0, y1, y2, y3, y4, y5⟩, ⟨v0, v1, v2, v3, v4, v5⟩⟩ := six_cells s2
  have hs0 : bx < W0.heap.size := by omega
  have hs1 : bx + 1 < W0.heap.size := by omega
  clear h hW0 k0 k1 k2 ks hB0 hbx l1 l2 s0 s1 s2 hB0s
  go_enter Tryd.func12, Tryd.ntmps12
  go_upto_region 1 with fail
  rw [HW0.out, HBE.out]
  go_wp2
  refine bodyPost_ret (v := .agg #[.int .u32 0, .int .u64 0, .bool false, .int .i64 0, .int .i64 0, .slice none 0 0]) (by simp [results, Tryd.results12, go_sem, y0, y1, y2, y3, y4, y5]) rfl ⟨rfl, ?_⟩
  repeat first
    | with_reducible refine RS.res HC.out ?_
    | with_reducible refine RS.drewN ?_
    | with_reducible refine RS.drew ?_
    | with_reducible refine RS.putI ?_
    | with_reducible refine RS.putK ?_
  exact HR0.out

set_option maxRecDepth 100000 in
set_option maxHeartbeats 2000000 in
theorem ref_remove_out (kind key : Int) (id : Nat) (hid : id ≤ 4294967295) (hn : n ≤ 65536) (h : RM w kb ib n ls bs) (hk : kind = 5) (hd : id < n) (hb : bs[id]? = some false) :
    Calls Tryd.prog 12 #[.agg #[.slice (some ⟨kb, 0, none⟩) n n, .slice (some ⟨ib, 0, none⟩) n n], .agg #[.int .u8 kind, .int .u32 (id : Int), .int .u64 key]] w fun e w' => e = .returned (.agg #[.int .u32 0, .int .u64 0, .bool false, .int .i64 0, .int .i64 0, .slice none 0 0]) ∧ RS kb ib n w (ls) (bs) w' := by
  obtain ⟨W0, hW0⟩ : ∃ W0, ((w.alloc (.cells #[.slice (some ⟨kb, 0, none⟩) n n, .slice (some ⟨ib, 0, none⟩) n n] 32)).alloc (.cells #[.int .u8 kind, .int .u32 (id : Int), .int .u64 key] 42)).alloc (.cells #[.int .u32 0, .int .u64 0, .bool false, .int .i64 0, .int .i64 0, .slice none 0 0] 44) = W0 := ⟨_, rfl⟩
  obtain ⟨k0, k1, k2, ks, hB0⟩ := three_new w (.cells #[.slice (some ⟨kb, 0, none⟩) n n, .slice (some ⟨ib, 0, none⟩) n n] 32) (.cells #[.int .u8 kind, .int .u32 (id : Int), .int .u64 key] 42) (.cells #[.int .u32 0, .int .u64 0, .bool false, .int .i64 0, .int .i64 0, .slice none 0 0] 44)
  rw [hW0] at k0 k1 k2 ks hB0
  obtain ⟨bx, hbx⟩ : ∃ bx, w.heap.size = bx := ⟨_, rfl⟩
  have l1 : kb < w.heap.size := lt_of_get h.krow
  have l2 : ib < w.heap.size := lt_of_get h.irow
  have hll := h.ll
  have hil := h.il
  have HR0 : Hid (RS kb ib n w ls bs W0) := (RS.refl h).below hB0
  have HC : Hid (w.heap.size ≤ bx + 1 + 1 ∧ kb ≠ bx + 1 + 1 ∧ ib ≠ bx + 1 + 1) := by exact ⟨by omega, by omega, by omega⟩
  have HK : Hid (∀ w1, Below W0.heap.size W0 w1 → w1.heap[bx]? = some (.cells #[.slice (some ⟨kb, 0, none⟩) n n, .slice (some ⟨ib, 0, none⟩) n n] 32) ∧ w1.heap[bx + 1]? = some (.cells #[.int .u8 kind, .int .u32 (id : Int), .int .u64 key] 42) ∧ w1.heap[bx + 1 + 1]? = some (.cells #[.int .u32 0, .int .u64 0, .bool false, .int .i64 0, .int .i64 0, .slice none 0 0] 44) ∧ bx + 1 + 1 < w1.heap.size) := fun w1 hF => by
    rw [← hbx]
    refine ⟨(hF.block _ (by omega)).trans k0, (hF.block _ (by omega)).trans k1, (hF.block _ (by omega)).trans k2, by have := hF.size; omega⟩
  have HW0 : Hid (((w.alloc (.cells #[.slice (some ⟨kb, 0, none⟩) n n, .slice (some ⟨ib, 0, none⟩) n n] 32)).alloc (.cells #[.int .u8 kind, .int .u32 (id : Int), .int .u64 key] 42)).alloc (.cells #[.int .u32 0, .int .u64 0, .bool false, .int .i64 0, .int .i64 0, .slice none 0 0] 44) = W0) := hW0
  have HBE : Hid (w.heap.size = bx) := hbx
  have n1 : kb ≠ ib := h.ne
  have n2 : ib ≠ kb := Ne.symm n1
  have n3 : kb ≠ bx := by omega
  have n4 : bx ≠ kb := by omega
  have n5 : ib ≠ bx := by omega
  have n6 : bx ≠ ib := by omega
  have n7 : kb ≠ bx + 1 := by omega
  have n8 : bx + 1 ≠ kb := by omega
  have n9 : ib ≠ bx + 1 := by omega
  have n10 : bx + 1 ≠ ib := by omega
  have n11 : kb ≠ bx + 1 + 1 := by omega
  have n12 : bx + 1 + 1 ≠ kb := by omega
  have n13 : ib ≠ bx + 1 + 1 := by omega
  have n14 : bx + 1 + 1 ≠ ib := by omega
  have i0 : (0 : Int) ≤ (id : Int) := by omega
  have i1 : (id : Int) ≤ 4294967295 := by omega
  have i2 : (0 : Int) ≤ (n : Int) := by omega
  have i3 : (n : Int) ≤ 65536 := by omega
  have hB0s := hB0.size
  have m1 : kb < W0.heap.size := by omega
  have m2 : ib < W0.heap.size := by omega
  subst hk
  have j0 : (id : Int) < (n : Int) := by omega
  obtain ⟨e0, e1⟩ := HR0.out.rm.icell hb
  obtain ⟨s0, s1, s2, s3⟩ := HK.out W0 (Below.refl _ _)
  obtain ⟨x0, x1⟩ := pair_cells s0
  obtain ⟨x2, x3, x4⟩ := three_cells s1
  obtain ⟨⟨y0, y1, y2, y3, y4, y5⟩, ⟨v0, v1, v2, v3, v4, v5⟩⟩ := six_cells s2
  have hs0 : bx < W0.heap.size := by omega
  have hs1 : bx + 1 < W0.heap.size := by omega
  clear h hW0 k0 k1 k2 ks hB0 hbx l1 l2 s0 s1 s2 hB0s
  go_enter Tryd.func12, Tryd.ntmps12
  go_upto_region 1 with fail
  rw [HW0.out, HBE.out]
  go_wp2
  refine bodyPost_ret (v := .agg #[.int .u32 0, .int .u64 0, .bool false, .int .i64 0, .int .i64 0, .slice none 0 0]) (by simp [results, Tryd.results12, go_sem, y0, y1, y2, y3, y4, y5]) rfl ⟨rfl, ?_⟩
  repeat first
    | with_reducible refine RS.res HC.out ?_
    | with_reducible refine RS.drewN ?_
    | with_reducible refine RS.drew ?_
    | with_reducible refine RS.putI ?_
    | with_reducible refine RS.putK ?_
  exact HR0.out

set_option maxRecDepth 100000 in
set_option maxHeartbeats 2000000 in
theorem ref_remove_in (kind key : Int) (id : Nat) (hid : id ≤ 4294967295) (hn : n ≤ 65536) (h : RM w kb ib n ls bs) (hk : kind = 5) (hd : id < n) (hb : bs[id]? = some true) :
    Calls Tryd.prog 12 #[.agg #[.slice (some ⟨kb, 0, none⟩) n n, .slice (some ⟨ib, 0, none⟩) n n], .agg #[.int .u8 kind, .int .u32 (id : Int), .int .u64 key]] w fun e w' => e = .returned (.agg #[.int .u32 0, .int .u64 0, .bool true, .int .i64 0, .int .i64 0, .slice none 0 0]) ∧ RS kb ib n w (ls) (bs.set id false) w' := by
  obtain ⟨W0, hW0⟩ : ∃ W0, ((w.alloc (.cells #[.slice (some ⟨kb, 0, none⟩) n n, .slice (some ⟨ib, 0, none⟩) n n] 32)).alloc (.cells #[.int .u8 kind, .int .u32 (id : Int), .int .u64 key] 42)).alloc (.cells #[.int .u32 0, .int .u64 0, .bool false, .int .i64 0, .int .i64 0, .slice none 0 0] 44) = W0 := ⟨_, rfl⟩
  obtain ⟨k0, k1, k2, ks, hB0⟩ := three_new w (.cells #[.slice (some ⟨kb, 0, none⟩) n n, .slice (some ⟨ib, 0, none⟩) n n] 32) (.cells #[.int .u8 kind, .int .u32 (id : Int), .int .u64 key] 42) (.cells #[.int .u32 0, .int .u64 0, .bool false, .int .i64 0, .int .i64 0, .slice none 0 0] 44)
  rw [hW0] at k0 k1 k2 ks hB0
  obtain ⟨bx, hbx⟩ : ∃ bx, w.heap.size = bx := ⟨_, rfl⟩
  have l1 : kb < w.heap.size := lt_of_get h.krow
  have l2 : ib < w.heap.size := lt_of_get h.irow
  have hll := h.ll
  have hil := h.il
  have HR0 : Hid (RS kb ib n w ls bs W0) := (RS.refl h).below hB0
  have HC : Hid (w.heap.size ≤ bx + 1 + 1 ∧ kb ≠ bx + 1 + 1 ∧ ib ≠ bx + 1 + 1) := by exact ⟨by omega, by omega, by omega⟩
  have HK : Hid (∀ w1, Below W0.heap.size W0 w1 → w1.heap[bx]? = some (.cells #[.slice (some ⟨kb, 0, none⟩) n n, .slice (some ⟨ib, 0, none⟩) n n] 32) ∧ w1.heap[bx + 1]? = some (.cells #[.int .u8 kind, .int .u32 (id : Int), .int .u64 key] 42) ∧ w1.heap[bx + 1 + 1]? = some (.cells #[.int .u32 0, .int .u64 0, .bool false, .int .i64 0, .int .i64 0, .slice none 0 0] 44) ∧ bx + 1 + 1 < w1.heap.size) := fun w1 hF => by
    rw [← hbx]
    refine ⟨(hF.block _ (by omega)).trans k0, (hF.block _ (by omega)).trans k1, (hF.block _ (by omega)).trans k2, by have := hF.size; omega⟩
  have HW0 : Hid (((w.alloc (.cells #[.slice (some ⟨kb, 0, none⟩) n n, .slice (some ⟨ib, 0, none⟩) n n] 32)).alloc (.cells #[.int .u8 kind, .int .u32 (id : Int), .int .u64 key] 42)).alloc (.cells #[.int .u32 0, .int .u64 0, .bool false, .int .i64 0, .int .i64 0, .slice none 0 0] 44) = W0) := hW0
  have HBE : Hid (w.heap.size = bx) := hbx
  have n1 : kb ≠ ib := h.ne
  have n2 : ib ≠ kb := Ne.symm n1
  have n3 : kb ≠ bx := by omega
  have n4 : bx ≠ kb := by omega
  have n5 : ib ≠ bx := by omega
  have n6 : bx ≠ ib := by omega
  have n7 : kb ≠ bx + 1 := by omega
  have n8 : bx + 1 ≠ kb := by omega
  have n9 : ib ≠ bx + 1 := by omega
  have n10 : bx + 1 ≠ ib := by omega
  have n11 : kb ≠ bx + 1 + 1 := by omega
  have n12 : bx + 1 + 1 ≠ kb := by omega
  have n13 : ib ≠ bx + 1 + 1 := by omega
  have n14 : bx + 1 + 1 ≠ ib := by omega
  have i0 : (0 : Int) ≤ (id : Int) := by omega
  have i1 : (id : Int) ≤ 4294967295 := by omega
  have i2 : (0 : Int) ≤ (n : Int) := by omega
  have i3 : (n : Int) ≤ 65536 := by omega
  have hB0s := hB0.size
  have m1 : kb < W0.heap.size := by omega
  have m2 : ib < W0.heap.size := by omega
  subst hk
  have j0 : (id : Int) < (n : Int) := by omega
  obtain ⟨e0, e1⟩ := HR0.out.rm.icell hb
  obtain ⟨s0, s1, s2, s3⟩ := HK.out W0 (Below.refl _ _)
  obtain ⟨x0, x1⟩ := pair_cells s0
  obtain ⟨x2, x3, x4⟩ := three_cells s1
  obtain ⟨⟨y0, y1, y2, y3, y4, y5⟩, ⟨v0, v1, v2, v3, v4, v5⟩⟩ := six_cells s2
  have hs0 : bx < W0.heap.size := by omega
  have hs1 : bx + 1 < W0.heap.size := by omega
  clear h hW0 k0 k1 k2 ks hB0 hbx l1 l2 s0 s1 s2 hB0s
  go_enter Tryd.func12, Tryd.ntmps12
  go_upto_region 1 with fail
  rw [HW0.out, HBE.out]
  go_wp2
  refine bodyPost_ret (v := .agg #[.int .u32 0, .int .u64 0, .bool true, .int .i64 0, .int .i64 0, .slice none 0 0]) (by simp [results, Tryd.results12, go_sem, y0, y1, y2, y3, y4, y5]) rfl ⟨rfl, ?_⟩
  repeat first
    | with_reducible refine RS.res HC.out ?_
    | with_reducible refine RS.drewN ?_
    | with_reducible refine RS.drew ?_
    | with_reducible refine RS.putI ?_
    | with_reducible refine RS.putK ?_
  exact HR0.out

set_option maxRecDepth 100000 in
set_option maxHeartbeats 2000000 in
theorem ref_key_far (kind key : Int) (id : Nat) (hid : id ≤ 4294967295) (hn : n ≤ 65536) (h : RM w kb ib n ls bs) (hk : kind = 6) (hd : n ≤ id) :
    Calls Tryd.prog 12 #[.agg #[.slice (some ⟨kb, 0, none⟩) n n, .slice (some ⟨ib, 0, none⟩) n n], .agg #[.int .u8 kind, .int .u32 (id : Int), .int .u64 key]] w fun e w' => e = .returned (.agg #[.int .u32 0, .int .u64 0, .bool false, .int .i64 0, .int .i64 0, .slice none 0 0]) ∧ RS kb ib n w (ls) (bs) w' := by
  obtain ⟨W0, hW0⟩ : ∃ W0, ((w.alloc (.cells #[.slice (some ⟨kb, 0, none⟩) n n, .slice (some ⟨ib, 0, none⟩) n n] 32)).alloc (.cells #[.int .u8 kind, .int .u32 (id : Int), .int .u64 key] 42)).alloc (.cells #[.int .u32 0, .int .u64 0, .bool false, .int .i64 0, .int .i64 0, .slice none 0 0] 44) = W0 := ⟨_, rfl⟩
  obtain ⟨k0, k1, k2, ks, hB0⟩ := three_new w (.cells #[.slice (some ⟨kb, 0, none⟩) n n, .slice (some ⟨ib, 0, none⟩) n n] 32) (.cells #[.int .u8 kind, .int .u32 (id : Int), .int .u64 key] 42) (.cells #[.int .u32 0, .int .u64 0, .bool false, .int .i64 0, .int .i64 0, .slice none 0 0] 44)
  rw [hW0] at k0 k1 k2 ks hB0
  obtain ⟨bx, hbx⟩ : ∃ bx, w.heap.size = bx := ⟨_, rfl⟩
  have l1 : kb < w.heap.size := lt_of_get h.krow
  have l2 : ib < w.heap.size := lt_of_get h.irow
  have hll := h.ll
  have hil := h.il
  have HR0 : Hid (RS kb ib n w ls bs W0) := (RS.refl h).below hB0
  have HC : Hid (w.heap.size ≤ bx + 1 + 1 ∧ kb ≠ bx + 1 + 1 ∧ ib ≠ bx + 1 + 1) := by exact ⟨by omega, by omega, by omega⟩
  have HK : Hid (∀ w1, Below W0.heap.size W0 w1 → w1.heap[bx]? = some (.cells #[.slice (some ⟨kb, 0, none⟩) n n, .slice (some ⟨ib, 0, none⟩) n n] 32) ∧ w1.heap[bx + 1]? = some (.cells #[.int .u8 kind, .int .u32 (id : Int), .int .u64 key] 42) ∧ w1.heap[bx + 1 + 1]? = some (.cells #[.int .u32 0, .int .u64 0, .bool false, .int .i64 0, .int .i64 0, .slice none 0 0] 44) ∧ bx + 1 + 1 < w1.heap.size) := fun w1 hF => by
    rw [← hbx]
    refine ⟨(hF.block _ (by omega)).trans k0, (hF.block _ (by omega)).trans k1, (hF.block _ (by omega)).trans k2, by have := hF.size; omega⟩
  have HW0 : Hid (((w.alloc (.cells #[.slice (some ⟨kb, 0, none⟩) n n, .slice (some ⟨ib, 0, none⟩) n n] 32)).alloc (.cells #[.int .u8 kind, .int .u32 (id : Int), .int .u64 key] 42)).alloc (.cells #[.int .u32 0, .int .u64 0, .bool false, .int .i64 0, .int .i64 0, .slice none 0 0] 44) = W0) := hW0
  have HBE : Hid (w.heap.size = bx) := hbx
  have n1 : kb ≠ ib := h.ne
  have n2 : ib ≠ kb := Ne.symm n1
  have n3 : kb ≠ bx := by omega
  have n4 : bx ≠ kb := by omega
  have n5 : ib ≠ bx := by omega
  have n6 : bx ≠ ib := by omega
  have n7 : kb ≠ bx + 1 := by omega
  have n8 : bx + 1 ≠ kb := by omega
  have n9 : ib ≠ bx + 1 := by omega
  have n10 : bx + 1 ≠ ib := by omega
  have n11 : kb ≠ bx + 1 + 1 := by omega
  have n12 : bx + 1 + 1 ≠ kb := by omega
  have n13 : ib ≠ bx + 1 + 1 := by omega
  have n14 : bx + 1 + 1 ≠ ib := by omega
  have i0 : (0 : Int) ≤ (id : Int) := by omega
  have i1 : (id : Int) ≤ 4294967295 := by omega
  have i2 : (0 : Int) ≤ (n : Int) := by omega
  have i3 : (n : Int) ≤ 65536 := by omega
  have hB0s := hB0.size
  have m1 : kb < W0.heap.size := by omega
  have m2 : ib < W0.heap.size := by omega
  subst hk
  have j0 : ¬ (id : Int) < (n : Int) := by omega
  obtain ⟨s0, s1, s2, s3⟩ := HK.out W0 (Below.refl _ _)
  obtain ⟨x0, x1⟩ := pair_cells s0
  obtain ⟨x2, x3, x4⟩ := three_cells s1
  obtain ⟨⟨y0, y1, y2, y3, y4, y5⟩, ⟨v0, v1, v2, v3, v4, v5⟩⟩ := six_cells s2
  have hs0 : bx < W0.heap.size := by omega
  have hs1 : bx + 1 < W0.heap.size := by omega
  clear h hW0 k0 k1 k2 ks hB0 hbx l1 l2 s0 s1 s2 hB0s
  go_enter Tryd.func12, Tryd.ntmps12
  go_upto_region 1 with fail
  rw [HW0.out, HBE.out]
  go_wp2
  refine bodyPost_ret (v := .agg #[.int .u32 0, .int .u64 0, .bool false, .int .i64 0, .int .i64 0, .slice none 0 0]) (by simp [results, Tryd.results12, go_sem, y0, y1, y2, y3, y4, y5]) rfl ⟨rfl, ?_⟩
  repeat first
    | with_reducible refine RS.res HC.out ?_
    | with_reducible refine RS.drewN ?_
    | with_reducible refine RS.drew ?_
    | with_reducible refine RS.putI ?_
    | with_reducible refine RS.putK ?_
  exact HR0.out

set_option maxRecDepth 100000 in
set_option maxHeartbeats 2000000 in
theorem ref_key_out (kind key : Int) (id : Nat) (hid : id ≤ 4294967295) (hn : n ≤ 65536) (h : RM w kb ib n ls bs) (hk : kind = 6) (hd : id < n) (hb : bs[id]? = some false) :
    Calls Tryd.prog 12 #[.agg #[.slice (some ⟨kb, 0, none⟩) n n, .slice (some ⟨ib, 0, none⟩) n n], .agg #[.int .u8 kind, .int .u32 (id : Int), .int .u64 key]] w fun e w' => e = .returned (.agg #[.int .u32 0, .int .u64 0, .bool false, .int .i64 0, .int .i64 0, .slice none 0 0]) ∧ RS kb ib n w (ls) (bs) w' := by
  obtain ⟨W0, hW0⟩ : ∃ W0, ((w.alloc (.cells #[.slice (some ⟨kb, 0, none⟩) n n, .slice (some ⟨ib, 0, none⟩) n n] 32)).alloc (.cells #[.int .u8 kind, .int .u32 (id : Int), .int .u64 key] 42)).alloc (.cells #[.int .u32 0, .int .u64 0, .bool false, .int .i64 0, .int .i64 0, .slice none 0 0] 44) = W0 := ⟨_, rfl⟩
  obtain ⟨k0, k1, k2, ks, hB0⟩ := three_new w (.cells #[.slice (some ⟨kb, 0, none⟩) n n, .slice (some ⟨ib, 0, none⟩) n n] 32) (.cells #[.int .u8 kind, .int .u32 (id : Int), .int .u64 key] 42) (.cells #[.int .u32 0, .int .u64 0, .bool false, .int .i64 0, .int .i64 0, .slice none 0 0] 44)
  rw [hW0] at k0 k1 k2 ks hB0
  obtain ⟨bx, hbx⟩ : ∃ bx, w.heap.size = bx := ⟨_, rfl⟩
  have l1 : kb < w.heap.size := lt_of_get h.krow
  have l2 : ib < w.heap.size := lt_of_get h.irow
  have hll := h.ll
  have hil := h.il
  have HR0 : Hid (RS kb ib n w ls bs W0) := (RS.refl h).below hB0
  have HC : Hid (w.heap.size ≤ bx + 1 + 1 ∧ kb ≠ bx + 1 + 1 ∧ ib ≠ bx + 1 + 1) := by exact ⟨by omega, by omega, by omega⟩
  have HK : Hid (∀ w1, Below W0.heap.size W0 w1 → w1.heap[bx]? = some (.cells #[.slice (some ⟨kb, 0, none⟩) n n, .slice (some ⟨ib, 0, none⟩) n n] 32) ∧ w1.heap[bx + 1]? = some (.cells #[.int .u8 kind, .int .u32 (id : Int), .int .u64 key] 42) ∧ w1.heap[bx + 1 + 1]? = some (.cells #[.int .u32 0, .int .u64 0, .bool false, .int .i64 0, .int .i64 0, .slice none 0 0] 44) ∧ bx + 1 + 1 < w1.heap.size) := fun w1 hF => by
    rw [← hbx]
    refine ⟨(hF.block _ (by omega)).trans k0, (hF.block _ (by omega)).trans k1, (hF.block _ (by omega)).trans k2, by have := hF.size; omega⟩
  have HW0 : Hid (((w.alloc (.cells #[.slice (some ⟨kb, 0, none⟩) n n, .slice (some ⟨ib, 0, none⟩) n n] 32)).alloc (.cells #[.int .u8 kind, .int .u32 (id : Int), .int .u64 key] 42)).alloc (.cells #[.int .u32 0, .int .u64 0, .bool false, .int .i64 0, .int .i64 0, .slice none 0 0] 44) = W0) := hW0
  have HBE : Hid (w.heap.size = bx) := hbx
  have n1 : kb ≠ ib := h.ne
  have n2 : ib ≠ kb := Ne.symm n1
  have n3 : kb ≠ bx := by omega
  have n4 : bx ≠ kb := by omega
  have n5 : ib ≠ bx := by omega
  have n6 : bx ≠ ib := by omega
  have n7 : kb ≠ bx + 1 := by omega
  have n8 : bx + 1 ≠ kb := by omega
  have n9 : ib ≠ bx + 1 := by omega
  have n10 : bx + 1 ≠ ib := by omega
  have n11 : kb ≠ bx + 1 + 1 := by omega
  have n12 : bx + 1 + 1 ≠ kb := by omega
  have n13 : ib ≠ bx + 1 + 1 := by omega
  have n14 : bx + 1 + 1 ≠ ib := by omega
  have i0 : (0 : Int) ≤ (id : Int) := by omega
  have i1 : (id : Int) ≤ 4294967295 := by omega
  have i2 : (0 : Int) ≤ (n : Int) := by omega
  have i3 : (n : Int) ≤ 65536 := by omega
  have hB0s := hB0.size
  have m1 : kb < W0.heap.size := by omega
  have m2 : ib < W0.heap.size := by omega
  subst hk
  have j0 : (id : Int) < (n : Int) := by omega
  obtain ⟨e0, e1⟩ := HR0.out.rm.icell hb
  obtain ⟨s0, s1, s2, s3⟩ := HK.out W0 (Below.refl _ _)
  obtain ⟨x0, x1⟩ := pair_cells s0
  obtain ⟨x2, x3, x4⟩ := three_cells s1
  obtain ⟨⟨y0, y1, y2, y3, y4, y5⟩, ⟨v0, v1, v2, v3, v4, v5⟩⟩ := six_cells s2
  have hs0 : bx < W0.heap.size := by omega
  have hs1 : bx + 1 < W0.heap.size := by omega
  clear h hW0 k0 k1 k2 ks hB0 hbx l1 l2 s0 s1 s2 hB0s
  go_enter Tryd.func12, Tryd.ntmps12
  go_upto_region 1 with fail
  rw [HW0.out, HBE.out]
  go_wp2
  refine bodyPost_ret (v := .agg #[.int .u32 0, .int .u64 0, .bool false, .int .i64 0, .int .i64 0, .slice none 0 0]) (by simp [results, Tryd.results12, go_sem, y0, y1, y2, y3, y4, y5]) rfl ⟨rfl, ?_⟩
  repeat first
    | with_reducible refine RS.res HC.out ?_
    | with_reducible refine RS.drewN ?_
    | with_reducible refine RS.drew ?_
    | with_reducible refine RS.putI ?_
    | with_reducible refine RS.putK ?_
  exact HR0.out

set_option maxRecDepth 100000 in
set_option maxHeartbeats 2000000 in
theorem ref_key_in (kind key : Int) (id : Nat) (hid : id ≤ 4294967295) (k : Int) (hn : n ≤ 65536) (h : RM w kb ib n ls bs) (hk : kind = 6) (hd : id < n) (hb : bs[id]? = some true) (hl : ls[id]? = some k) :
    Calls Tryd.prog 12 #[.agg #[.slice (some ⟨kb, 0, none⟩) n n, .slice (some ⟨ib, 0, none⟩) n n], .agg #[.int .u8 kind, .int .u32 (id : Int), .int .u64 key]] w fun e w' => e = .returned (.agg #[.int .u32 0, .int .u64 k, .bool true, .int .i64 0, .int .i64 0, .slice none 0 0]) ∧ RS kb ib n w (ls) (bs) w' := by
  obtain ⟨W0, hW0⟩ : ∃ W0, ((w.alloc (.cells #[.slice (some ⟨kb, 0, none⟩) n n, .slice (some ⟨ib, 0, none⟩) n n] 32)).alloc (.cells #[.int .u8 kind, .int .u32 (id : Int), .int .u64 key] 42)).alloc (.cells #[.int .u32 0, .int .u64 0, .bool false, .int .i64 0, .int .i64 0, .slice none 0 0] 44) = W0 := ⟨_, rfl⟩
  obtain ⟨k0, k1, k2, ks, hB0⟩ := three_new w (.cells #[.slice (some ⟨kb, 0, none⟩) n n, .slice (some ⟨ib, 0, none⟩) n n] 32) (.cells #[.int .u8 kind, .int .u32 (id : Int), .int .u64 key] 42) (.cells #[.int .u32 0, .int .u64 0, .bool false, .int .i64 0, .int .i64 0, .slice none 0 0] 44)
  rw [hW0] at k0 k1 k2 ks hB0
  obtain ⟨bx, hbx⟩ : ∃ bx, w.heap.size = bx := ⟨_, rfl⟩
  have l1 : kb < w.heap.size := lt_of_get h.krow
  have l2 : ib < w.heap.size := lt_of_get h.irow
  have hll := h.ll
  have hil := h.il
  have HR0 : Hid (RS kb ib n w ls bs W0) := (RS.refl h).below hB0
  have HC : Hid (w.heap.size ≤ bx + 1 + 1 ∧ kb ≠ bx + 1 + 1 ∧ ib ≠ bx + 1 + 1) := by exact ⟨by omega, by omega, by omega⟩
  have HK : Hid (∀ w1, Below W0.heap.size W0 w1 → w1.heap[bx]? = some (.cells #[.slice (some ⟨kb, 0, none⟩) n n, .slice (some ⟨ib, 0, none⟩) n n] 32) ∧ w1.heap[bx + 1]? = some (.cells #[.int .u8 kind, .int .u32 (id : Int), .int .u64 key] 42) ∧ w1.heap[bx + 1 + 1]? = some (.cells #[.int .u32 0, .int .u64 0, .bool false, .int .i64 0, .int .i64 0, .slice none 0 0] 44) ∧ bx + 1 + 1 < w1.heap.size) := fun w1 hF => by
    rw [← hbx]
    refine ⟨(hF.block _ (by omega)).trans k0, (hF.block _ (by omega)).trans k1, (hF.block _ (by omega)).trans k2, by have := hF.size; omega⟩
  have HW0 : Hid (((w.alloc (.cells #[.slice (some ⟨kb, 0, none⟩) n n, .slice (some ⟨ib, 0, none⟩) n n] 32)).alloc (.cells #[.int .u8 kind, .int .u32 (id : Int), .int .u64 key] 42)).alloc (.cells #[.int .u32 0, .int .u64 0, .bool false, .int .i64 0, .int .i64 0, .slice none 0 0] 44) = W0) := hW0
  have HBE : Hid (w.heap.size = bx) := hbx
  have n1 : kb ≠ ib := h.ne
  have n2 : ib ≠ kb := Ne.symm n1
  have n3 : kb ≠ bx := by omega
  have n4 : bx ≠ kb := by omega
  have n5 : ib ≠ bx := by omega
  have n6 : bx ≠ ib := by omega
  have n7 : kb ≠ bx + 1 := by omega
  have n8 : bx + 1 ≠ kb := by omega
  have n9 : ib ≠ bx + 1 := by omega
  have n10 : bx + 1 ≠ ib := by omega
  have n11 : kb ≠ bx + 1 + 1 := by omega
  have n12 : bx + 1 + 1 ≠ kb := by omega
  have n13 : ib ≠ bx + 1 + 1 := by omega
  have n14 : bx + 1 + 1 ≠ ib := by omega
  have i0 : (0 : Int) ≤ (id : Int) := by omega
  have i1 : (id : Int) ≤ 4294967295 := by omega
  have i2 : (0 : Int) ≤ (n : Int) := by omega
  have i3 : (n : Int) ≤ 65536 := by omega
  have hB0s := hB0.size
  have m1 : kb < W0.heap.size := by omega
  have m2 : ib < W0.heap.size := by omega
  subst hk
  have j0 : (id : Int) < (n : Int) := by omega
  obtain ⟨e0, e1⟩ := HR0.out.rm.icell hb
  obtain ⟨e2, e3⟩ := HR0.out.rm.kcell hl
  obtain ⟨s0, s1, s2, s3⟩ := HK.out W0 (Below.refl _ _)
  obtain ⟨x0, x1⟩ := pair_cells s0
  obtain ⟨x2, x3, x4⟩ := three_cells s1
  obtain ⟨⟨y0, y1, y2, y3, y4, y5⟩, ⟨v0, v1, v2, v3, v4, v5⟩⟩ := six_cells s2
  have hs0 : bx < W0.heap.size := by omega
  have hs1 : bx + 1 < W0.heap.size := by omega
  clear h hW0 k0 k1 k2 ks hB0 hbx l1 l2 s0 s1 s2 hB0s
  go_enter Tryd.func12, Tryd.ntmps12
  go_upto_region 1 with fail
  rw [HW0.out, HBE.out]
  go_wp2
  refine bodyPost_ret (v := .agg #[.int .u32 0, .int .u64 k, .bool true, .int .i64 0, .int .i64 0, .slice none 0 0]) (by simp [results, Tryd.results12, go_sem, y0, y1, y2, y3, y4, y5]) rfl ⟨rfl, ?_⟩
  repeat first
    | with_reducible refine RS.res HC.out ?_
    | with_reducible refine RS.drewN ?_
    | with_reducible refine RS.drew ?_
    | with_reducible refine RS.putI ?_
    | with_reducible refine RS.putK ?_
  exact HR0.out

set_option maxRecDepth 100000 in
set_option maxHeartbeats 2000000 in
theorem ref_len (kind key : Int) (id : Nat) (hid : id ≤ 4294967295) (hn : n ≤ 65536) (h : RM w kb ib n ls bs) (hk : kind = 7) :
    Calls Tryd.prog 12 #[.agg #[.slice (some ⟨kb, 0, none⟩) n n, .slice (some ⟨ib, 0, none⟩) n n], .agg #[.int .u8 kind, .int .u32 (id : Int), .int .u64 key]] w fun e w' => e = .returned (.agg #[.int .u32 0, .int .u64 0, .bool false, .int .i64 (cnt bs : Nat), .int .i64 0, .slice none 0 0]) ∧ RS kb ib n w (ls) (bs) w' := by
  obtain ⟨W0, hW0⟩ : ∃ W0, ((w.alloc (.cells #[.slice (some ⟨kb, 0, none⟩) n n, .slice (some ⟨ib, 0, none⟩) n n] 32)).alloc (.cells #[.int .u8 kind, .int .u32 (id : Int), .int .u64 key] 42)).alloc (.cells #[.int .u32 0, .int .u64 0, .bool false, .int .i64 0, .int .i64 0, .slice none 0 0] 44) = W0 := ⟨_, rfl⟩
  obtain ⟨k0, k1, k2, ks, hB0⟩ := three_new w (.cells #[.slice (some ⟨kb, 0, none⟩) n n, .slice (some ⟨ib, 0, none⟩) n n] 32) (.cells #[.int .u8 kind, .int .u32 (id : Int), .int .u64 key] 42) (.cells #[.int .u32 0, .int .u64 0, .bool false, .int .i64 0, .int .i64 0, .slice none 0 0] 44)
  rw [hW0] at k0 k1 k2 ks hB0
  obtain ⟨bx, hbx⟩ : ∃ bx, w.heap.size = bx := ⟨_, rfl⟩
  have l1 : kb < w.heap.size := lt_of_get h.krow
  have l2 : ib < w.heap.size := lt_of_get h.irow
  have hll := h.ll
  have hil := h.il
  have HR0 : Hid (RS kb ib n w ls bs W0) := (RS.refl h).below hB0
  have HC : Hid (w.heap.size ≤ bx + 1 + 1 ∧ kb ≠ bx + 1 + 1 ∧ ib ≠ bx + 1 + 1) := by exact ⟨by omega, by omega, by omega⟩
  have HK : Hid (∀ w1, Below W0.heap.size W0 w1 → w1.heap[bx]? = some (.cells #[.slice (some ⟨kb, 0, none⟩) n n, .slice (some ⟨ib, 0, none⟩) n n] 32) ∧ w1.heap[bx + 1]? = some (.cells #[.int .u8 kind, .int .u32 (id : Int), .int .u64 key] 42) ∧ w1.heap[bx + 1 + 1]? = some (.cells #[.int .u32 0, .int .u64 0, .bool false, .int .i64 0, .int .i64 0, .slice none 0 0] 44) ∧ bx + 1 + 1 < w1.heap.size) := fun w1 hF => by
    rw [← hbx]
    refine ⟨(hF.block _ (by omega)).trans k0, (hF.block _ (by omega)).trans k1, (hF.block _ (by omega)).trans k2, by have := hF.size; omega⟩
  have HW0 : Hid (((w.alloc (.cells #[.slice (some ⟨kb, 0, none⟩) n n, .slice (some ⟨ib, 0, none⟩) n n] 32)).alloc (.cells #[.int .u8 kind, .int .u32 (id : Int), .int .u64 key] 42)).alloc (.cells #[.int .u32 0, .int .u64 0, .bool false, .int .i64 0, .int .i64 0, .slice none 0 0] 44) = W0) := hW0
  have HBE : Hid (w.heap.size = bx) := hbx
  have n1 : kb ≠ ib := h.ne
  have n2 : ib ≠ kb := Ne.symm n1
  have n3 : kb ≠ bx := by omega
  have n4 : bx ≠ kb := by omega
  have n5 : ib ≠ bx := by omega
  have n6 : bx ≠ ib := by omega
  have n7 : kb ≠ bx + 1 := by omega
  have n8 : bx + 1 ≠ kb := by omega
  have n9 : ib ≠ bx + 1 := by omega
  have n10 : bx + 1 ≠ ib := by omega
  have n11 : kb ≠ bx + 1 + 1 := by omega
  have n12 : bx + 1 + 1 ≠ kb := by omega
  have n13 : ib ≠ bx + 1 + 1 := by omega
  have n14 : bx + 1 + 1 ≠ ib := by omega
  have i0 : (0 : Int) ≤ (id : Int) := by omega
  have i1 : (id : Int) ≤ 4294967295 := by omega
  have i2 : (0 : Int) ≤ (n : Int) := by omega
  have i3 : (n : Int) ≤ 65536 := by omega
  have hB0s := hB0.size
  have m1 : kb < W0.heap.size := by omega
  have m2 : ib < W0.heap.size := by omega
  subst hk
  have j0 : (id : Int) < (n : Int) ∨ ¬ (id : Int) < (n : Int) := Classical.em _
  have HLR : Hid (∀ wx, Below W0.heap.size W0 wx → Calls Tryd.prog 25 #[.agg #[.slice (some ⟨kb, 0, none⟩) n n, .slice (some ⟨ib, 0, none⟩) n n]] wx fun e w' => e = .returned (.int .i64 (cnt bs : Nat)) ∧ Below wx.heap.size wx w') := fun wx hb => count_ref (HR0.out.rm.below hb) hn
  obtain ⟨s0, s1, s2, s3⟩ := HK.out W0 (Below.refl _ _)
  obtain ⟨x0, x1⟩ := pair_cells s0
  obtain ⟨x2, x3, x4⟩ := three_cells s1
  obtain ⟨⟨y0, y1, y2, y3, y4, y5⟩, ⟨v0, v1, v2, v3, v4, v5⟩⟩ := six_cells s2
  have hs0 : bx < W0.heap.size := by omega
  have hs1 : bx + 1 < W0.heap.size := by omega
  rcases j0 with j0 | j0
  all_goals
    clear h hW0 k0 k1 k2 ks hB0 hbx l1 l2 s0 s1 s2 hB0s
    go_enter Tryd.func12, Tryd.ntmps12
    go_upto_region 1 with fail
    rw [HW0.out, HBE.out]
    go_wp2_with fail
    refine (HLR.out _ (Below.refl _ _)).mono ?_
    rintro e w1 ⟨rfl, hb1⟩
    have HR1 : Hid (RS kb ib n w ls bs w1) := HR0.out.below hb1
    clear x0 x1 x2 x3 x4 y0 y1 y2 y3 y4 y5 v0 v1 v2 v3 v4 v5 hs0 hs1 s3
    obtain ⟨s0, s1, s2, s3⟩ := HK.out w1 hb1
    obtain ⟨x0, x1⟩ := pair_cells s0
    obtain ⟨x2, x3, x4⟩ := three_cells s1
    obtain ⟨⟨y0, y1, y2, y3, y4, y5⟩, ⟨v0, v1, v2, v3, v4, v5⟩⟩ := six_cells s2
    have hs0 : bx < w1.heap.size := by omega
    have hs1 : bx + 1 < w1.heap.size := by omega
    have hs2 : kb < w1.heap.size := lt_of_get HR1.out.rm.krow
    have hs3 : ib < w1.heap.size := lt_of_get HR1.out.rm.irow
    clear hb1 s0 s1 s2
    go_wp2
    refine bodyPost_ret (v := .agg #[.int .u32 0, .int .u64 0, .bool false, .int .i64 (cnt bs : Nat), .int .i64 0, .slice none 0 0]) (by simp [results, Tryd.results12, go_sem, y0, y1, y2, y3, y4, y5]) rfl ⟨rfl, ?_⟩
    repeat first
      | with_reducible refine RS.res HC.out ?_
      | with_reducible refine RS.drewN ?_
      | with_reducible refine RS.drew ?_
      | with_reducible refine RS.putI ?_
      | with_reducible refine RS.putK ?_
    exact HR1.out

set_option maxRecDepth 100000 in
set_option maxHeartbeats 2000000 in
theorem ref_other (kind key : Int) (id : Nat) (hid : id ≤ 4294967295) (hn : n ≤ 65536) (h : RM w kb ib n ls bs) (hk : kind < 1 ∨ 8 < kind) :
    Calls Tryd.prog 12 #[.agg #[.slice (some ⟨kb, 0, none⟩) n n, .slice (some ⟨ib, 0, none⟩) n n], .agg #[.int .u8 kind, .int .u32 (id : Int), .int .u64 key]] w fun e w' => e = .returned (.agg #[.int .u32 0, .int .u64 0, .bool false, .int .i64 0, .int .i64 0, .slice none 0 0]) ∧ RS kb ib n w (ls) (bs) w' := by
  obtain ⟨W0, hW0⟩ : ∃ W0, ((w.alloc (.cells #[.slice (some ⟨kb, 0, none⟩) n n, .slice (some ⟨ib, 0, none⟩) n n] 32)).alloc (.cells #[.int .u8 kind, .int .u32 (id : Int), .int .u64 key] 42)).alloc (.cells #[.int .u32 0, .int .u64 0, .bool false, .int .i64 0, .int .i64 0, .slice none 0 0] 44) = W0 := ⟨_, rfl⟩
  obtain ⟨k0, k1, k2, ks, hB0⟩ := three_new w (.cells #[.slice (some ⟨kb, 0, none⟩) n n, .slice (some ⟨ib, 0, none⟩) n n] 32) (.cells #[.int .u8 kind, .int .u32 (id : Int), .int .u64 key] 42) (.cells #[.int .u32 0, .int .u64 0, .bool false, .int .i64 0, .int .i64 0, .slice none 0 0] 44)
  rw [hW0] at k0 k1 k2 ks hB0
  obtain ⟨bx, hbx⟩ : ∃ bx, w.heap.size = bx := ⟨_, rfl⟩
  have l1 : kb < w.heap.size := lt_of_get h.krow
  have l2 : ib < w.heap.size := lt_of_get h.irow
  have hll := h.ll
  have hil := h.il
  have HR0 : Hid (RS kb ib n w ls bs W0) := (RS.refl h).below hB0
  have HC : Hid (w.heap.size ≤ bx + 1 + 1 ∧ kb ≠ bx + 1 + 1 ∧ ib ≠ bx + 1 + 1) := by exact ⟨by omega, by omega, by omega⟩
  have HK : Hid (∀ w1, Below W0.heap.size W0 w1 → w1.heap[bx]? = some (.cells #[.slice (some ⟨kb, 0, none⟩) n n, .slice (some ⟨ib, 0, none⟩) n n] 32) ∧ w1.heap[bx + 1]? = some (.cells #[.int .u8 kind, .int .u32 (id : Int), .int .u64 key] 42) ∧ w1.heap[bx + 1 + 1]? = some (.cells #[.int .u32 0, .int .u64 0, .bool false, .int .i64 0, .int .i64 0, .slice none 0 0] 44) ∧ bx + 1 + 1 < w1.heap.size) := fun w1 hF => by
    rw [← hbx]
    refine ⟨(hF.block _ (by omega)).trans k0, (hF.block _ (by omega)).trans k1, (hF.block _ (by omega)).trans k2, by have := hF.size; omega⟩
  have HW0 : Hid (((w.alloc (.cells #[.slice (some ⟨kb, 0, none⟩) n n, .slice (some ⟨ib, 0, none⟩) n n] 32)).alloc (.cells #[.int .u8 kind, .int .u32 (id : Int), .int .u64 key] 42)).alloc (.cells #[.int .u32 0, .int .u64 0, .bool false, .int .i64 0, .int .i64 0, .slice none 0 0] 44) = W0) := hW0
  have HBE : Hid (w.heap.size = bx) := hbx
  have n1 : kb ≠ ib := h.ne
  have n2 : ib ≠ kb := Ne.symm n1
  have n3 : kb ≠ bx := by omega
  have n4 : bx ≠ kb := by omega
  have n5 : ib ≠ bx := by omega
  have n6 : bx ≠ ib := by omega
  have n7 : kb ≠ bx + 1 := by omega
  have n8 : bx + 1 ≠ kb := by omega
  have n9 : ib ≠ bx + 1 := by omega
  have n10 : bx + 1 ≠ ib := by omega
  have n11 : kb ≠ bx + 1 + 1 := by omega
  have n12 : bx + 1 + 1 ≠ kb := by omega
  have n13 : ib ≠ bx + 1 + 1 := by omega
  have n14 : bx + 1 + 1 ≠ ib := by omega
  have i0 : (0 : Int) ≤ (id : Int) := by omega
  have i1 : (id : Int) ≤ 4294967295 := by omega
  have i2 : (0 : Int) ≤ (n : Int) := by omega
  have i3 : (n : Int) ≤ 65536 := by omega
  have hB0s := hB0.size
  have m1 : kb < W0.heap.size := by omega
  have m2 : ib < W0.heap.size := by omega
  have t1 : (kind == 1) = false := by
    have : kind ≠ 1 := by omega
    simpa using this
  have t2 : (kind == 2) = false := by
    have : kind ≠ 2 := by omega
    simpa using this
  have t3 : (kind == 3) = false := by
    have : kind ≠ 3 := by omega
    simpa using this
  have t4 : (kind == 4) = false := by
    have : kind ≠ 4 := by omega
    simpa using this
  have t5 : (kind == 5) = false := by
    have : kind ≠ 5 := by omega
    simpa using this
  have t6 : (kind == 6) = false := by
    have : kind ≠ 6 := by omega
    simpa using this
  have t7 : (kind == 7) = false := by
    have : kind ≠ 7 := by omega
    simpa using this
  have t8 : (kind == 8) = false := by
    have : kind ≠ 8 := by omega
    simpa using this
  have j0 : (id : Int) < (n : Int) ∨ ¬ (id : Int) < (n : Int) := Classical.em _
  obtain ⟨s0, s1, s2, s3⟩ := HK.out W0 (Below.refl _ _)
  obtain ⟨x0, x1⟩ := pair_cells s0
  obtain ⟨x2, x3, x4⟩ := three_cells s1
  obtain ⟨⟨y0, y1, y2, y3, y4, y5⟩, ⟨v0, v1, v2, v3, v4, v5⟩⟩ := six_cells s2
  have hs0 : bx < W0.heap.size := by omega
  have hs1 : bx + 1 < W0.heap.size := by omega
  clear hk
  rcases j0 with j0 | j0
  all_goals
    clear h hW0 k0 k1 k2 ks hB0 hbx l1 l2 s0 s1 s2 hB0s
    go_enter Tryd.func12, Tryd.ntmps12
    go_upto_region 1 with fail
    rw [HW0.out, HBE.out]
    go_wp2
    refine bodyPost_ret (v := .agg #[.int .u32 0, .int .u64 0, .bool false, .int .i64 0, .int .i64 0, .slice none 0 0]) (by simp [results, Tryd.results12, go_sem, y0, y1, y2, y3, y4, y5]) rfl ⟨rfl, ?_⟩
    repeat first
      | with_reducible refine RS.res HC.out ?_
      | with_reducible refine RS.drewN ?_
      | with_reducible refine RS.drew ?_
      | with_reducible refine RS.putI ?_
      | with_reducible refine RS.putK ?_
    exact HR0.out
end
end Go.Proofs.YtkeniogcjhmikaaDoor
