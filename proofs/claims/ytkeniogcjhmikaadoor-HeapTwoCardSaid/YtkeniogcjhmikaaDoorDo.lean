/- The law's 'do': the call at the program's heap, by its kind. -/
import Derived.Test.YtkeniogcjhmikaaDoorClear
import Derived.Test.YtkeniogcjhmikaaDoorAwake
namespace Go.Proofs.YtkeniogcjhmikaaDoor
open Go.RowKit

attribute [local go_sem] Oper.semAt_some

/-- two blocks may have turned, nothing else. -/
structure Only (b1 b2 : Nat) (w w' : World) : Prop where
  os : w'.os = w.os
  tape : w'.tape = w.tape
  output : w'.output = w.output
  size : w'.heap.size = w.heap.size
  block : ∀ k, k ≠ b1 → k ≠ b2 → w'.heap[k]? = w.heap[k]?
theorem Only.refl (b1 b2 : Nat) (w : World) : Only b1 b2 w w := ⟨rfl, rfl, rfl, rfl, fun _ _ _ => rfl⟩
theorem Only.drew {b1 b2 : Nat} {w w' : World} (h : Only b1 b2 w w') : Only b1 b2 w w'.drew := ⟨h.os, h.tape, h.output, h.size, h.block⟩
theorem Only.s1 {b1 b2 o : Nat} {v : Value} {w w' : World} (h : Only b1 b2 w w') : Only b1 b2 w (w'.setCell ⟨b1, o, none⟩ v) := ⟨h.os, h.tape, h.output, by simpa using h.size, fun k h1 h2 => (heap_setCell_other _ _ _ _ h1).trans (h.block k h1 h2)⟩
theorem Only.s2 {b1 b2 o : Nat} {v : Value} {w w' : World} (h : Only b1 b2 w w') : Only b1 b2 w (w'.setCell ⟨b2, o, none⟩ v) := ⟨h.os, h.tape, h.output, by simpa using h.size, fun k h1 h2 => (heap_setCell_other _ _ _ _ h2).trans (h.block k h1 h2)⟩
/-- the heap stands beside blocks that are younger than it. -/
theorem Only.heap {b1 b2 hb wb n : Nat} {sv sv' : Value} {f f' : Int → Option Int} {w W0 w1 w2 : World} (h : IsHeap w hb wb n sv f) (hB : Below w.heap.size w W0) (h1 : w.heap.size ≤ b1 ∧ b1 < W0.heap.size) (h2 : w.heap.size ≤ b2 ∧ b2 < W0.heap.size)
    (hI : IsHeap w1 hb wb n sv' f') (hF : Fr hb wb sv sv' W0 w1) (ho : Only b1 b2 w1 w2) : ∃ sv', IsHeap w2 hb wb n sv' f' ∧ Fr hb wb sv sv' w w2 := by
  obtain ⟨l1, l2, l3⟩ := h.lt
  have hown : ∀ k, sv'.ownBlock = some k → k ≠ b1 ∧ k ≠ b2 := fun k hk => by
    rcases Nat.lt_or_ge k W0.heap.size with hlt | hge
    · have := l3 k (hF.own k hlt hk)
      omega
    · omega
  refine ⟨sv', hI.keep (fun k _ hk => ho.block k ?_ ?_), ?_⟩
  · rcases hk with rfl | rfl | hk
    · omega
    · omega
    · exact (hown k hk).1
  · rcases hk with rfl | rfl | hk
    · omega
    · omega
    · exact (hown k hk).2
  · refine ⟨(ho.os.trans hF.os).trans hB.os, (ho.tape.trans hF.tape).trans hB.tape, (ho.output.trans hF.output).trans hB.output, by have := hF.size; have := hB.size; have := ho.size; omega, fun k hk g1 g2 g3 => ?_, fun k hk e => ?_⟩
    · exact ((ho.block k (by omega) (by omega)).trans (hF.block k (by have := hB.size; omega) g1 g2 g3)).trans (hB.block k hk)
    · exact hF.own k (by have := hB.size; omega) e

theorem six_cells {w : World} {b : Nat} {c0 c1 c2 c3 c4 c5 : Value} {T : TypeId} (h : w.heap[b]? = some (.cells #[c0, c1, c2, c3, c4, c5] T)) : (w.cell? ⟨b, 0, none⟩ = some c0 ∧ w.cell? ⟨b, 1, none⟩ = some c1 ∧ w.cell? ⟨b, 2, none⟩ = some c2 ∧ w.cell? ⟨b, 3, none⟩ = some c3 ∧ w.cell? ⟨b, 4, none⟩ = some c4 ∧ w.cell? ⟨b, 5, none⟩ = some c5) ∧ (w.frozen? ⟨b, 0, none⟩ = false ∧ w.frozen? ⟨b, 1, none⟩ = false ∧ w.frozen? ⟨b, 2, none⟩ = false ∧ w.frozen? ⟨b, 3, none⟩ = false ∧ w.frozen? ⟨b, 4, none⟩ = false ∧ w.frozen? ⟨b, 5, none⟩ = false) := by
  simp [World.cell?, World.frozen?, h]
theorem three_cells {w : World} {b : Nat} {c0 c1 c2 : Value} {T : TypeId} (h : w.heap[b]? = some (.cells #[c0, c1, c2] T)) : w.cell? ⟨b, 0, none⟩ = some c0 ∧ w.cell? ⟨b, 1, none⟩ = some c1 ∧ w.cell? ⟨b, 2, none⟩ = some c2 := by
  simp [World.cell?, h]
theorem three_new (w : World) (o1 o2 o3 : Obj) : (((w.alloc o1).alloc o2).alloc o3).heap[w.heap.size]? = some o1 ∧ (((w.alloc o1).alloc o2).alloc o3).heap[w.heap.size + 1]? = some o2 ∧ (((w.alloc o1).alloc o2).alloc o3).heap[w.heap.size + 1 + 1]? = some o3 ∧ (((w.alloc o1).alloc o2).alloc o3).heap.size = w.heap.size + 3 ∧ Below w.heap.size w (((w.alloc o1).alloc o2).alloc o3) := by
  have e1 : (w.alloc o1).heap.size = w.heap.size + 1 := by simp
  have e2 : ((w.alloc o1).alloc o2).heap.size = w.heap.size + 1 + 1 := by simp
  refine ⟨?_, ?_, ?_, by simp, ((((Below.refl _ w).alloc (Nat.le_refl _) _).alloc (by simp) _).alloc (by simp; omega) _)⟩
  · rw [Below.heap_alloc _ _ _ (by simp; omega), Below.heap_alloc _ _ _ (by simp)]; exact heap_new _ _
  · rw [Below.heap_alloc _ _ _ (by simp), ← e1]; exact heap_new _ _
  · rw [← e2]; exact heap_new _ _

/-- an answer that says nothing. -/
def zeroA : Array Value := #[.int .u32 0, .int .u64 0, .bool false, .int .i64 0, .int .i64 0, .slice none 0 0]

section
variable {hb wb n : Nat} {sv : Value} {f f' : Int → Option Int} {w : World}

set_option maxRecDepth 100000 in
set_option maxHeartbeats 2000000 in
theorem do_pop (kind key : Int) (id : Nat) (a b : Int) (c : Bool) (hk : kind = 3) (h : IsHeap w hb wb n sv f) (hC : ∀ wx, IsHeap wx hb wb n sv f → Calls Tryd.prog 19 #[.pointer (some ⟨hb, 0, none⟩)] wx fun e w' => e = .returned (.tuple #[.int .u32 a, .int .u64 b, .bool c]) ∧ ∃ sv', IsHeap w' hb wb n sv' f' ∧ Fr hb wb sv sv' wx w') :
    Calls Tryd.prog 11 #[.pointer (some ⟨hb, 0, none⟩), .agg #[.int .u8 kind, .int .u32 (id : Int), .int .u64 key]] w fun e w' => e = .returned (.tuple #[.agg #[.int .u32 a, .int .u64 b, .bool c, .int .i64 0, .int .i64 0, .slice none 0 0], .nilIface]) ∧ ∃ sv', IsHeap w' hb wb n sv' f' ∧ Fr hb wb sv sv' w w' := by
  obtain ⟨W0, hW0⟩ : ∃ W0, ((w.alloc (.cells #[.int .u8 kind, .int .u32 (id : Int), .int .u64 key] 42)).alloc (.cells #[.int .u32 0, .int .u64 0, .bool false, .int .i64 0, .int .i64 0, .slice none 0 0] 44)).alloc (.cells #[.int .u32 0, .int .u64 0, .bool false, .int .i64 0, .int .i64 0, .slice none 0 0] 44) = W0 := ⟨_, rfl⟩
  obtain ⟨k0, k1, k2, ks, hB0⟩ := three_new w (.cells #[.int .u8 kind, .int .u32 (id : Int), .int .u64 key] 42) (.cells #[.int .u32 0, .int .u64 0, .bool false, .int .i64 0, .int .i64 0, .slice none 0 0] 44) (.cells #[.int .u32 0, .int .u64 0, .bool false, .int .i64 0, .int .i64 0, .slice none 0 0] 44)
  rw [hW0] at k0 k1 k2 ks hB0
  obtain ⟨bx, hbx⟩ : ∃ bx, w.heap.size = bx := ⟨_, rfl⟩
  obtain ⟨l1, l2, l3⟩ := h.lt
  have HEND : Hid (∀ w1 w2 sv', IsHeap w1 hb wb n sv' f' → Fr hb wb sv sv' W0 w1 → Only (bx + 1) (bx + 1 + 1) w1 w2 → ∃ sv', IsHeap w2 hb wb n sv' f' ∧ Fr hb wb sv sv' w w2) := fun w1 w2 sv' a b c => Only.heap h hB0 (by omega) (by omega) a b c
  have HK : Hid (∀ w1 sv', Fr hb wb sv sv' W0 w1 → w1.heap[bx]? = some (.cells #[.int .u8 kind, .int .u32 (id : Int), .int .u64 key] 42) ∧ w1.heap[bx + 1]? = some (.cells #[.int .u32 0, .int .u64 0, .bool false, .int .i64 0, .int .i64 0, .slice none 0 0] 44) ∧ w1.heap[bx + 1 + 1]? = some (.cells #[.int .u32 0, .int .u64 0, .bool false, .int .i64 0, .int .i64 0, .slice none 0 0] 44) ∧ bx + 1 + 1 < w1.heap.size) := fun w1 sv' hF => by
    have hne : ∀ k, bx ≤ k → some k ≠ sv.ownBlock := fun k hk e => by have := l3 k e.symm; omega
    rw [← hbx] at *
    refine ⟨(hF.block _ (by omega) (by omega) (by omega) (hne _ (by omega))).trans k0, (hF.block _ (by omega) (by omega) (by omega) (hne _ (by omega))).trans k1, (hF.block _ (by omega) (by omega) (by omega) (hne _ (by omega))).trans k2, by have := hF.size; omega⟩
  have HIH : Hid (IsHeap W0 hb wb n sv f) := h.below hB0
  have HW0 : Hid (((w.alloc (.cells #[.int .u8 kind, .int .u32 (id : Int), .int .u64 key] 42)).alloc (.cells #[.int .u32 0, .int .u64 0, .bool false, .int .i64 0, .int .i64 0, .slice none 0 0] 44)).alloc (.cells #[.int .u32 0, .int .u64 0, .bool false, .int .i64 0, .int .i64 0, .slice none 0 0] 44) = W0) := hW0
  have HBE : Hid (w.heap.size = bx) := hbx
  obtain ⟨q0, q1, q2⟩ := three_cells (HK.out W0 sv (Fr.refl _ _ _ _)).1
  have hq : bx + 1 + 1 < W0.heap.size := (HK.out W0 sv (Fr.refl _ _ _ _)).2.2.2
  have hq1 : bx + 1 < W0.heap.size := by omega
  have hq0 : bx < W0.heap.size := by omega
  have p0 : ¬ bx + 1 = bx + 1 + 1 := by omega
  have p1 : ¬ bx + 1 + 1 = bx + 1 := by omega
  have HC : Hid (type_of% (hC W0 HIH.out)) := hC W0 HIH.out
  subst hk
  clear h hC hW0 k0 k1 k2 ks hB0 hbx l1 l2 l3
  go_enter Tryd.func11, Tryd.ntmps11
  go_upto_region 2 with fail
  rw [HW0.out, HBE.out]
  go_wp2_with fail
  refine HC.out.mono ?_
  rintro e w1 ⟨rfl, sv', hI1, hF1⟩
  have HI1 : Hid (IsHeap w1 hb wb n sv' f' ∧ Fr hb wb sv sv' W0 w1) := ⟨hI1, hF1⟩
  clear q0 q1 q2 hq hq1 hq0
  obtain ⟨s0, s1, s2, s3⟩ := HK.out w1 sv' hF1
  obtain ⟨x0, x1, x2⟩ := three_cells s0
  obtain ⟨⟨y0, y1, y2, y3, y4, y5⟩, ⟨v0, v1, v2, v3, v4, v5⟩⟩ := six_cells s1
  obtain ⟨⟨z0, z1, z2, z3, z4, z5⟩, ⟨u0, u1, u2, u3, u4, u5⟩⟩ := six_cells s2
  have hs1 : bx + 1 < w1.heap.size := by omega
  have hs0 : bx < w1.heap.size := by omega
  clear s0 s1 s2 hI1 hF1
  go_wp2
  refine bodyPost_ret (v := .tuple #[.agg #[.int .u32 a, .int .u64 b, .bool c, .int .i64 0, .int .i64 0, .slice none 0 0], .nilIface]) (by simp [results, Tryd.results11, go_sem, y0, y1, y2, y3, y4, y5]) rfl ⟨rfl, HEND.out _ _ _ HI1.out.1 HI1.out.2 ?_⟩
  repeat first
    | with_reducible refine Only.s1 ?_
    | with_reducible refine Only.s2 ?_
    | with_reducible refine Only.drew ?_
    | with_reducible exact Only.refl _ _ _

set_option maxRecDepth 100000 in
set_option maxHeartbeats 2000000 in
theorem do_top (kind key : Int) (id : Nat) (a b : Int) (c : Bool) (hk : kind = 4) (h : IsHeap w hb wb n sv f) (hC : ∀ wx, IsHeap wx hb wb n sv f → Calls Tryd.prog 20 #[.pointer (some ⟨hb, 0, none⟩)] wx fun e w' => e = .returned (.tuple #[.int .u32 a, .int .u64 b, .bool c]) ∧ ∃ sv', IsHeap w' hb wb n sv' f' ∧ Fr hb wb sv sv' wx w') :
    Calls Tryd.prog 11 #[.pointer (some ⟨hb, 0, none⟩), .agg #[.int .u8 kind, .int .u32 (id : Int), .int .u64 key]] w fun e w' => e = .returned (.tuple #[.agg #[.int .u32 a, .int .u64 b, .bool c, .int .i64 0, .int .i64 0, .slice none 0 0], .nilIface]) ∧ ∃ sv', IsHeap w' hb wb n sv' f' ∧ Fr hb wb sv sv' w w' := by
  obtain ⟨W0, hW0⟩ : ∃ W0, ((w.alloc (.cells #[.int .u8 kind, .int .u32 (id : Int), .int .u64 key] 42)).alloc (.cells #[.int .u32 0, .int .u64 0, .bool false, .int .i64 0, .int .i64 0, .slice none 0 0] 44)).alloc (.cells #[.int .u32 0, .int .u64 0, .bool false, .int .i64 0, .int .i64 0, .slice none 0 0] 44) = W0 := ⟨_, rfl⟩
  obtain ⟨k0, k1, k2, ks, hB0⟩ := three_new w (.cells #[.int .u8 kind, .int .u32 (id : Int), .int .u64 key] 42) (.cells #[.int .u32 0, .int .u64 0, .bool false, .int .i64 0, .int .i64 0, .slice none 0 0] 44) (.cells #[.int .u32 0, .int .u64 0, .bool false, .int .i64 0, .int .i64 0, .slice none 0 0] 44)
  rw [hW0] at k0 k1 k2 ks hB0
  obtain ⟨bx, hbx⟩ : ∃ bx, w.heap.size = bx := ⟨_, rfl⟩
  obtain ⟨l1, l2, l3⟩ := h.lt
  have HEND : Hid (∀ w1 w2 sv', IsHeap w1 hb wb n sv' f' → Fr hb wb sv sv' W0 w1 → Only (bx + 1) (bx + 1 + 1) w1 w2 → ∃ sv', IsHeap w2 hb wb n sv' f' ∧ Fr hb wb sv sv' w w2) := fun w1 w2 sv' a b c => Only.heap h hB0 (by omega) (by omega) a b c
  have HK : Hid (∀ w1 sv', Fr hb wb sv sv' W0 w1 → w1.heap[bx]? = some (.cells #[.int .u8 kind, .int .u32 (id : Int), .int .u64 key] 42) ∧ w1.heap[bx + 1]? = some (.cells #[.int .u32 0, .int .u64 0, .bool false, .int .i64 0, .int .i64 0, .slice none 0 0] 44) ∧ w1.heap[bx + 1 + 1]? = some (.cells #[.int .u32 0, .int .u64 0, .bool false, .int .i64 0, .int .i64 0, .slice none 0 0] 44) ∧ bx + 1 + 1 < w1.heap.size) := fun w1 sv' hF => by
    have hne : ∀ k, bx ≤ k → some k ≠ sv.ownBlock := fun k hk e => by have := l3 k e.symm; omega
    rw [← hbx] at *
    refine ⟨(hF.block _ (by omega) (by omega) (by omega) (hne _ (by omega))).trans k0, (hF.block _ (by omega) (by omega) (by omega) (hne _ (by omega))).trans k1, (hF.block _ (by omega) (by omega) (by omega) (hne _ (by omega))).trans k2, by have := hF.size; omega⟩
  have HIH : Hid (IsHeap W0 hb wb n sv f) := h.below hB0
  have HW0 : Hid (((w.alloc (.cells #[.int .u8 kind, .int .u32 (id : Int), .int .u64 key] 42)).alloc (.cells #[.int .u32 0, .int .u64 0, .bool false, .int .i64 0, .int .i64 0, .slice none 0 0] 44)).alloc (.cells #[.int .u32 0, .int .u64 0, .bool false, .int .i64 0, .int .i64 0, .slice none 0 0] 44) = W0) := hW0
  have HBE : Hid (w.heap.size = bx) := hbx
  obtain ⟨q0, q1, q2⟩ := three_cells (HK.out W0 sv (Fr.refl _ _ _ _)).1
  have hq : bx + 1 + 1 < W0.heap.size := (HK.out W0 sv (Fr.refl _ _ _ _)).2.2.2
  have hq1 : bx + 1 < W0.heap.size := by omega
  have hq0 : bx < W0.heap.size := by omega
  have p0 : ¬ bx + 1 = bx + 1 + 1 := by omega
  have p1 : ¬ bx + 1 + 1 = bx + 1 := by omega
  have HC : Hid (type_of% (hC W0 HIH.out)) := hC W0 HIH.out
  subst hk
  clear h hC hW0 k0 k1 k2 ks hB0 hbx l1 l2 l3
  go_enter Tryd.func11, Tryd.ntmps11
  go_upto_region 2 with fail
  rw [HW0.out, HBE.out]
  go_wp2_with fail
  refine HC.out.mono ?_
  rintro e w1 ⟨rfl, sv', hI1, hF1⟩
  have HI1 : Hid (IsHeap w1 hb wb n sv' f' ∧ Fr hb wb sv sv' W0 w1) := ⟨hI1, hF1⟩
  clear q0 q1 q2 hq hq1 hq0
  obtain ⟨s0, s1, s2, s3⟩ := HK.out w1 sv' hF1
  obtain ⟨x0, x1, x2⟩ := three_cells s0
  obtain ⟨⟨y0, y1, y2, y3, y4, y5⟩, ⟨v0, v1, v2, v3, v4, v5⟩⟩ := six_cells s1
  obtain ⟨⟨z0, z1, z2, z3, z4, z5⟩, ⟨u0, u1, u2, u3, u4, u5⟩⟩ := six_cells s2
  have hs1 : bx + 1 < w1.heap.size := by omega
  have hs0 : bx < w1.heap.size := by omega
  clear s0 s1 s2 hI1 hF1
  go_wp2
  refine bodyPost_ret (v := .tuple #[.agg #[.int .u32 a, .int .u64 b, .bool c, .int .i64 0, .int .i64 0, .slice none 0 0], .nilIface]) (by simp [results, Tryd.results11, go_sem, y0, y1, y2, y3, y4, y5]) rfl ⟨rfl, HEND.out _ _ _ HI1.out.1 HI1.out.2 ?_⟩
  repeat first
    | with_reducible refine Only.s1 ?_
    | with_reducible refine Only.s2 ?_
    | with_reducible refine Only.drew ?_
    | with_reducible exact Only.refl _ _ _

set_option maxRecDepth 100000 in
set_option maxHeartbeats 2000000 in
theorem do_remove (kind key : Int) (id : Nat) (c : Bool) (hk : kind = 5) (h : IsHeap w hb wb n sv f) (hC : ∀ wx, IsHeap wx hb wb n sv f → Calls Tryd.prog 16 #[.pointer (some ⟨hb, 0, none⟩), .int .u32 (id : Int)] wx fun e w' => e = .returned (.bool c) ∧ ∃ sv', IsHeap w' hb wb n sv' f' ∧ Fr hb wb sv sv' wx w') :
    Calls Tryd.prog 11 #[.pointer (some ⟨hb, 0, none⟩), .agg #[.int .u8 kind, .int .u32 (id : Int), .int .u64 key]] w fun e w' => e = .returned (.tuple #[.agg #[.int .u32 0, .int .u64 0, .bool c, .int .i64 0, .int .i64 0, .slice none 0 0], .nilIface]) ∧ ∃ sv', IsHeap w' hb wb n sv' f' ∧ Fr hb wb sv sv' w w' := by
  obtain ⟨W0, hW0⟩ : ∃ W0, ((w.alloc (.cells #[.int .u8 kind, .int .u32 (id : Int), .int .u64 key] 42)).alloc (.cells #[.int .u32 0, .int .u64 0, .bool false, .int .i64 0, .int .i64 0, .slice none 0 0] 44)).alloc (.cells #[.int .u32 0, .int .u64 0, .bool false, .int .i64 0, .int .i64 0, .slice none 0 0] 44) = W0 := ⟨_, rfl⟩
  obtain ⟨k0, k1, k2, ks, hB0⟩ := three_new w (.cells #[.int .u8 kind, .int .u32 (id : Int), .int .u64 key] 42) (.cells #[.int .u32 0, .int .u64 0, .bool false, .int .i64 0, .int .i64 0, .slice none 0 0] 44) (.cells #[.int .u32 0, .int .u64 0, .bool false, .int .i64 0, .int .i64 0, .slice none 0 0] 44)
  rw [hW0] at k0 k1 k2 ks hB0
  obtain ⟨bx, hbx⟩ : ∃ bx, w.heap.size = bx := ⟨_, rfl⟩
  obtain ⟨l1, l2, l3⟩ := h.lt
  have HEND : Hid (∀ w1 w2 sv', IsHeap w1 hb wb n sv' f' → Fr hb wb sv sv' W0 w1 → Only (bx + 1) (bx + 1 + 1) w1 w2 → ∃ sv', IsHeap w2 hb wb n sv' f' ∧ Fr hb wb sv sv' w w2) := fun w1 w2 sv' a b c => Only.heap h hB0 (by omega) (by omega) a b c
  have HK : Hid (∀ w1 sv', Fr hb wb sv sv' W0 w1 → w1.heap[bx]? = some (.cells #[.int .u8 kind, .int .u32 (id : Int), .int .u64 key] 42) ∧ w1.heap[bx + 1]? = some (.cells #[.int .u32 0, .int .u64 0, .bool false, .int .i64 0, .int .i64 0, .slice none 0 0] 44) ∧ w1.heap[bx + 1 + 1]? = some (.cells #[.int .u32 0, .int .u64 0, .bool false, .int .i64 0, .int .i64 0, .slice none 0 0] 44) ∧ bx + 1 + 1 < w1.heap.size) := fun w1 sv' hF => by
    have hne : ∀ k, bx ≤ k → some k ≠ sv.ownBlock := fun k hk e => by have := l3 k e.symm; omega
    rw [← hbx] at *
    refine ⟨(hF.block _ (by omega) (by omega) (by omega) (hne _ (by omega))).trans k0, (hF.block _ (by omega) (by omega) (by omega) (hne _ (by omega))).trans k1, (hF.block _ (by omega) (by omega) (by omega) (hne _ (by omega))).trans k2, by have := hF.size; omega⟩
  have HIH : Hid (IsHeap W0 hb wb n sv f) := h.below hB0
  have HW0 : Hid (((w.alloc (.cells #[.int .u8 kind, .int .u32 (id : Int), .int .u64 key] 42)).alloc (.cells #[.int .u32 0, .int .u64 0, .bool false, .int .i64 0, .int .i64 0, .slice none 0 0] 44)).alloc (.cells #[.int .u32 0, .int .u64 0, .bool false, .int .i64 0, .int .i64 0, .slice none 0 0] 44) = W0) := hW0
  have HBE : Hid (w.heap.size = bx) := hbx
  obtain ⟨q0, q1, q2⟩ := three_cells (HK.out W0 sv (Fr.refl _ _ _ _)).1
  have hq : bx + 1 + 1 < W0.heap.size := (HK.out W0 sv (Fr.refl _ _ _ _)).2.2.2
  have hq1 : bx + 1 < W0.heap.size := by omega
  have hq0 : bx < W0.heap.size := by omega
  have p0 : ¬ bx + 1 = bx + 1 + 1 := by omega
  have p1 : ¬ bx + 1 + 1 = bx + 1 := by omega
  have HC : Hid (type_of% (hC W0 HIH.out)) := hC W0 HIH.out
  subst hk
  clear h hC hW0 k0 k1 k2 ks hB0 hbx l1 l2 l3
  go_enter Tryd.func11, Tryd.ntmps11
  go_upto_region 2 with fail
  rw [HW0.out, HBE.out]
  go_wp2_with fail
  refine HC.out.mono ?_
  rintro e w1 ⟨rfl, sv', hI1, hF1⟩
  have HI1 : Hid (IsHeap w1 hb wb n sv' f' ∧ Fr hb wb sv sv' W0 w1) := ⟨hI1, hF1⟩
  clear q0 q1 q2 hq hq1 hq0
  obtain ⟨s0, s1, s2, s3⟩ := HK.out w1 sv' hF1
  obtain ⟨x0, x1, x2⟩ := three_cells s0
  obtain ⟨⟨y0, y1, y2, y3, y4, y5⟩, ⟨v0, v1, v2, v3, v4, v5⟩⟩ := six_cells s1
  obtain ⟨⟨z0, z1, z2, z3, z4, z5⟩, ⟨u0, u1, u2, u3, u4, u5⟩⟩ := six_cells s2
  have hs1 : bx + 1 < w1.heap.size := by omega
  have hs0 : bx < w1.heap.size := by omega
  clear s0 s1 s2 hI1 hF1
  go_wp2
  refine bodyPost_ret (v := .tuple #[.agg #[.int .u32 0, .int .u64 0, .bool c, .int .i64 0, .int .i64 0, .slice none 0 0], .nilIface]) (by simp [results, Tryd.results11, go_sem, y0, y1, y2, y3, y4, y5]) rfl ⟨rfl, HEND.out _ _ _ HI1.out.1 HI1.out.2 ?_⟩
  repeat first
    | with_reducible refine Only.s1 ?_
    | with_reducible refine Only.s2 ?_
    | with_reducible refine Only.drew ?_
    | with_reducible exact Only.refl _ _ _

set_option maxRecDepth 100000 in
set_option maxHeartbeats 2000000 in
theorem do_key (kind key : Int) (id : Nat) (b : Int) (c : Bool) (hk : kind = 6) (h : IsHeap w hb wb n sv f) (hC : ∀ wx, IsHeap wx hb wb n sv f → Calls Tryd.prog 15 #[.pointer (some ⟨hb, 0, none⟩), .int .u32 (id : Int)] wx fun e w' => e = .returned (.tuple #[.int .u64 b, .bool c]) ∧ ∃ sv', IsHeap w' hb wb n sv' f' ∧ Fr hb wb sv sv' wx w') :
    Calls Tryd.prog 11 #[.pointer (some ⟨hb, 0, none⟩), .agg #[.int .u8 kind, .int .u32 (id : Int), .int .u64 key]] w fun e w' => e = .returned (.tuple #[.agg #[.int .u32 0, .int .u64 b, .bool c, .int .i64 0, .int .i64 0, .slice none 0 0], .nilIface]) ∧ ∃ sv', IsHeap w' hb wb n sv' f' ∧ Fr hb wb sv sv' w w' := by
  obtain ⟨W0, hW0⟩ : ∃ W0, ((w.alloc (.cells #[.int .u8 kind, .int .u32 (id : Int), .int .u64 key] 42)).alloc (.cells #[.int .u32 0, .int .u64 0, .bool false, .int .i64 0, .int .i64 0, .slice none 0 0] 44)).alloc (.cells #[.int .u32 0, .int .u64 0, .bool false, .int .i64 0, .int .i64 0, .slice none 0 0] 44) = W0 := ⟨_, rfl⟩
  obtain ⟨k0, k1, k2, ks, hB0⟩ := three_new w (.cells #[.int .u8 kind, .int .u32 (id : Int), .int .u64 key] 42) (.cells #[.int .u32 0, .int .u64 0, .bool false, .int .i64 0, .int .i64 0, .slice none 0 0] 44) (.cells #[.int .u32 0, .int .u64 0, .bool false, .int .i64 0, .int .i64 0, .slice none 0 0] 44)
  rw [hW0] at k0 k1 k2 ks hB0
  obtain ⟨bx, hbx⟩ : ∃ bx, w.heap.size = bx := ⟨_, rfl⟩
  obtain ⟨l1, l2, l3⟩ := h.lt
  have HEND : Hid (∀ w1 w2 sv', IsHeap w1 hb wb n sv' f' → Fr hb wb sv sv' W0 w1 → Only (bx + 1) (bx + 1 + 1) w1 w2 → ∃ sv', IsHeap w2 hb wb n sv' f' ∧ Fr hb wb sv sv' w w2) := fun w1 w2 sv' a b c => Only.heap h hB0 (by omega) (by omega) a b c
  have HK : Hid (∀ w1 sv', Fr hb wb sv sv' W0 w1 → w1.heap[bx]? = some (.cells #[.int .u8 kind, .int .u32 (id : Int), .int .u64 key] 42) ∧ w1.heap[bx + 1]? = some (.cells #[.int .u32 0, .int .u64 0, .bool false, .int .i64 0, .int .i64 0, .slice none 0 0] 44) ∧ w1.heap[bx + 1 + 1]? = some (.cells #[.int .u32 0, .int .u64 0, .bool false, .int .i64 0, .int .i64 0, .slice none 0 0] 44) ∧ bx + 1 + 1 < w1.heap.size) := fun w1 sv' hF => by
    have hne : ∀ k, bx ≤ k → some k ≠ sv.ownBlock := fun k hk e => by have := l3 k e.symm; omega
    rw [← hbx] at *
    refine ⟨(hF.block _ (by omega) (by omega) (by omega) (hne _ (by omega))).trans k0, (hF.block _ (by omega) (by omega) (by omega) (hne _ (by omega))).trans k1, (hF.block _ (by omega) (by omega) (by omega) (hne _ (by omega))).trans k2, by have := hF.size; omega⟩
  have HIH : Hid (IsHeap W0 hb wb n sv f) := h.below hB0
  have HW0 : Hid (((w.alloc (.cells #[.int .u8 kind, .int .u32 (id : Int), .int .u64 key] 42)).alloc (.cells #[.int .u32 0, .int .u64 0, .bool false, .int .i64 0, .int .i64 0, .slice none 0 0] 44)).alloc (.cells #[.int .u32 0, .int .u64 0, .bool false, .int .i64 0, .int .i64 0, .slice none 0 0] 44) = W0) := hW0
  have HBE : Hid (w.heap.size = bx) := hbx
  obtain ⟨q0, q1, q2⟩ := three_cells (HK.out W0 sv (Fr.refl _ _ _ _)).1
  have hq : bx + 1 + 1 < W0.heap.size := (HK.out W0 sv (Fr.refl _ _ _ _)).2.2.2
  have hq1 : bx + 1 < W0.heap.size := by omega
  have hq0 : bx < W0.heap.size := by omega
  have p0 : ¬ bx + 1 = bx + 1 + 1 := by omega
  have p1 : ¬ bx + 1 + 1 = bx + 1 := by omega
  have HC : Hid (type_of% (hC W0 HIH.out)) := hC W0 HIH.out
  subst hk
  clear h hC hW0 k0 k1 k2 ks hB0 hbx l1 l2 l3
  go_enter Tryd.func11, Tryd.ntmps11
  go_upto_region 2 with fail
  rw [HW0.out, HBE.out]
  go_wp2_with fail
  refine HC.out.mono ?_
  rintro e w1 ⟨rfl, sv', hI1, hF1⟩
  have HI1 : Hid (IsHeap w1 hb wb n sv' f' ∧ Fr hb wb sv sv' W0 w1) := ⟨hI1, hF1⟩
  clear q0 q1 q2 hq hq1 hq0
  obtain ⟨s0, s1, s2, s3⟩ := HK.out w1 sv' hF1
  obtain ⟨x0, x1, x2⟩ := three_cells s0
  obtain ⟨⟨y0, y1, y2, y3, y4, y5⟩, ⟨v0, v1, v2, v3, v4, v5⟩⟩ := six_cells s1
  obtain ⟨⟨z0, z1, z2, z3, z4, z5⟩, ⟨u0, u1, u2, u3, u4, u5⟩⟩ := six_cells s2
  have hs1 : bx + 1 < w1.heap.size := by omega
  have hs0 : bx < w1.heap.size := by omega
  clear s0 s1 s2 hI1 hF1
  go_wp2
  refine bodyPost_ret (v := .tuple #[.agg #[.int .u32 0, .int .u64 b, .bool c, .int .i64 0, .int .i64 0, .slice none 0 0], .nilIface]) (by simp [results, Tryd.results11, go_sem, y0, y1, y2, y3, y4, y5]) rfl ⟨rfl, HEND.out _ _ _ HI1.out.1 HI1.out.2 ?_⟩
  repeat first
    | with_reducible refine Only.s1 ?_
    | with_reducible refine Only.s2 ?_
    | with_reducible refine Only.drew ?_
    | with_reducible exact Only.refl _ _ _

set_option maxRecDepth 100000 in
set_option maxHeartbeats 2000000 in
theorem do_len (kind key : Int) (id : Nat) (l : Int) (hk : kind = 7) (h : IsHeap w hb wb n sv f) (hC : ∀ wx, IsHeap wx hb wb n sv f → Calls Tryd.prog 21 #[.pointer (some ⟨hb, 0, none⟩)] wx fun e w' => e = .returned (.int .i64 l) ∧ ∃ sv', IsHeap w' hb wb n sv' f' ∧ Fr hb wb sv sv' wx w') :
    Calls Tryd.prog 11 #[.pointer (some ⟨hb, 0, none⟩), .agg #[.int .u8 kind, .int .u32 (id : Int), .int .u64 key]] w fun e w' => e = .returned (.tuple #[.agg #[.int .u32 0, .int .u64 0, .bool false, .int .i64 l, .int .i64 0, .slice none 0 0], .nilIface]) ∧ ∃ sv', IsHeap w' hb wb n sv' f' ∧ Fr hb wb sv sv' w w' := by
  obtain ⟨W0, hW0⟩ : ∃ W0, ((w.alloc (.cells #[.int .u8 kind, .int .u32 (id : Int), .int .u64 key] 42)).alloc (.cells #[.int .u32 0, .int .u64 0, .bool false, .int .i64 0, .int .i64 0, .slice none 0 0] 44)).alloc (.cells #[.int .u32 0, .int .u64 0, .bool false, .int .i64 0, .int .i64 0, .slice none 0 0] 44) = W0 := ⟨_, rfl⟩
  obtain ⟨k0, k1, k2, ks, hB0⟩ := three_new w (.cells #[.int .u8 kind, .int .u32 (id : Int), .int .u64 key] 42) (.cells #[.int .u32 0, .int .u64 0, .bool false, .int .i64 0, .int .i64 0, .slice none 0 0] 44) (.cells #[.int .u32 0, .int .u64 0, .bool false, .int .i64 0, .int .i64 0, .slice none 0 0] 44)
  rw [hW0] at k0 k1 k2 ks hB0
  obtain ⟨bx, hbx⟩ : ∃ bx, w.heap.size = bx := ⟨_, rfl⟩
  obtain ⟨l1, l2, l3⟩ := h.lt
  have HEND : Hid (∀ w1 w2 sv', IsHeap w1 hb wb n sv' f' → Fr hb wb sv sv' W0 w1 → Only (bx + 1) (bx + 1 + 1) w1 w2 → ∃ sv', IsHeap w2 hb wb n sv' f' ∧ Fr hb wb sv sv' w w2) := fun w1 w2 sv' a b c => Only.heap h hB0 (by omega) (by omega) a b c
  have HK : Hid (∀ w1 sv', Fr hb wb sv sv' W0 w1 → w1.heap[bx]? = some (.cells #[.int .u8 kind, .int .u32 (id : Int), .int .u64 key] 42) ∧ w1.heap[bx + 1]? = some (.cells #[.int .u32 0, .int .u64 0, .bool false, .int .i64 0, .int .i64 0, .slice none 0 0] 44) ∧ w1.heap[bx + 1 + 1]? = some (.cells #[.int .u32 0, .int .u64 0, .bool false, .int .i64 0, .int .i64 0, .slice none 0 0] 44) ∧ bx + 1 + 1 < w1.heap.size) := fun w1 sv' hF => by
    have hne : ∀ k, bx ≤ k → some k ≠ sv.ownBlock := fun k hk e => by have := l3 k e.symm; omega
    rw [← hbx] at *
    refine ⟨(hF.block _ (by omega) (by omega) (by omega) (hne _ (by omega))).trans k0, (hF.block _ (by omega) (by omega) (by omega) (hne _ (by omega))).trans k1, (hF.block _ (by omega) (by omega) (by omega) (hne _ (by omega))).trans k2, by have := hF.size; omega⟩
  have HIH : Hid (IsHeap W0 hb wb n sv f) := h.below hB0
  have HW0 : Hid (((w.alloc (.cells #[.int .u8 kind, .int .u32 (id : Int), .int .u64 key] 42)).alloc (.cells #[.int .u32 0, .int .u64 0, .bool false, .int .i64 0, .int .i64 0, .slice none 0 0] 44)).alloc (.cells #[.int .u32 0, .int .u64 0, .bool false, .int .i64 0, .int .i64 0, .slice none 0 0] 44) = W0) := hW0
  have HBE : Hid (w.heap.size = bx) := hbx
  obtain ⟨q0, q1, q2⟩ := three_cells (HK.out W0 sv (Fr.refl _ _ _ _)).1
  have hq : bx + 1 + 1 < W0.heap.size := (HK.out W0 sv (Fr.refl _ _ _ _)).2.2.2
  have hq1 : bx + 1 < W0.heap.size := by omega
  have hq0 : bx < W0.heap.size := by omega
  have p0 : ¬ bx + 1 = bx + 1 + 1 := by omega
  have p1 : ¬ bx + 1 + 1 = bx + 1 := by omega
  have HC : Hid (type_of% (hC W0 HIH.out)) := hC W0 HIH.out
  subst hk
  clear h hC hW0 k0 k1 k2 ks hB0 hbx l1 l2 l3
  go_enter Tryd.func11, Tryd.ntmps11
  go_upto_region 2 with fail
  rw [HW0.out, HBE.out]
  go_wp2_with fail
  refine HC.out.mono ?_
  rintro e w1 ⟨rfl, sv', hI1, hF1⟩
  have HI1 : Hid (IsHeap w1 hb wb n sv' f' ∧ Fr hb wb sv sv' W0 w1) := ⟨hI1, hF1⟩
  clear q0 q1 q2 hq hq1 hq0
  obtain ⟨s0, s1, s2, s3⟩ := HK.out w1 sv' hF1
  obtain ⟨x0, x1, x2⟩ := three_cells s0
  obtain ⟨⟨y0, y1, y2, y3, y4, y5⟩, ⟨v0, v1, v2, v3, v4, v5⟩⟩ := six_cells s1
  obtain ⟨⟨z0, z1, z2, z3, z4, z5⟩, ⟨u0, u1, u2, u3, u4, u5⟩⟩ := six_cells s2
  have hs1 : bx + 1 < w1.heap.size := by omega
  have hs0 : bx < w1.heap.size := by omega
  clear s0 s1 s2 hI1 hF1
  go_wp2
  refine bodyPost_ret (v := .tuple #[.agg #[.int .u32 0, .int .u64 0, .bool false, .int .i64 l, .int .i64 0, .slice none 0 0], .nilIface]) (by simp [results, Tryd.results11, go_sem, y0, y1, y2, y3, y4, y5]) rfl ⟨rfl, HEND.out _ _ _ HI1.out.1 HI1.out.2 ?_⟩
  repeat first
    | with_reducible refine Only.s1 ?_
    | with_reducible refine Only.s2 ?_
    | with_reducible refine Only.drew ?_
    | with_reducible exact Only.refl _ _ _

set_option maxRecDepth 100000 in
set_option maxHeartbeats 2000000 in
theorem do_clear (kind key : Int) (id : Nat)  (hk : kind = 8) (h : IsHeap w hb wb n sv f) (hC : ∀ wx, IsHeap wx hb wb n sv f → Calls Tryd.prog 13 #[.pointer (some ⟨hb, 0, none⟩)] wx fun e w' => e = .returned (.tuple #[]) ∧ ∃ sv', IsHeap w' hb wb n sv' f' ∧ Fr hb wb sv sv' wx w') :
    Calls Tryd.prog 11 #[.pointer (some ⟨hb, 0, none⟩), .agg #[.int .u8 kind, .int .u32 (id : Int), .int .u64 key]] w fun e w' => e = .returned (.tuple #[.agg #[.int .u32 0, .int .u64 0, .bool false, .int .i64 0, .int .i64 0, .slice none 0 0], .nilIface]) ∧ ∃ sv', IsHeap w' hb wb n sv' f' ∧ Fr hb wb sv sv' w w' := by
  obtain ⟨W0, hW0⟩ : ∃ W0, ((w.alloc (.cells #[.int .u8 kind, .int .u32 (id : Int), .int .u64 key] 42)).alloc (.cells #[.int .u32 0, .int .u64 0, .bool false, .int .i64 0, .int .i64 0, .slice none 0 0] 44)).alloc (.cells #[.int .u32 0, .int .u64 0, .bool false, .int .i64 0, .int .i64 0, .slice none 0 0] 44) = W0 := ⟨_, rfl⟩
  obtain ⟨k0, k1, k2, ks, hB0⟩ := three_new w (.cells #[.int .u8 kind, .int .u32 (id : Int), .int .u64 key] 42) (.cells #[.int .u32 0, .int .u64 0, .bool false, .int .i64 0, .int .i64 0, .slice none 0 0] 44) (.cells #[.int .u32 0, .int .u64 0, .bool false, .int .i64 0, .int .i64 0, .slice none 0 0] 44)
  rw [hW0] at k0 k1 k2 ks hB0
  obtain ⟨bx, hbx⟩ : ∃ bx, w.heap.size = bx := ⟨_, rfl⟩
  obtain ⟨l1, l2, l3⟩ := h.lt
  have HEND : Hid (∀ w1 w2 sv', IsHeap w1 hb wb n sv' f' → Fr hb wb sv sv' W0 w1 → Only (bx + 1) (bx + 1 + 1) w1 w2 → ∃ sv', IsHeap w2 hb wb n sv' f' ∧ Fr hb wb sv sv' w w2) := fun w1 w2 sv' a b c => Only.heap h hB0 (by omega) (by omega) a b c
  have HK : Hid (∀ w1 sv', Fr hb wb sv sv' W0 w1 → w1.heap[bx]? = some (.cells #[.int .u8 kind, .int .u32 (id : Int), .int .u64 key] 42) ∧ w1.heap[bx + 1]? = some (.cells #[.int .u32 0, .int .u64 0, .bool false, .int .i64 0, .int .i64 0, .slice none 0 0] 44) ∧ w1.heap[bx + 1 + 1]? = some (.cells #[.int .u32 0, .int .u64 0, .bool false, .int .i64 0, .int .i64 0, .slice none 0 0] 44) ∧ bx + 1 + 1 < w1.heap.size) := fun w1 sv' hF => by
    have hne : ∀ k, bx ≤ k → some k ≠ sv.ownBlock := fun k hk e => by have := l3 k e.symm; omega
    rw [← hbx] at *
    refine ⟨(hF.block _ (by omega) (by omega) (by omega) (hne _ (by omega))).trans k0, (hF.block _ (by omega) (by omega) (by omega) (hne _ (by omega))).trans k1, (hF.block _ (by omega) (by omega) (by omega) (hne _ (by omega))).trans k2, by have := hF.size; omega⟩
  have HIH : Hid (IsHeap W0 hb wb n sv f) := h.below hB0
  have HW0 : Hid (((w.alloc (.cells #[.int .u8 kind, .int .u32 (id : Int), .int .u64 key] 42)).alloc (.cells #[.int .u32 0, .int .u64 0, .bool false, .int .i64 0, .int .i64 0, .slice none 0 0] 44)).alloc (.cells #[.int .u32 0, .int .u64 0, .bool false, .int .i64 0, .int .i64 0, .slice none 0 0] 44) = W0) := hW0
  have HBE : Hid (w.heap.size = bx) := hbx
  obtain ⟨q0, q1, q2⟩ := three_cells (HK.out W0 sv (Fr.refl _ _ _ _)).1
  have hq : bx + 1 + 1 < W0.heap.size := (HK.out W0 sv (Fr.refl _ _ _ _)).2.2.2
  have hq1 : bx + 1 < W0.heap.size := by omega
  have hq0 : bx < W0.heap.size := by omega
  have p0 : ¬ bx + 1 = bx + 1 + 1 := by omega
  have p1 : ¬ bx + 1 + 1 = bx + 1 := by omega
  have HC : Hid (type_of% (hC W0 HIH.out)) := hC W0 HIH.out
  subst hk
  clear h hC hW0 k0 k1 k2 ks hB0 hbx l1 l2 l3
  go_enter Tryd.func11, Tryd.ntmps11
  go_upto_region 2 with fail
  rw [HW0.out, HBE.out]
  go_wp2_with fail
  refine HC.out.mono ?_
  rintro e w1 ⟨rfl, sv', hI1, hF1⟩
  have HI1 : Hid (IsHeap w1 hb wb n sv' f' ∧ Fr hb wb sv sv' W0 w1) := ⟨hI1, hF1⟩
  clear q0 q1 q2 hq hq1 hq0
  obtain ⟨s0, s1, s2, s3⟩ := HK.out w1 sv' hF1
  obtain ⟨x0, x1, x2⟩ := three_cells s0
  obtain ⟨⟨y0, y1, y2, y3, y4, y5⟩, ⟨v0, v1, v2, v3, v4, v5⟩⟩ := six_cells s1
  obtain ⟨⟨z0, z1, z2, z3, z4, z5⟩, ⟨u0, u1, u2, u3, u4, u5⟩⟩ := six_cells s2
  have hs1 : bx + 1 < w1.heap.size := by omega
  have hs0 : bx < w1.heap.size := by omega
  clear s0 s1 s2 hI1 hF1
  go_wp2
  refine bodyPost_ret (v := .tuple #[.agg #[.int .u32 0, .int .u64 0, .bool false, .int .i64 0, .int .i64 0, .slice none 0 0], .nilIface]) (by simp [results, Tryd.results11, go_sem, y0, y1, y2, y3, y4, y5]) rfl ⟨rfl, HEND.out _ _ _ HI1.out.1 HI1.out.2 ?_⟩
  repeat first
    | with_reducible refine Only.s1 ?_
    | with_reducible refine Only.s2 ?_
    | with_reducible refine Only.drew ?_
    | with_reducible exact Only.refl _ _ _

set_option maxRecDepth 100000 in
set_option maxHeartbeats 2000000 in
theorem do_other (kind key : Int) (id : Nat)  (hk : kind < 1 ∨ 8 < kind) (h : IsHeap w hb wb n sv f) (hff : f' = f) :
    Calls Tryd.prog 11 #[.pointer (some ⟨hb, 0, none⟩), .agg #[.int .u8 kind, .int .u32 (id : Int), .int .u64 key]] w fun e w' => e = .returned (.tuple #[.agg #[.int .u32 0, .int .u64 0, .bool false, .int .i64 0, .int .i64 0, .slice none 0 0], .nilIface]) ∧ ∃ sv', IsHeap w' hb wb n sv' f' ∧ Fr hb wb sv sv' w w' := by
  obtain ⟨W0, hW0⟩ : ∃ W0, ((w.alloc (.cells #[.int .u8 kind, .int .u32 (id : Int), .int .u64 key] 42)).alloc (.cells #[.int .u32 0, .int .u64 0, .bool false, .int .i64 0, .int .i64 0, .slice none 0 0] 44)).alloc (.cells #[.int .u32 0, .int .u64 0, .bool false, .int .i64 0, .int .i64 0, .slice none 0 0] 44) = W0 := ⟨_, rfl⟩
  obtain ⟨k0, k1, k2, ks, hB0⟩ := three_new w (.cells #[.int .u8 kind, .int .u32 (id : Int), .int .u64 key] 42) (.cells #[.int .u32 0, .int .u64 0, .bool false, .int .i64 0, .int .i64 0, .slice none 0 0] 44) (.cells #[.int .u32 0, .int .u64 0, .bool false, .int .i64 0, .int .i64 0, .slice none 0 0] 44)
  rw [hW0] at k0 k1 k2 ks hB0
  obtain ⟨bx, hbx⟩ : ∃ bx, w.heap.size = bx := ⟨_, rfl⟩
  obtain ⟨l1, l2, l3⟩ := h.lt
  have HEND : Hid (∀ w1 w2 sv', IsHeap w1 hb wb n sv' f' → Fr hb wb sv sv' W0 w1 → Only (bx + 1) (bx + 1 + 1) w1 w2 → ∃ sv', IsHeap w2 hb wb n sv' f' ∧ Fr hb wb sv sv' w w2) := fun w1 w2 sv' a b c => Only.heap h hB0 (by omega) (by omega) a b c
  have HK : Hid (∀ w1 sv', Fr hb wb sv sv' W0 w1 → w1.heap[bx]? = some (.cells #[.int .u8 kind, .int .u32 (id : Int), .int .u64 key] 42) ∧ w1.heap[bx + 1]? = some (.cells #[.int .u32 0, .int .u64 0, .bool false, .int .i64 0, .int .i64 0, .slice none 0 0] 44) ∧ w1.heap[bx + 1 + 1]? = some (.cells #[.int .u32 0, .int .u64 0, .bool false, .int .i64 0, .int .i64 0, .slice none 0 0] 44) ∧ bx + 1 + 1 < w1.heap.size) := fun w1 sv' hF => by
    have hne : ∀ k, bx ≤ k → some k ≠ sv.ownBlock := fun k hk e => by have := l3 k e.symm; omega
    rw [← hbx] at *
    refine ⟨(hF.block _ (by omega) (by omega) (by omega) (hne _ (by omega))).trans k0, (hF.block _ (by omega) (by omega) (by omega) (hne _ (by omega))).trans k1, (hF.block _ (by omega) (by omega) (by omega) (hne _ (by omega))).trans k2, by have := hF.size; omega⟩
  have HIH : Hid (IsHeap W0 hb wb n sv f) := h.below hB0
  have HW0 : Hid (((w.alloc (.cells #[.int .u8 kind, .int .u32 (id : Int), .int .u64 key] 42)).alloc (.cells #[.int .u32 0, .int .u64 0, .bool false, .int .i64 0, .int .i64 0, .slice none 0 0] 44)).alloc (.cells #[.int .u32 0, .int .u64 0, .bool false, .int .i64 0, .int .i64 0, .slice none 0 0] 44) = W0) := hW0
  have HBE : Hid (w.heap.size = bx) := hbx
  obtain ⟨q0, q1, q2⟩ := three_cells (HK.out W0 sv (Fr.refl _ _ _ _)).1
  have hq : bx + 1 + 1 < W0.heap.size := (HK.out W0 sv (Fr.refl _ _ _ _)).2.2.2
  have hq1 : bx + 1 < W0.heap.size := by omega
  have hq0 : bx < W0.heap.size := by omega
  have p0 : ¬ bx + 1 = bx + 1 + 1 := by omega
  have p1 : ¬ bx + 1 + 1 = bx + 1 := by omega
  have HI1 : Hid (IsHeap W0 hb wb n sv f' ∧ Fr hb wb sv sv W0 W0) := ⟨by rw [hff]; exact HIH.out, Fr.refl _ _ _ _⟩
  obtain ⟨s0, s1, s2, s3⟩ := HK.out W0 sv (Fr.refl _ _ _ _)
  obtain ⟨⟨y0, y1, y2, y3, y4, y5⟩, ⟨v0, v1, v2, v3, v4, v5⟩⟩ := six_cells s1
  obtain ⟨⟨z0, z1, z2, z3, z4, z5⟩, ⟨u0, u1, u2, u3, u4, u5⟩⟩ := six_cells s2
  have t1 : (kind == 1) = false := by
    have : kind ≠ 1 := by omega
    simpa using this
  have t2 : (kind == 2) = false := by
    have : kind ≠ 2 := by omega
    simpa using this
  have t3 : (kind == 3) = false := by
    have : kind ≠ 3 := by omega
    simpa using this
  have t4 : (kind == 4) = false := by
    have : kind ≠ 4 := by omega
    simpa using this
  have t5 : (kind == 5) = false := by
    have : kind ≠ 5 := by omega
    simpa using this
  have t6 : (kind == 6) = false := by
    have : kind ≠ 6 := by omega
    simpa using this
  have t7 : (kind == 7) = false := by
    have : kind ≠ 7 := by omega
    simpa using this
  have t8 : (kind == 8) = false := by
    have : kind ≠ 8 := by omega
    simpa using this
  clear h hW0 k0 k1 k2 ks hB0 hbx l1 l2 l3 s0 s1 s2 hff hk
  go_enter Tryd.func11, Tryd.ntmps11
  go_upto_region 2 with fail
  rw [HW0.out, HBE.out]
  go_wp2
  refine bodyPost_ret (v := .tuple #[.agg #[.int .u32 0, .int .u64 0, .bool false, .int .i64 0, .int .i64 0, .slice none 0 0], .nilIface]) (by simp [results, Tryd.results11, go_sem, y0, y1, y2, y3, y4, y5]) rfl ⟨rfl, HEND.out _ _ _ HI1.out.1 HI1.out.2 ?_⟩
  repeat first
    | with_reducible refine Only.s1 ?_
    | with_reducible refine Only.s2 ?_
    | with_reducible refine Only.drew ?_
    | with_reducible exact Only.refl _ _ _

set_option maxRecDepth 100000 in
set_option maxHeartbeats 2000000 in
theorem do_push (kind key : Int) (id : Nat) (ev : Value) (hk : kind = 1) (h : IsHeap w hb wb n sv f) (hC : ∀ wx, IsHeap wx hb wb n sv f → Calls Tryd.prog 17 #[.pointer (some ⟨hb, 0, none⟩), .int .u32 (id : Int), .int .u64 key] wx fun e w' => e = .returned (ev) ∧ ∃ sv', IsHeap w' hb wb n sv' f' ∧ Fr hb wb sv sv' wx w') :
    Calls Tryd.prog 11 #[.pointer (some ⟨hb, 0, none⟩), .agg #[.int .u8 kind, .int .u32 (id : Int), .int .u64 key]] w fun e w' => e = .returned (.tuple #[.agg #[.int .u32 0, .int .u64 0, .bool false, .int .i64 0, .int .i64 0, .slice none 0 0], ev]) ∧ ∃ sv', IsHeap w' hb wb n sv' f' ∧ Fr hb wb sv sv' w w' := by
  obtain ⟨W0, hW0⟩ : ∃ W0, ((w.alloc (.cells #[.int .u8 kind, .int .u32 (id : Int), .int .u64 key] 42)).alloc (.cells #[.int .u32 0, .int .u64 0, .bool false, .int .i64 0, .int .i64 0, .slice none 0 0] 44)).alloc (.cells #[.int .u32 0, .int .u64 0, .bool false, .int .i64 0, .int .i64 0, .slice none 0 0] 44) = W0 := ⟨_, rfl⟩
  obtain ⟨k0, k1, k2, ks, hB0⟩ := three_new w (.cells #[.int .u8 kind, .int .u32 (id : Int), .int .u64 key] 42) (.cells #[.int .u32 0, .int .u64 0, .bool false, .int .i64 0, .int .i64 0, .slice none 0 0] 44) (.cells #[.int .u32 0, .int .u64 0, .bool false, .int .i64 0, .int .i64 0, .slice none 0 0] 44)
  rw [hW0] at k0 k1 k2 ks hB0
  obtain ⟨bx, hbx⟩ : ∃ bx, w.heap.size = bx := ⟨_, rfl⟩
  obtain ⟨l1, l2, l3⟩ := h.lt
  have HEND : Hid (∀ w1 w2 sv', IsHeap w1 hb wb n sv' f' → Fr hb wb sv sv' W0 w1 → Only (bx + 1) (bx + 1 + 1) w1 w2 → ∃ sv', IsHeap w2 hb wb n sv' f' ∧ Fr hb wb sv sv' w w2) := fun w1 w2 sv' a b c => Only.heap h hB0 (by omega) (by omega) a b c
  have HK : Hid (∀ w1 sv', Fr hb wb sv sv' W0 w1 → w1.heap[bx]? = some (.cells #[.int .u8 kind, .int .u32 (id : Int), .int .u64 key] 42) ∧ w1.heap[bx + 1]? = some (.cells #[.int .u32 0, .int .u64 0, .bool false, .int .i64 0, .int .i64 0, .slice none 0 0] 44) ∧ w1.heap[bx + 1 + 1]? = some (.cells #[.int .u32 0, .int .u64 0, .bool false, .int .i64 0, .int .i64 0, .slice none 0 0] 44) ∧ bx + 1 + 1 < w1.heap.size) := fun w1 sv' hF => by
    have hne : ∀ k, bx ≤ k → some k ≠ sv.ownBlock := fun k hk e => by have := l3 k e.symm; omega
    rw [← hbx] at *
    refine ⟨(hF.block _ (by omega) (by omega) (by omega) (hne _ (by omega))).trans k0, (hF.block _ (by omega) (by omega) (by omega) (hne _ (by omega))).trans k1, (hF.block _ (by omega) (by omega) (by omega) (hne _ (by omega))).trans k2, by have := hF.size; omega⟩
  have HIH : Hid (IsHeap W0 hb wb n sv f) := h.below hB0
  have HW0 : Hid (((w.alloc (.cells #[.int .u8 kind, .int .u32 (id : Int), .int .u64 key] 42)).alloc (.cells #[.int .u32 0, .int .u64 0, .bool false, .int .i64 0, .int .i64 0, .slice none 0 0] 44)).alloc (.cells #[.int .u32 0, .int .u64 0, .bool false, .int .i64 0, .int .i64 0, .slice none 0 0] 44) = W0) := hW0
  have HBE : Hid (w.heap.size = bx) := hbx
  obtain ⟨q0, q1, q2⟩ := three_cells (HK.out W0 sv (Fr.refl _ _ _ _)).1
  have hq : bx + 1 + 1 < W0.heap.size := (HK.out W0 sv (Fr.refl _ _ _ _)).2.2.2
  have hq1 : bx + 1 < W0.heap.size := by omega
  have hq0 : bx < W0.heap.size := by omega
  have p0 : ¬ bx + 1 = bx + 1 + 1 := by omega
  have p1 : ¬ bx + 1 + 1 = bx + 1 := by omega
  have HC : Hid (∀ wx, IsHeap wx hb wb n sv f → Calls Tryd.prog 17 #[.pointer (some ⟨hb, 0, none⟩), .int .u32 (id : Int), .int .u64 key] wx fun e w' => e = .returned ev ∧ ∃ sv', IsHeap w' hb wb n sv' f' ∧ Fr hb wb sv sv' wx w') := hC
  obtain ⟨⟨z0, z1, z2, z3, z4, z5⟩, _⟩ := six_cells (HK.out W0 sv (Fr.refl _ _ _ _)).2.2.1
  subst hk
  clear h hC hW0 k0 k1 k2 ks hB0 hbx l1 l2 l3
  go_enter Tryd.func11, Tryd.ntmps11
  go_upto_region 2 with fail
  rw [HW0.out, HBE.out]
  go_wp2_with fail
  go_region_held3 (fun w' => w'.cell? ⟨bx, 1, none⟩ = some (.int .u32 (id : Int)) ∧ w'.cell? ⟨bx, 2, none⟩ = some (.int .u64 key) ∧ w'.cell? ⟨bx + 1 + 1, 0, none⟩ = some (.int .u32 0) ∧ w'.cell? ⟨bx + 1 + 1, 1, none⟩ = some (.int .u64 0) ∧ w'.cell? ⟨bx + 1 + 1, 2, none⟩ = some (.bool false) ∧ w'.cell? ⟨bx + 1 + 1, 3, none⟩ = some (.int .i64 0) ∧ w'.cell? ⟨bx + 1 + 1, 4, none⟩ = some (.int .i64 0) ∧ w'.cell? ⟨bx + 1 + 1, 5, none⟩ = some (.slice none 0 0)) (go_keep) (first
    | (go_at_call 17; refine (HC.out _ (HIH.out.below (Below.refl _ _).drew)).mono ?_; rintro e w1 ⟨rfl, sv', hI1, hF1⟩; have HI1 : Hid (IsHeap w1 hb wb n sv' f' ∧ Fr hb wb sv sv' W0 w1) := ⟨hI1, (Fr.of_below (Below.refl _ _).drew).trans hF1⟩; obtain ⟨s0, s1, s2, s3⟩ := HK.out w1 sv' HI1.out.2; obtain ⟨x0, x1, x2⟩ := three_cells s0; obtain ⟨⟨y0, y1, y2, y3, y4, y5⟩, ⟨v0, v1, v2, v3, v4, v5⟩⟩ := six_cells s1; obtain ⟨⟨a0, a1, a2, a3, a4, a5⟩, _⟩ := six_cells s2; have hs1 : bx + 1 < w1.heap.size := (by omega); clear s0 s1 s2 hI1 hF1))
  all_goals
    go_wp2
    refine bodyPost_ret (v := .tuple #[.agg #[.int .u32 0, .int .u64 0, .bool false, .int .i64 0, .int .i64 0, .slice none 0 0], ev]) (by simp [results, Tryd.results11, go_sem, y0, y1, y2, y3, y4, y5]) rfl ⟨rfl, HEND.out _ _ _ HI1.out.1 HI1.out.2 ?_⟩
    repeat first
      | with_reducible refine Only.s1 ?_
      | with_reducible refine Only.s2 ?_
      | with_reducible refine Only.drew ?_
      | with_reducible exact Only.refl _ _ _

set_option maxRecDepth 100000 in
set_option maxHeartbeats 2000000 in
theorem do_set (kind key : Int) (id : Nat) (ev : Value) (hk : kind = 2) (h : IsHeap w hb wb n sv f) (hC : ∀ wx, IsHeap wx hb wb n sv f → Calls Tryd.prog 14 #[.pointer (some ⟨hb, 0, none⟩), .int .u32 (id : Int), .int .u64 key] wx fun e w' => e = .returned (ev) ∧ ∃ sv', IsHeap w' hb wb n sv' f' ∧ Fr hb wb sv sv' wx w') :
    Calls Tryd.prog 11 #[.pointer (some ⟨hb, 0, none⟩), .agg #[.int .u8 kind, .int .u32 (id : Int), .int .u64 key]] w fun e w' => e = .returned (.tuple #[.agg #[.int .u32 0, .int .u64 0, .bool false, .int .i64 0, .int .i64 0, .slice none 0 0], ev]) ∧ ∃ sv', IsHeap w' hb wb n sv' f' ∧ Fr hb wb sv sv' w w' := by
  obtain ⟨W0, hW0⟩ : ∃ W0, ((w.alloc (.cells #[.int .u8 kind, .int .u32 (id : Int), .int .u64 key] 42)).alloc (.cells #[.int .u32 0, .int .u64 0, .bool false, .int .i64 0, .int .i64 0, .slice none 0 0] 44)).alloc (.cells #[.int .u32 0, .int .u64 0, .bool false, .int .i64 0, .int .i64 0, .slice none 0 0] 44) = W0 := ⟨_, rfl⟩
  obtain ⟨k0, k1, k2, ks, hB0⟩ := three_new w (.cells #[.int .u8 kind, .int .u32 (id : Int), .int .u64 key] 42) (.cells #[.int .u32 0, .int .u64 0, .bool false, .int .i64 0, .int .i64 0, .slice none 0 0] 44) (.cells #[.int .u32 0, .int .u64 0, .bool false, .int .i64 0, .int .i64 0, .slice none 0 0] 44)
  rw [hW0] at k0 k1 k2 ks hB0
  obtain ⟨bx, hbx⟩ : ∃ bx, w.heap.size = bx := ⟨_, rfl⟩
  obtain ⟨l1, l2, l3⟩ := h.lt
  have HEND : Hid (∀ w1 w2 sv', IsHeap w1 hb wb n sv' f' → Fr hb wb sv sv' W0 w1 → Only (bx + 1) (bx + 1 + 1) w1 w2 → ∃ sv', IsHeap w2 hb wb n sv' f' ∧ Fr hb wb sv sv' w w2) := fun w1 w2 sv' a b c => Only.heap h hB0 (by omega) (by omega) a b c
  have HK : Hid (∀ w1 sv', Fr hb wb sv sv' W0 w1 → w1.heap[bx]? = some (.cells #[.int .u8 kind, .int .u32 (id : Int), .int .u64 key] 42) ∧ w1.heap[bx + 1]? = some (.cells #[.int .u32 0, .int .u64 0, .bool false, .int .i64 0, .int .i64 0, .slice none 0 0] 44) ∧ w1.heap[bx + 1 + 1]? = some (.cells #[.int .u32 0, .int .u64 0, .bool false, .int .i64 0, .int .i64 0, .slice none 0 0] 44) ∧ bx + 1 + 1 < w1.heap.size) := fun w1 sv' hF => by
    have hne : ∀ k, bx ≤ k → some k ≠ sv.ownBlock := fun k hk e => by have := l3 k e.symm; omega
    rw [← hbx] at *
    refine ⟨(hF.block _ (by omega) (by omega) (by omega) (hne _ (by omega))).trans k0, (hF.block _ (by omega) (by omega) (by omega) (hne _ (by omega))).trans k1, (hF.block _ (by omega) (by omega) (by omega) (hne _ (by omega))).trans k2, by have := hF.size; omega⟩
  have HIH : Hid (IsHeap W0 hb wb n sv f) := h.below hB0
  have HW0 : Hid (((w.alloc (.cells #[.int .u8 kind, .int .u32 (id : Int), .int .u64 key] 42)).alloc (.cells #[.int .u32 0, .int .u64 0, .bool false, .int .i64 0, .int .i64 0, .slice none 0 0] 44)).alloc (.cells #[.int .u32 0, .int .u64 0, .bool false, .int .i64 0, .int .i64 0, .slice none 0 0] 44) = W0) := hW0
  have HBE : Hid (w.heap.size = bx) := hbx
  obtain ⟨q0, q1, q2⟩ := three_cells (HK.out W0 sv (Fr.refl _ _ _ _)).1
  have hq : bx + 1 + 1 < W0.heap.size := (HK.out W0 sv (Fr.refl _ _ _ _)).2.2.2
  have hq1 : bx + 1 < W0.heap.size := by omega
  have hq0 : bx < W0.heap.size := by omega
  have p0 : ¬ bx + 1 = bx + 1 + 1 := by omega
  have p1 : ¬ bx + 1 + 1 = bx + 1 := by omega
  have HC : Hid (∀ wx, IsHeap wx hb wb n sv f → Calls Tryd.prog 14 #[.pointer (some ⟨hb, 0, none⟩), .int .u32 (id : Int), .int .u64 key] wx fun e w' => e = .returned ev ∧ ∃ sv', IsHeap w' hb wb n sv' f' ∧ Fr hb wb sv sv' wx w') := hC
  obtain ⟨⟨z0, z1, z2, z3, z4, z5⟩, _⟩ := six_cells (HK.out W0 sv (Fr.refl _ _ _ _)).2.2.1
  subst hk
  clear h hC hW0 k0 k1 k2 ks hB0 hbx l1 l2 l3
  go_enter Tryd.func11, Tryd.ntmps11
  go_upto_region 2 with fail
  rw [HW0.out, HBE.out]
  go_wp2_with fail
  go_region_held3 (fun w' => w'.cell? ⟨bx, 1, none⟩ = some (.int .u32 (id : Int)) ∧ w'.cell? ⟨bx, 2, none⟩ = some (.int .u64 key) ∧ w'.cell? ⟨bx + 1 + 1, 0, none⟩ = some (.int .u32 0) ∧ w'.cell? ⟨bx + 1 + 1, 1, none⟩ = some (.int .u64 0) ∧ w'.cell? ⟨bx + 1 + 1, 2, none⟩ = some (.bool false) ∧ w'.cell? ⟨bx + 1 + 1, 3, none⟩ = some (.int .i64 0) ∧ w'.cell? ⟨bx + 1 + 1, 4, none⟩ = some (.int .i64 0) ∧ w'.cell? ⟨bx + 1 + 1, 5, none⟩ = some (.slice none 0 0)) (go_keep) (first
    | (go_at_call 14; refine (HC.out _ (HIH.out.below (Below.refl _ _).drew)).mono ?_; rintro e w1 ⟨rfl, sv', hI1, hF1⟩; have HI1 : Hid (IsHeap w1 hb wb n sv' f' ∧ Fr hb wb sv sv' W0 w1) := ⟨hI1, (Fr.of_below (Below.refl _ _).drew).trans hF1⟩; obtain ⟨s0, s1, s2, s3⟩ := HK.out w1 sv' HI1.out.2; obtain ⟨x0, x1, x2⟩ := three_cells s0; obtain ⟨⟨y0, y1, y2, y3, y4, y5⟩, ⟨v0, v1, v2, v3, v4, v5⟩⟩ := six_cells s1; obtain ⟨⟨a0, a1, a2, a3, a4, a5⟩, _⟩ := six_cells s2; have hs1 : bx + 1 < w1.heap.size := (by omega); clear s0 s1 s2 hI1 hF1))
  all_goals
    go_wp2
    refine bodyPost_ret (v := .tuple #[.agg #[.int .u32 0, .int .u64 0, .bool false, .int .i64 0, .int .i64 0, .slice none 0 0], ev]) (by simp [results, Tryd.results11, go_sem, y0, y1, y2, y3, y4, y5]) rfl ⟨rfl, HEND.out _ _ _ HI1.out.1 HI1.out.2 ?_⟩
    repeat first
      | with_reducible refine Only.s1 ?_
      | with_reducible refine Only.s2 ?_
      | with_reducible refine Only.drew ?_
      | with_reducible exact Only.refl _ _ _
end
end Go.Proofs.YtkeniogcjhmikaaDoor
