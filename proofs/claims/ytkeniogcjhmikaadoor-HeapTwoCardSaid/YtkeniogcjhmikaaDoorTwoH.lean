/- The law HeapTwo, walked: two heaps know nothing of one another; what was cleared is as new. -/
import Derived.Test.YtkeniogcjhmikaaDoorPlays
namespace Go.Proofs.YtkeniogcjhmikaaDoor
open Go.RowKit

attribute [local go_sem] Oper.semAt_some

/-- a call at a heap: some answer. -/
theorem do_any {hb wb n : Nat} {sv : Value} {f : Int → Option Int} {w : World} (h : IsHeap w hb wb n sv f) (hn : n ≤ 65536) (kind key : Int) (id : Nat) (hid : id ≤ 4294967295) : Calls Tryd.prog 11 #[.pointer (some ⟨hb, 0, none⟩), .agg #[.int .u8 kind, .int .u32 (id : Int), .int .u64 key]] w fun e w' => (∃ v, e = .returned v) ∧ ∃ sv' f', IsHeap w' hb wb n sv' f' ∧ Fr hb wb sv sv' w w' := by
  obtain ⟨f', ls', bs', a, b, l, code, c, ev, hB⟩ := both_exists (kb := 0) (ib := 0) (ls := (List.range n).map fun d : Nat => (f (d : Int)).getD 0) (bs := (List.range n).map fun d : Nat => (f (d : Int)).isSome) h hn (by simp) (by simp) (fun d hd => by
    simp only [List.getElem?_map, List.getElem?_range hd, Option.map_some, Option.some.injEq]
    constructor
    · intro hs
      obtain ⟨k, hk⟩ := Option.isSome_iff_exists.1 hs
      exact ⟨k, by rw [hk]; rfl, hk⟩
    · intro hs
      cases hf : f (d : Int) with
      | none => rfl
      | some k => rw [hf] at hs; cases hs) kind key id hid
  refine (hB.prog w sv h).mono ?_
  rintro e w' ⟨he, sv', h1, h2⟩
  exact ⟨⟨_, he⟩, sv', f', h1, h2⟩

/-- a second heap beside the first one and the reference's lists. -/
structure TI (w wr : World) (hb wb kb ib mb n : Nat) (sv : Value) (f : Int → Option Int) (ls : List Int) (bs : List Bool) (hc wc : Nat) (tv : Value) (g : Int → Option Int) : Prop where
  pi : PI w wr hb wb kb ib mb n sv f ls bs
  heap2 : IsHeap wr hc wc n tv g
  dh : (hc ≠ hb ∧ hc ≠ wb ∧ hc ≠ kb ∧ hc ≠ ib ∧ hc ≠ mb) ∧ some hc ≠ sv.ownBlock
  dw : (wc ≠ hb ∧ wc ≠ wb ∧ wc ≠ kb ∧ wc ≠ ib ∧ wc ≠ mb) ∧ some wc ≠ sv.ownBlock
  dt : ∀ k, tv.ownBlock = some k → (k ≠ hb ∧ k ≠ wb ∧ k ≠ kb ∧ k ≠ ib ∧ k ≠ mb) ∧ some k ≠ sv.ownBlock
  base2 : w.heap.size ≤ hc ∧ w.heap.size ≤ wc ∧ ∀ k, tv.ownBlock = some k → w.heap.size ≤ k
section
variable {w wr : World} {hb wb kb ib mb n hc wc : Nat} {sv tv : Value} {f g : Int → Option Int} {ls : List Int} {bs : List Bool}
theorem TI.opA {w' : World} {sv' : Value} {f' : Int → Option Int} (h : TI w wr hb wb kb ib mb n sv f ls bs hc wc tv g) (h' : IsHeap w' hb wb n sv' f') (hf : Fr hb wb sv sv' wr w') : TI w w' hb wb kb ib mb n sv' f' ls bs hc wc tv g := by
  obtain ⟨l1, l2, l3⟩ := h.heap2.lt
  refine ⟨h.pi.op h' hf, h.heap2.keep (fun k hk hkk => hf.block k hk ?_ ?_ ?_), ⟨h.dh.1, fun e => h.dh.2 (hf.own hc l1 e.symm).symm⟩, ⟨h.dw.1, fun e => h.dw.2 (hf.own wc l2 e.symm).symm⟩, fun k hk => ⟨(h.dt k hk).1, fun e => (h.dt k hk).2 (hf.own k (l3 k hk) e.symm).symm⟩, h.base2⟩
  · rcases hkk with rfl | rfl | hkk
    · exact h.dh.1.1
    · exact h.dw.1.1
    · exact (h.dt k hkk).1.1
  · rcases hkk with rfl | rfl | hkk
    · exact h.dh.1.2.1
    · exact h.dw.1.2.1
    · exact (h.dt k hkk).1.2.1
  · rcases hkk with rfl | rfl | hkk
    · exact h.dh.2
    · exact h.dw.2
    · exact (h.dt k hkk).2
theorem TI.opB {w' : World} {tv' : Value} {g' : Int → Option Int} (h : TI w wr hb wb kb ib mb n sv f ls bs hc wc tv g) (h' : IsHeap w' hc wc n tv' g') (hf : Fr hc wc tv tv' wr w') : TI w w' hb wb kb ib mb n sv f ls bs hc wc tv' g' := by
  obtain ⟨l1, l2, l3⟩ := h.pi.heap.lt
  have q1 := lt_of_get h.pi.rm.krow
  have q2 := lt_of_get h.pi.rm.irow
  have q3 := lt_of_get h.pi.mv
  have keep : ∀ k, k < wr.heap.size → k ≠ hc → k ≠ wc → (∀ j, tv.ownBlock = some j → k ≠ j) → w'.heap[k]? = wr.heap[k]? := fun k hk a b c => hf.block k hk a b (fun e => c k e.symm rfl)
  have hk' := keep kb q1 (Ne.symm h.dh.1.2.2.1) (Ne.symm h.dw.1.2.2.1) (fun j hj => Ne.symm (h.dt j hj).1.2.2.1)
  have hi' := keep ib q2 (Ne.symm h.dh.1.2.2.2.1) (Ne.symm h.dw.1.2.2.2.1) (fun j hj => Ne.symm (h.dt j hj).1.2.2.2.1)
  have hm' := keep mb q3 (Ne.symm h.dh.1.2.2.2.2) (Ne.symm h.dw.1.2.2.2.2) (fun j hj => Ne.symm (h.dt j hj).1.2.2.2.2)
  refine ⟨⟨h.pi.heap.keep (fun k hk hkk => ?_), h.pi.rm.keep hk' hi', hm'.trans h.pi.mv, h.pi.nk, h.pi.ni, h.pi.nm, h.pi.base, h.pi.below.trans (hf.below h.pi.below.size h.base2.1 h.base2.2.1 h.base2.2.2)⟩, h', h.dh, h.dw, fun k hk => ?_, ⟨h.base2.1, h.base2.2.1, fun k hk => ?_⟩⟩
  · rcases hkk with rfl | rfl | hkk
    · exact keep k hk (Ne.symm h.dh.1.1) (Ne.symm h.dw.1.1) (fun j hj => Ne.symm (h.dt j hj).1.1)
    · exact keep k hk (Ne.symm h.dh.1.2.1) (Ne.symm h.dw.1.2.1) (fun j hj => Ne.symm (h.dt j hj).1.2.1)
    · exact keep k hk (fun e => h.dh.2 (by rw [← e]; exact hkk.symm)) (fun e => h.dw.2 (by rw [← e]; exact hkk.symm)) (fun j hj e => (h.dt j hj).2 (by rw [← e]; exact hkk.symm))
  · rcases Nat.lt_or_ge k wr.heap.size with hlt | hge
    · exact h.dt k (hf.own k hlt hk)
    · exact ⟨⟨by omega, by omega, by omega, by omega, by omega⟩, fun e => by have := l3 k e.symm; omega⟩
  · rcases Nat.lt_or_ge k wr.heap.size with hlt | hge
    · exact h.base2.2.2 k (hf.own k hlt hk)
    · exact Nat.le_trans h.pi.below.size hge
theorem TI.later {w' : World} (h : TI w wr hb wb kb ib mb n sv f ls bs hc wc tv g) (hb' : Below wr.heap.size wr w') : TI w w' hb wb kb ib mb n sv f ls bs hc wc tv g := h.opA (h.pi.heap.below hb') (Fr.of_below hb')
theorem TI.rs {w' : World} {ls' : List Int} {bs' : List Bool} (h : TI w wr hb wb kb ib mb n sv f ls bs hc wc tv g) (hr : RS kb ib n wr ls' bs' w') : TI w w' hb wb kb ib mb n sv f ls' bs' hc wc tv g := by
  refine ⟨h.pi.rs hr, h.heap2.keep (fun k hk hkk => hr.block k hk ?_ ?_), h.dh, h.dw, h.dt, h.base2⟩
  · rcases hkk with rfl | rfl | hkk
    · exact h.dh.1.2.2.1
    · exact h.dw.1.2.2.1
    · exact (h.dt k hkk).1.2.2.1
  · rcases hkk with rfl | rfl | hkk
    · exact h.dh.1.2.2.2.1
    · exact h.dw.1.2.2.2.1
    · exact (h.dt k hkk).1.2.2.2.1
theorem rcell {w4 : World} {ls' : List Int} {bs' : List Bool} (hr : RS kb ib n wr ls' bs' w4) : (∀ b o, b < wr.heap.size → b ≠ kb → b ≠ ib → w4.cell? ⟨b, o, none⟩ = wr.cell? ⟨b, o, none⟩) ∧ (∀ b o, b < wr.heap.size → b ≠ kb → b ≠ ib → w4.frozen? ⟨b, o, none⟩ = wr.frozen? ⟨b, o, none⟩) :=
  ⟨fun b _ h1 h2 h3 => World.cell?_of_block (hr.block b h1 h2 h3), fun b _ h1 h2 h3 => World.frozen?_of_block (hr.block b h1 h2 h3)⟩
end
/-- six cells are laid in a block. -/
theorem six_laid {w : World} {b : Nat} {c0 c1 c2 c3 c4 c5 : Value} {T : TypeId} (h : w.heap[b]? = some (.cells #[c0, c1, c2, c3, c4, c5] T)) (d0 d1 d2 d3 d4 d5 : Value) : ((((((w.setCell ⟨b, 0, none⟩ d0).setCell ⟨b, 1, none⟩ d1).setCell ⟨b, 2, none⟩ d2).setCell ⟨b, 3, none⟩ d3).setCell ⟨b, 4, none⟩ d4).setCell ⟨b, 5, none⟩ d5).heap[b]? = some (.cells #[d0, d1, d2, d3, d4, d5] T) := by
  rw [heap_setCell_same _ (heap_setCell_same _ (heap_setCell_same _ (heap_setCell_same _ (heap_setCell_same _ (heap_setCell_same _ h)))))]
  rfl
theorem six_below {w : World} {b : Nat} (d0 d1 d2 d3 d4 d5 : Value) : Only b b w ((((((w.setCell ⟨b, 0, none⟩ d0).setCell ⟨b, 1, none⟩ d1).setCell ⟨b, 2, none⟩ d2).setCell ⟨b, 3, none⟩ d3).setCell ⟨b, 4, none⟩ d4).setCell ⟨b, 5, none⟩ d5) := (Only.refl b b w).s1.s1.s1.s1.s1.s1
/-- a block of another's turns: both heaps stand. -/
theorem TI.only {w wr w' : World} {hb wb kb ib mb n hc wc b : Nat} {sv tv : Value} {f g : Int → Option Int} {ls : List Int} {bs : List Bool} (h : TI w wr hb wb kb ib mb n sv f ls bs hc wc tv g) (ho : Only b b wr w') (hb0 : w.heap.size ≤ b) (hn : (b ≠ hb ∧ b ≠ wb ∧ b ≠ kb ∧ b ≠ ib ∧ b ≠ mb ∧ b ≠ hc ∧ b ≠ wc) ∧ some b ≠ sv.ownBlock ∧ some b ≠ tv.ownBlock) : TI w w' hb wb kb ib mb n sv f ls bs hc wc tv g := by
  have keep : ∀ k, k ≠ b → w'.heap[k]? = wr.heap[k]? := fun k hk => ho.block k hk hk
  refine ⟨⟨h.pi.heap.keep (fun k _ hkk => keep k ?_), h.pi.rm.keep (keep _ (by omega)) (keep _ (by omega)), (keep mb (by omega)).trans h.pi.mv, h.pi.nk, h.pi.ni, h.pi.nm, h.pi.base, h.pi.below.trans ⟨ho.os, ho.tape, ho.output, by rw [ho.size]; exact Nat.le_refl _, fun k hk => keep k (by omega)⟩⟩, h.heap2.keep (fun k _ hkk => keep k ?_), h.dh, h.dw, h.dt, h.base2⟩
  · rcases hkk with rfl | rfl | hkk
    · omega
    · omega
    · exact fun e => hn.2.1 (by rw [← e]; exact hkk.symm)
  · rcases hkk with rfl | rfl | hkk
    · omega
    · omega
    · exact fun e => hn.2.2 (by rw [← e]; exact hkk.symm)

set_option maxRecDepth 100000 in
set_option maxHeartbeats 2000000 in
theorem two_far (n : Int) (hn : n < 0 ∨ 200 < n) (u v : Value) (w : World) : Calls Tryd.prog 4 #[.int .i64 n, u, v] w fun e w' => e = .returned (.bool true) ∧ Below w.heap.size w w' := by
  have HAW : Hid (type_of% (awake_calls w)) := awake_calls w
  rcases (show n < 0 ∨ (¬ n < 0 ∧ 200 < n) by omega) with h | ⟨h, h2⟩
  all_goals
    go_enter Tryd.func4, Tryd.ntmps4
    go_wp2_with fail
    refine HAW.out.mono ?_
    rintro e w1 ⟨rfl, hb1⟩
    have BW1 : Hid (Below w.heap.size w w1) := hb1
    clear hb1
    go_wp2
    go_ret
    exact ⟨rfl, BW1.out⟩
end Go.Proofs.YtkeniogcjhmikaaDoor
