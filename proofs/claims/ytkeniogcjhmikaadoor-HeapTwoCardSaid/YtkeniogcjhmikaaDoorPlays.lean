/- The law HeapPlays, walked: whatever calls are made, each is answered as by the reference's lists. -/
import Derived.Test.YtkeniogcjhmikaaDoorPair
namespace Go.Proofs.YtkeniogcjhmikaaDoor
open Go.RowKit

attribute [local go_sem] Oper.semAt_some

/-- calls in memory: a kind, an id, a key. -/
def HasOps (w : World) (v : Value) (xs : List (Int × Nat × Int)) : Prop := ∃ ao cap, v = .slice ao xs.length cap ∧ ∀ j x, xs[j]? = some x → x.2.1 ≤ 4294967295 ∧ ∃ b off, ao = some ⟨b, off, none⟩ ∧ b < w.heap.size ∧ w.cell? ⟨b, off + j * 3, none⟩ = some (.int .u8 x.1) ∧ w.cell? ⟨b, off + j * 3 + 1, none⟩ = some (.int .u32 (x.2.1 : Int)) ∧ w.cell? ⟨b, off + j * 3 + 2, none⟩ = some (.int .u64 x.2.2)
theorem HasOps.at {w : World} {ao : Option Addr} {m cap : Nat} {xs : List (Int × Nat × Int)} (h : HasOps w (.slice ao m cap) xs) {j : Nat} {x : Int × Nat × Int} (hj : xs[j]? = some x) : x.2.1 ≤ 4294967295 ∧ ∃ b off, ao = some ⟨b, off, none⟩ ∧ b < w.heap.size ∧ w.cell? ⟨b, off + j * 3, none⟩ = some (.int .u8 x.1) ∧ w.cell? ⟨b, off + j * 3 + 1, none⟩ = some (.int .u32 (x.2.1 : Int)) ∧ w.cell? ⟨b, off + j * 3 + 2, none⟩ = some (.int .u64 x.2.2) := by
  obtain ⟨ao', cap', e, hc⟩ := h
  injection e with e1 e2 e3
  subst e1
  exact hc j x hj

/-- the program's heap, the reference's lists, and the variable that holds them. -/
structure PI (w wr : World) (hb wb kb ib mb n : Nat) (sv : Value) (f : Int → Option Int) (ls : List Int) (bs : List Bool) : Prop where
  heap : IsHeap wr hb wb n sv f
  rm : RM wr kb ib n ls bs
  mv : wr.heap[mb]? = some (.cells #[.slice (some ⟨kb, 0, none⟩) n n, .slice (some ⟨ib, 0, none⟩) n n] 32)
  nk : kb ≠ hb ∧ kb ≠ wb ∧ some kb ≠ sv.ownBlock
  ni : ib ≠ hb ∧ ib ≠ wb ∧ some ib ≠ sv.ownBlock
  nm : mb ≠ hb ∧ mb ≠ wb ∧ some mb ≠ sv.ownBlock ∧ mb ≠ kb ∧ mb ≠ ib
  base : w.heap.size ≤ hb ∧ w.heap.size ≤ wb ∧ w.heap.size ≤ kb ∧ w.heap.size ≤ ib ∧ ∀ k, sv.ownBlock = some k → w.heap.size ≤ k
  below : Below w.heap.size w wr
section
variable {w wr : World} {hb wb kb ib mb n : Nat} {sv : Value} {f : Int → Option Int} {ls : List Int} {bs : List Bool}
theorem PI.op {w' : World} {sv' : Value} {f' : Int → Option Int} (h : PI w wr hb wb kb ib mb n sv f ls bs) (h' : IsHeap w' hb wb n sv' f') (hf : Fr hb wb sv sv' wr w') : PI w w' hb wb kb ib mb n sv' f' ls bs := by
  have l1 := lt_of_get h.rm.krow
  have l2 := lt_of_get h.rm.irow
  have l3 := lt_of_get h.mv
  refine ⟨h', h.rm.keep (hf.block kb l1 h.nk.1 h.nk.2.1 h.nk.2.2) (hf.block ib l2 h.ni.1 h.ni.2.1 h.ni.2.2), (hf.block mb l3 h.nm.1 h.nm.2.1 h.nm.2.2.1).trans h.mv, ⟨h.nk.1, h.nk.2.1, fun e => h.nk.2.2 (hf.own kb l1 e.symm).symm⟩, ⟨h.ni.1, h.ni.2.1, fun e => h.ni.2.2 (hf.own ib l2 e.symm).symm⟩, ⟨h.nm.1, h.nm.2.1, fun e => h.nm.2.2.1 (hf.own mb l3 e.symm).symm, h.nm.2.2.2⟩, ⟨h.base.1, h.base.2.1, h.base.2.2.1, h.base.2.2.2.1, fun k e => ?_⟩, h.below.trans (hf.below h.below.size h.base.1 h.base.2.1 h.base.2.2.2.2)⟩
  rcases Nat.lt_or_ge k wr.heap.size with hk | hk
  · exact h.base.2.2.2.2 k (hf.own k hk e)
  · exact Nat.le_trans h.below.size hk
theorem PI.later {w' : World} (h : PI w wr hb wb kb ib mb n sv f ls bs) (hb' : Below wr.heap.size wr w') : PI w w' hb wb kb ib mb n sv f ls bs := h.op (h.heap.below hb') (Fr.of_below hb')
theorem PI.rs {w' : World} {ls' : List Int} {bs' : List Bool} (h : PI w wr hb wb kb ib mb n sv f ls bs) (hr : RS kb ib n wr ls' bs' w') : PI w w' hb wb kb ib mb n sv f ls' bs' := by
  refine ⟨h.heap.keep (fun k hk hkk => hr.block k hk ?_ ?_), hr.rm, (hr.block mb (lt_of_get h.mv) h.nm.2.2.2.1 h.nm.2.2.2.2).trans h.mv, h.nk, h.ni, h.nm, h.base, ?_⟩
  · rcases hkk with rfl | rfl | hkk
    · exact Ne.symm h.nk.1
    · exact Ne.symm h.nk.2.1
    · exact fun e => h.nk.2.2 (by rw [← e]; exact hkk.symm)
  · rcases hkk with rfl | rfl | hkk
    · exact Ne.symm h.ni.1
    · exact Ne.symm h.ni.2.1
    · exact fun e => h.ni.2.2 (by rw [← e]; exact hkk.symm)
  · exact h.below.trans ⟨hr.os, hr.tape, hr.output, hr.size, fun k hk => hr.block k (by have := h.below.size; omega) (by have := h.base.2.2.1; omega) (by have := h.base.2.2.2.1; omega)⟩
end
theorem Tryd.elem22 : Tryd.prog.underlying 22 = some (.slice (Tryd.prog.elem 22)) := by kernel_rfl
theorem Tryd.size22 (w : World) : (sizeOf (Tryd.prog.elem 22)).run Tryd.prog w = .ok 3 w := by kernel_rfl
/-- 'script[:200]'. -/
theorem slice_some (w : World) (b off m cap : Nat) (h : 200 ≤ cap) : (Instr.slice 22 (.slice (some ⟨b, off, none⟩) m cap) none (some (.int .i64 200)) none).run Tryd.prog w = .ok (.slice (some ⟨b, off, none⟩) 200 cap) w := by
  rw [run_slice_h (ht := Tryd.elem22) (h0 := by omega) (h2 := by omega), Tryd.size22]
  have e2 : (200 : Int).toNat = 200 := rfl
  simp only [Result.andThen_ok, sliced, e2]
  rw [if_neg (by omega)]
  simp [Addr.add]
/-- an error that the program answers, seen. -/
theorem seenB {code : Int} {ev : Value} (h : (code = 0 ∧ ev = .nilIface) ∨ (code = 7 ∧ ev = .iface 55 (.int .i64 7))) (w : World) (hg : HasType w) : Calls Tryd.prog 9 #[ev, .agg #[.int .i64 code, .slice none 0 0]] w fun r w' => r = .returned (.bool true) ∧ Below w.heap.size w w' := by
  rcases h with ⟨rfl, rfl⟩ | ⟨rfl, rfl⟩
  · exact seen_none none 0 w
  · exact seenE 7 (by omega) w hg
theorem badP (C : Int) (hC : C ≠ 0) (w : World) : Calls Tryd.prog 10 #[.agg #[.int .i64 C, .slice none 0 0]] w fun e w' => e = .returned (.bool true) ∧ Below w.heap.size w w' := by
  have h := bad_calls C none 0 0 w
  have e : (C != 0 || decide (0 < 0)) = true := by simp [hC]
  rw [e] at h
  exact h
theorem badN (w : World) : Calls Tryd.prog 10 #[.agg #[.int .i64 0, .slice none 0 0]] w fun e w' => e = .returned (.bool false) ∧ Below w.heap.size w w' := bad_calls 0 none 0 0 w
theorem two_new (w : World) (o1 o2 : Obj) : ((w.alloc o1).alloc o2).heap[w.heap.size]? = some o1 ∧ ((w.alloc o1).alloc o2).heap[w.heap.size + 1]? = some o2 ∧ Below w.heap.size w ((w.alloc o1).alloc o2) := by
  have e1 : (w.alloc o1).heap.size = w.heap.size + 1 := by simp
  refine ⟨?_, ?_, ((Below.refl _ w).alloc (Nat.le_refl _) _).alloc (by simp) _⟩
  · rw [Below.heap_alloc _ _ _ (by simp)]; exact heap_new _ _
  · rw [← e1]; exact heap_new _ _

set_option maxRecDepth 100000 in
set_option maxHeartbeats 2000000 in
theorem plays_bad (n : Int) (hn : n < 0 ∨ 65536 < n) (v : Value) (w : World) (hg : HasType w) : Calls Tryd.prog 3 #[.int .i64 n, v] w fun e w' => e = .returned (.bool true) ∧ Below w.heap.size w w' := by
  have HG : Hid (∀ wx, Below w.heap.size w wx → HasType wx) := fun wx h => hg.keep h hg.pos
  have HAW : Hid (type_of% (awake_calls w)) := awake_calls w
  have HN : Hid (∀ wx, type_of% (new_bad n hn wx)) := fun wx => new_bad n hn wx
  have HD : Hid (∀ wx, type_of% (docNew_bad n hn wx)) := fun wx => docNew_bad n hn wx
  have HSE : Hid (∀ wx, Below w.heap.size w wx → Calls Tryd.prog 9 #[.iface 55 (.int .i64 1), .agg #[.int .i64 1, .slice none 0 0]] wx fun r w' => r = .returned (.bool true) ∧ Below wx.heap.size wx w') := fun wx h => seenE 1 (by omega) wx (HG.out wx h)
  have HBP : Hid (∀ wx, Calls Tryd.prog 10 #[.agg #[.int .i64 1, .slice none 0 0]] wx fun e w' => e = .returned (.bool true) ∧ Below wx.heap.size wx w') := fun wx => badP 1 (by omega) wx
  clear hg hn
  go_enter Tryd.func3, Tryd.ntmps3
  go_wp2_with fail
  refine HAW.out.mono ?_
  rintro e w1 ⟨rfl, hb1⟩
  have BW1 : Hid (Below w.heap.size w w1) := hb1
  clear hb1
  go_wp2_with fail
  refine (HN.out _).mono ?_
  rintro e w1' ⟨rfl, hw1⟩
  subst hw1
  go_wp2_with fail
  refine (HD.out _).mono ?_
  rintro e w2 ⟨rfl, hb2⟩
  have BW2 : Hid (Below w.heap.size w w2) := BW1.out.trans (hb2.mono BW1.out.size)
  clear hb2
  obtain ⟨W4, hW4⟩ : ∃ W4, (w2.alloc (.cells #[.slice none 0 0, .slice none 0 0] 32)).alloc (.cells #[.int .i64 1, .slice none 0 0] 35) = W4 := ⟨_, rfl⟩
  obtain ⟨k0, k1, hB4⟩ := two_new w2 (.cells #[.slice none 0 0, .slice none 0 0] 32) (.cells #[.int .i64 1, .slice none 0 0] 35)
  rw [hW4] at k0 k1 hB4
  obtain ⟨mb, hmb⟩ : ∃ mb, w2.heap.size = mb := ⟨_, rfl⟩
  rw [hmb] at k0 k1
  have HW4 : Hid ((w2.alloc (.cells #[.slice none 0 0, .slice none 0 0] 32)).alloc (.cells #[.int .i64 1, .slice none 0 0] 35) = W4) := hW4
  have HMB : Hid (w2.heap.size = mb) := hmb
  have BW4 : Hid (Below w.heap.size w W4) := BW2.out.trans (hB4.mono BW2.out.size)
  have HF : Hid (∀ wx, Below W4.heap.size W4 wx → wx.cell? ⟨mb + 1, 0, none⟩ = some (.int .i64 1) ∧ wx.cell? ⟨mb + 1, 1, none⟩ = some (.slice none 0 0) ∧ mb + 1 < wx.heap.size) := fun wx h => by
    have g := (h.block _ (lt_of_get k1)).trans k1
    exact ⟨(pair_cells g).1, (pair_cells g).2, lt_of_get g⟩
  obtain ⟨f0, f1, fs⟩ := HF.out W4 (Below.refl _ _)
  clear k0 k1 hB4 hW4 hmb
  go_upto_region 5 with fail
  rw [HW4.out, HMB.out]
  go_wp2_with fail
  refine (HSE.out _ BW4.out).mono ?_
  rintro e w5 ⟨rfl, hb5⟩
  have BW5 : Hid (Below w.heap.size w w5 ∧ Below W4.heap.size W4 w5) := ⟨BW4.out.trans (hb5.mono BW4.out.size), hb5⟩
  clear f0 f1 fs
  obtain ⟨f0, f1, fs⟩ := HF.out w5 hb5
  clear hb5
  go_wp2_with fail
  refine (HBP.out _).mono ?_
  rintro e w6 ⟨rfl, hb6⟩
  have BW6 : Hid (Below w.heap.size w w6 ∧ Below W4.heap.size W4 w6) := ⟨BW5.out.1.trans (hb6.mono BW5.out.1.size), BW5.out.2.trans (hb6.mono BW5.out.2.size)⟩
  clear f0 f1 fs hb6
  obtain ⟨f0, f1, fs⟩ := HF.out w6 BW6.out.2
  go_wp2_with fail
  refine (HBP.out _).mono ?_
  rintro e w7 ⟨rfl, hb7⟩
  have BW7 : Hid (Below w.heap.size w w7) := BW6.out.1.trans (hb7.mono BW6.out.1.size)
  clear hb7
  go_wp2
  go_ret
  exact ⟨rfl, BW7.out⟩

set_option maxRecDepth 100000 in
set_option maxHeartbeats 8000000 in
theorem plays_all (n : Nat) (hn : n ≤ 65536) (so : Option Addr) (m sc : Nat) (L : List (Int × Nat × Int)) (w : World) (hg : HasType w) (hlen : L.length = m) (hm : m ≤ maxLen) (ho : HasOps w (.slice so m sc) L) (hc : (n : Int) ≤ 200 ∨ (m : Int) ≤ 200) : Calls Tryd.prog 3 #[.int .i64 n, .slice so m sc] w fun e w' => e = .returned (.bool true) ∧ Below w.heap.size w w' := by
  have HO : Hid (HasOps w (.slice so m sc) L) := ho
  have HLL : Hid (L.length = m) := hlen
  unfold maxLen at hm
  clear ho hlen
  have hcond : ¬ (200 : Int) < (n : Int) ∨ ((200 : Int) < (n : Int) ∧ ¬ (200 : Int) < (m : Int)) := by omega
  clear hc
  rcases hcond with hcond | ⟨hcond, hcond2⟩
  all_goals
    have HG : Hid (∀ wx, Below w.heap.size w wx → HasType wx) := fun wx h => hg.keep h hg.pos
    have HAW : Hid (type_of% (awake_calls w)) := awake_calls w
    have HN : Hid (∀ wx, type_of% (new_calls n hn wx)) := fun wx => new_calls n hn wx
    have HD : Hid (∀ wx, type_of% (docNew_calls n hn wx)) := fun wx => docNew_calls n hn wx
    have HS0 : Hid (∀ wx, Calls Tryd.prog 9 #[.nilIface, .agg #[.int .i64 0, .slice none 0 0]] wx fun r w' => r = .returned (.bool true) ∧ Below wx.heap.size wx w') := fun wx => seen_none none 0 wx
    have HBN : Hid (∀ wx, type_of% (badN wx)) := fun wx => badN wx
    clear hg
    go_enter Tryd.func3, Tryd.ntmps3
    go_wp2_with fail
    refine HAW.out.mono ?_
    rintro e w1 ⟨rfl, hb1⟩
    have BW1 : Hid (Below w.heap.size w w1) := hb1
    clear hb1
    go_wp2_with fail
    refine (HN.out _).mono ?_
    rintro e w2 ⟨rfl, hI2, hb2⟩
    obtain ⟨wb, hwb⟩ : ∃ wb, w1.heap.size = wb := ⟨_, rfl⟩
    rw [hwb] at hI2
    rw [hwb]
    have I2 : Hid (IsHeap w2 (wb + 1) wb n (.slice none 0 0) (fun _ => none) ∧ w.heap.size ≤ wb) := ⟨hI2, by rw [← hwb]; exact BW1.out.size⟩
    have BW2 : Hid (Below w.heap.size w w2) := BW1.out.trans (hb2.mono BW1.out.size)
    clear hI2 hb2 hwb
    go_wp2_with fail
    refine (HD.out _).mono ?_
    rintro e w3 ⟨kb, ib, rfl, hRM, hkb, hib, hb3⟩
    obtain ⟨mb, hmb⟩ : ∃ mb, w3.heap.size = mb := ⟨_, rfl⟩
    obtain ⟨W4, hW4⟩ : ∃ W4, (w3.alloc (.cells #[.slice (some ⟨kb, 0, none⟩) n n, .slice (some ⟨ib, 0, none⟩) n n] 32)).alloc (.cells #[.int .i64 0, .slice none 0 0] 35) = W4 := ⟨_, rfl⟩
    obtain ⟨k0, k1, hB4⟩ := two_new w3 (.cells #[.slice (some ⟨kb, 0, none⟩) n n, .slice (some ⟨ib, 0, none⟩) n n] 32) (.cells #[.int .i64 0, .slice none 0 0] 35)
    rw [hW4] at k0 k1 hB4
    rw [hmb] at k0 k1
    have HPI : Hid (∀ wx, Below W4.heap.size W4 wx → PI w wx (wb + 1) wb kb ib mb n (.slice none 0 0) (fun _ => none) (List.replicate n 0) (List.replicate n false)) := by
      have hl := I2.out.1.lt
      have hs2 := BW2.out.size
      have hkl := lt_of_get hRM.krow
      have hil := lt_of_get hRM.irow
      have hw := I2.out.2
      have h4 : PI w W4 (wb + 1) wb kb ib mb n (.slice none 0 0) (fun _ => none) (List.replicate n 0) (List.replicate n false) := by
        refine ⟨(I2.out.1.below hb3).below hB4, hRM.below hB4, k0, ⟨by omega, by omega, fun e => by cases e⟩, ⟨by omega, by omega, fun e => by cases e⟩, ⟨by have := hb3.size; omega, by have := hb3.size; omega, fun e => (by cases e), by omega, by omega⟩, ⟨by omega, by omega, by omega, by omega, fun k e => by cases e⟩, ?_⟩
        exact (BW2.out.trans (hb3.mono hs2)).trans (hB4.mono (by have := hb3.size; omega))
      exact fun wx h => h4.later h
    have HW4 : Hid ((w3.alloc (.cells #[.slice (some ⟨kb, 0, none⟩) n n, .slice (some ⟨ib, 0, none⟩) n n] 32)).alloc (.cells #[.int .i64 0, .slice none 0 0] 35) = W4) := hW4
    have HMB : Hid (w3.heap.size = mb) := hmb
    have HF : Hid (∀ wx, Below W4.heap.size W4 wx → wx.cell? ⟨mb + 1, 0, none⟩ = some (.int .i64 0) ∧ wx.cell? ⟨mb + 1, 1, none⟩ = some (.slice none 0 0) ∧ mb + 1 < wx.heap.size) := fun wx h => by
      have g := (h.block _ (lt_of_get k1)).trans k1
      exact ⟨(pair_cells g).1, (pair_cells g).2, lt_of_get g⟩
    obtain ⟨f0, f1, fs⟩ := HF.out W4 (Below.refl _ _)
    clear k0 k1 hB4 hW4 hmb hRM hkb hib hb3
    go_upto_region 5 with fail
    rw [HW4.out, HMB.out]
    go_wp2_with fail
    refine (HS0.out _).mono ?_
    rintro e w5 ⟨rfl, hb5⟩
    have B5 : Hid (Below W4.heap.size W4 w5) := hb5
    clear f0 f1 fs
    obtain ⟨f0, f1, fs⟩ := HF.out w5 hb5
    clear hb5
    go_wp2_with fail
    refine (HBN.out _).mono ?_
    rintro e w6 ⟨rfl, hb6⟩
    have B6 : Hid (Below W4.heap.size W4 w6) := B5.out.trans (hb6.mono B5.out.size)
    clear f0 f1 fs hb6
    obtain ⟨f0, f1, fs⟩ := HF.out w6 B6.out
    go_wp2_with fail
    refine (HBN.out _).mono ?_
    rintro e w7 ⟨rfl, hb7⟩
    have B7 : Hid (Below W4.heap.size W4 w7) := B6.out.trans (hb7.mono B6.out.size)
    clear f0 f1 fs hb7
    go_wp2_with fail
    go_loopw [50] (fun iv wr => ∃ (k : Nat) (sv : Value) (f : Int → Option Int) (ls : List Int) (bs : List Bool), k ≤ m ∧ iv = .int .i64 k ∧ PI w wr (wb + 1) wb kb ib mb n sv f ls bs ∧ Rel n f ls bs) (fun iv _ => m - (intOf iv).toNat)
    case atStart => exact ⟨0, _, _, _, _, Nat.zero_le _, rfl, HPI.out _ B7.out, Rel.new _ _⟩
    case round =>
      obtain ⟨k, sv, f, ls, bs, hk, rfl, hP, hR⟩ := hrel
      have HP : Hid (PI w wr (wb + 1) wb kb ib mb n sv f ls bs) := hP
      by_cases hlt : k < m
      · obtain ⟨x, hx⟩ : ∃ x, L[k]? = some x := ⟨L[k]'(by have := HLL.out; omega), List.getElem?_eq_getElem _⟩
        obtain ⟨hid, b, off, hso, hbl, r0, r1, r2⟩ := HO.out.at hx
        obtain ⟨kind, id, key⟩ := x
        simp only at hid r0 r1 r2
        cases hso
        obtain ⟨f', ls', bs', a, bb, l, code, c, ev, hBoth⟩ := both_exists (kb := kb) (ib := ib) hP.heap hn hP.rm.ll hP.rm.il hR kind key id hid
        have HBO : Hid (Both (wb + 1) wb n kb ib f f' ls ls' bs bs' kind key id a bb l code c ev) := hBoth
        have a0 := (hP.below.cell (p := ⟨b, off + k * 3, none⟩) hbl).trans r0
        have a1 := (hP.below.cell (p := ⟨b, off + k * 3 + 1, none⟩) hbl).trans r1
        have a2 := (hP.below.cell (p := ⟨b, off + k * 3 + 2, none⟩) hbl).trans r2
        have hbl' : b < wr.heap.size := by have := hP.below.size; omega
        obtain ⟨bx, hbx⟩ : ∃ bx, wr.heap.size = bx := ⟨_, rfl⟩
        obtain ⟨W1, hW1⟩ : ∃ W1, wr.alloc (.cells #[.int .u8 kind, .int .u32 (id : Int), .int .u64 key] 42) = W1 := ⟨_, rfl⟩
        have hB1 : Below wr.heap.size wr W1 := by rw [← hW1]; exact (Below.refl _ _).alloc (Nat.le_refl _) _
        have hx1 : W1.heap[bx]? = some (.cells #[.int .u8 kind, .int .u32 (id : Int), .int .u64 key] 42) := by rw [← hW1, ← hbx]; exact heap_new _ _
        have hP1 := hP.later hB1
        have HP1 : Hid (PI w W1 (wb + 1) wb kb ib mb n sv f ls bs) := hP1
        have HX1 : Hid (W1.heap[bx]? = some (.cells #[.int .u8 kind, .int .u32 (id : Int), .int .u64 key] 42)) := hx1
        have HLT : Hid ((wb + 1 < bx ∧ wb < bx ∧ kb < bx ∧ ib < bx ∧ mb < bx ∧ ∀ j, sv.ownBlock = some j → j < bx)) := by
          obtain ⟨q1, q2, q3⟩ := hP.heap.lt
          have q4 := lt_of_get hP.rm.krow
          have q5 := lt_of_get hP.rm.irow
          have q6 := lt_of_get hP.mv
          rw [← hbx]
          exact ⟨q1, q2, q4, q5, q6, q3⟩
        have HDO : Hid (type_of% (hBoth.prog W1 sv hP1.heap)) := hBoth.prog W1 sv hP1.heap
        obtain ⟨x0, x1, x2⟩ := three_cells hx1
        have HW1 : Hid (wr.alloc (.cells #[.int .u8 kind, .int .u32 (id : Int), .int .u64 key] 42) = W1) := hW1
        have HBX : Hid (wr.heap.size = bx) := hbx
        have b0 : (0 : Int) ≤ (k : Int) := by omega
        have b1 : (k : Int) < (((m : Nat) : Int) : Int) := by omega
        clear hP hR hx r0 r1 r2 hBoth hB1 hx1 hP1 hW1 hbx hid
        go_upto_region 14 with fail
        rw [HW1.out, HBX.out]
        clear a0 a1 a2 hbl'
        go_wp2_with fail
        refine HDO.out.mono ?_
        rintro e w2 ⟨rfl, sv2, hI2, hF2⟩
        have HP2 : Hid (PI w w2 (wb + 1) wb kb ib mb n sv2 f' ls bs) := HP1.out.op hI2 hF2
        have hx2 : w2.heap[bx]? = some (.cells #[.int .u8 kind, .int .u32 (id : Int), .int .u64 key] 42) := (hF2.block bx (lt_of_get HX1.out) (by have := HLT.out; omega) (by have := HLT.out; omega) (fun e => by have := HLT.out.2.2.2.2.2 bx e.symm; omega)).trans HX1.out
        obtain ⟨ab, hab⟩ : ∃ ab, w2.heap.size = ab := ⟨_, rfl⟩
        obtain ⟨W3, hW3⟩ : ∃ W3, w2.alloc (.cells #[.int .u32 a, .int .u64 bb, .bool c, .int .i64 l, .int .i64 0, .slice none 0 0] 44) = W3 := ⟨_, rfl⟩
        have hB3 : Below w2.heap.size w2 W3 := by rw [← hW3]; exact (Below.refl _ _).alloc (Nat.le_refl _) _
        have ha3 : W3.heap[ab]? = some (.cells #[.int .u32 a, .int .u64 bb, .bool c, .int .i64 l, .int .i64 0, .slice none 0 0] 44) := by rw [← hW3, ← hab]; exact heap_new _ _
        have hx3 := (hB3.block bx (lt_of_get hx2)).trans hx2
        have hP3 := HP2.out.later hB3
        have HP3 : Hid (PI w W3 (wb + 1) wb kb ib mb n sv2 f' ls bs) := hP3
        have HA3 : Hid (W3.heap[ab]? = some (.cells #[.int .u32 a, .int .u64 bb, .bool c, .int .i64 l, .int .i64 0, .slice none 0 0] 44) ∧ bx < ab) := ⟨ha3, by have := lt_of_get hx2; omega⟩
        have HRF : Hid (type_of% (HBO.out.ref W3 hP3.rm)) := HBO.out.ref W3 hP3.rm
        obtain ⟨m0, m1⟩ := pair_cells hP3.mv
        have hml : mb < W3.heap.size := lt_of_get hP3.mv
        have hxl : bx < W3.heap.size := lt_of_get hx3
        clear x0 x1 x2
        obtain ⟨x0, x1, x2⟩ := three_cells hx3
        have HW3 : Hid (w2.alloc (.cells #[.int .u32 a, .int .u64 bb, .bool c, .int .i64 l, .int .i64 0, .slice none 0 0] 44) = W3) := hW3
        have HAB : Hid (w2.heap.size = ab) := hab
        clear hI2 hF2 hx2 hB3 ha3 hx3 hP3 hW3 hab
        go_upto_region 15 with fail
        rw [HW3.out, HAB.out]
        go_wp2_with fail
        refine HRF.out.mono ?_
        rintro e w4 ⟨rfl, hRS⟩
        have HP4 : Hid (PI w w4 (wb + 1) wb kb ib mb n sv2 f' ls' bs') := HP3.out.rs hRS
        have ha4 : w4.heap[ab]? = some (.cells #[.int .u32 a, .int .u64 bb, .bool c, .int .i64 l, .int .i64 0, .slice none 0 0] 44) := (hRS.block ab (lt_of_get HA3.out.1) (by have h1 := HLT.out; have h2 := HA3.out.2; omega) (by have h1 := HLT.out; have h2 := HA3.out.2; omega)).trans HA3.out.1
        obtain ⟨cb, hcb⟩ : ∃ cb, w4.heap.size = cb := ⟨_, rfl⟩
        obtain ⟨W5, hW5⟩ : ∃ W5, w4.alloc (.cells #[.int .u32 a, .int .u64 bb, .bool c, .int .i64 l, .int .i64 code, .slice none 0 0] 44) = W5 := ⟨_, rfl⟩
        have hB5 : Below w4.heap.size w4 W5 := by rw [← hW5]; exact (Below.refl _ _).alloc (Nat.le_refl _) _
        have hc5 : W5.heap[cb]? = some (.cells #[.int .u32 a, .int .u64 bb, .bool c, .int .i64 l, .int .i64 code, .slice none 0 0] 44) := by rw [← hW5, ← hcb]; exact heap_new _ _
        have ha5 := (hB5.block ab (lt_of_get ha4)).trans ha4
        have HP5 : Hid (PI w W5 (wb + 1) wb kb ib mb n sv2 f' ls' bs') := HP4.out.later hB5
        have HAC : Hid (∀ wx, Below W5.heap.size W5 wx → wx.heap[ab]? = some (.cells #[.int .u32 a, .int .u64 bb, .bool c, .int .i64 l, .int .i64 0, .slice none 0 0] 44) ∧ wx.heap[cb]? = some (.cells #[.int .u32 a, .int .u64 bb, .bool c, .int .i64 l, .int .i64 code, .slice none 0 0] 44)) := fun wx h => ⟨(h.block _ (lt_of_get ha5)).trans ha5, (h.block _ (lt_of_get hc5)).trans hc5⟩
        have HSN : Hid (Calls Tryd.prog 9 #[ev, .agg #[.int .i64 code, .slice none 0 0]] W5 fun r w' => r = .returned (.bool true) ∧ Below W5.heap.size W5 w') := seenB HBO.out.err W5 (HG.out W5 HP5.out.below)
        obtain ⟨⟨_, _, _, _, c4, c5⟩, _⟩ := six_cells hc5
        have hcl : cb < W5.heap.size := lt_of_get hc5
        have HW5 : Hid (w4.alloc (.cells #[.int .u32 a, .int .u64 bb, .bool c, .int .i64 l, .int .i64 code, .slice none 0 0] 44) = W5) := hW5
        have HCB : Hid (w4.heap.size = cb) := hcb
        clear hRS ha4 hB5 hc5 ha5 hW5 hcb m0 m1 hml hxl x0 x1 x2
        go_upto_region 16 with fail
        rw [HW5.out, HCB.out]
        go_wp2_with fail
        refine HSN.out.mono ?_
        rintro e w6 ⟨rfl, hb6⟩
        have HP6 : Hid (PI w w6 (wb + 1) wb kb ib mb n sv2 f' ls' bs') := HP5.out.later hb6
        obtain ⟨ga, gc⟩ := HAC.out w6 hb6
        obtain ⟨⟨p0, p1, p2, p3, _, _⟩, _⟩ := six_cells ga
        obtain ⟨⟨q0, q1, q2, q3, _, _⟩, _⟩ := six_cells gc
        have hal : ab < w6.heap.size := lt_of_get ga
        have hcl6 : cb < w6.heap.size := lt_of_get gc
        clear hb6 ga gc c4 c5 hcl
        go_wp2
        go_roundw
        case rel => exact ⟨k + 1, sv2, f', ls', bs', by omega, by go_num, HP6.out, HBO.out.rel⟩
        case measure => simp [intOf]; omega
      · obtain rfl : k = m := by omega
        clear hP hR
        go_wp2
        go_ret
        exact ⟨rfl, HP.out.below⟩

set_option maxRecDepth 100000 in
set_option maxHeartbeats 8000000 in
theorem plays_some (n : Nat) (hn : n ≤ 65536) (so : Option Addr) (m sc : Nat) (L : List (Int × Nat × Int)) (w : World) (hg : HasType w) (hlen : L.length = 200) (hm : m ≤ maxLen) (hsc : m ≤ sc) (ho : HasOps w (.slice so 200 sc) L) (h1 : (200 : Int) < (n : Int)) (h2 : (200 : Int) < (m : Int)) : Calls Tryd.prog 3 #[.int .i64 n, .slice so m sc] w fun e w' => e = .returned (.bool true) ∧ Below w.heap.size w w' := by
  have HO : Hid (HasOps w (.slice so 200 sc) L) := ho
  have HLL : Hid (L.length = 200) := hlen
  unfold maxLen at hm
  obtain ⟨b9, off9, hso9⟩ : ∃ b off, so = some ⟨b, off, none⟩ := by
    obtain ⟨_, b, off, e, _⟩ := ho.at (j := 0) (x := L[0]'(by omega)) (List.getElem?_eq_getElem _)
    exact ⟨b, off, e⟩
  subst hso9
  have hsl := fun wx => slice_some wx b9 off9 m sc (by omega)
  clear ho hlen hsc
  have HG : Hid (∀ wx, Below w.heap.size w wx → HasType wx) := fun wx h => hg.keep h hg.pos
  have HAW : Hid (type_of% (awake_calls w)) := awake_calls w
  have HN : Hid (∀ wx, type_of% (new_calls n hn wx)) := fun wx => new_calls n hn wx
  have HD : Hid (∀ wx, type_of% (docNew_calls n hn wx)) := fun wx => docNew_calls n hn wx
  have HS0 : Hid (∀ wx, Calls Tryd.prog 9 #[.nilIface, .agg #[.int .i64 0, .slice none 0 0]] wx fun r w' => r = .returned (.bool true) ∧ Below wx.heap.size wx w') := fun wx => seen_none none 0 wx
  have HBN : Hid (∀ wx, type_of% (badN wx)) := fun wx => badN wx
  clear hg
  go_enter Tryd.func3, Tryd.ntmps3
  go_wp2_with fail
  refine HAW.out.mono ?_
  rintro e w1 ⟨rfl, hb1⟩
  have BW1 : Hid (Below w.heap.size w w1) := hb1
  clear hb1
  go_wp2_with fail
  refine (HN.out _).mono ?_
  rintro e w2 ⟨rfl, hI2, hb2⟩
  obtain ⟨wb, hwb⟩ : ∃ wb, w1.heap.size = wb := ⟨_, rfl⟩
  rw [hwb] at hI2
  rw [hwb]
  have I2 : Hid (IsHeap w2 (wb + 1) wb n (.slice none 0 0) (fun _ => none) ∧ w.heap.size ≤ wb) := ⟨hI2, by rw [← hwb]; exact BW1.out.size⟩
  have BW2 : Hid (Below w.heap.size w w2) := BW1.out.trans (hb2.mono BW1.out.size)
  clear hI2 hb2 hwb
  go_wp2_with fail
  refine (HD.out _).mono ?_
  rintro e w3 ⟨kb, ib, rfl, hRM, hkb, hib, hb3⟩
  obtain ⟨mb, hmb⟩ : ∃ mb, w3.heap.size = mb := ⟨_, rfl⟩
  obtain ⟨W4, hW4⟩ : ∃ W4, (w3.alloc (.cells #[.slice (some ⟨kb, 0, none⟩) n n, .slice (some ⟨ib, 0, none⟩) n n] 32)).alloc (.cells #[.int .i64 0, .slice none 0 0] 35) = W4 := ⟨_, rfl⟩
  obtain ⟨k0, k1, hB4⟩ := two_new w3 (.cells #[.slice (some ⟨kb, 0, none⟩) n n, .slice (some ⟨ib, 0, none⟩) n n] 32) (.cells #[.int .i64 0, .slice none 0 0] 35)
  rw [hW4] at k0 k1 hB4
  rw [hmb] at k0 k1
  have HPI : Hid (∀ wx, Below W4.heap.size W4 wx → PI w wx (wb + 1) wb kb ib mb n (.slice none 0 0) (fun _ => none) (List.replicate n 0) (List.replicate n false)) := by
    have hl := I2.out.1.lt
    have hs2 := BW2.out.size
    have hkl := lt_of_get hRM.krow
    have hil := lt_of_get hRM.irow
    have hw := I2.out.2
    have h4 : PI w W4 (wb + 1) wb kb ib mb n (.slice none 0 0) (fun _ => none) (List.replicate n 0) (List.replicate n false) := by
      refine ⟨(I2.out.1.below hb3).below hB4, hRM.below hB4, k0, ⟨by omega, by omega, fun e => by cases e⟩, ⟨by omega, by omega, fun e => by cases e⟩, ⟨by have := hb3.size; omega, by have := hb3.size; omega, fun e => (by cases e), by omega, by omega⟩, ⟨by omega, by omega, by omega, by omega, fun k e => by cases e⟩, ?_⟩
      exact (BW2.out.trans (hb3.mono hs2)).trans (hB4.mono (by have := hb3.size; omega))
    exact fun wx h => h4.later h
  have HW4 : Hid ((w3.alloc (.cells #[.slice (some ⟨kb, 0, none⟩) n n, .slice (some ⟨ib, 0, none⟩) n n] 32)).alloc (.cells #[.int .i64 0, .slice none 0 0] 35) = W4) := hW4
  have HMB : Hid (w3.heap.size = mb) := hmb
  have HF : Hid (∀ wx, Below W4.heap.size W4 wx → wx.cell? ⟨mb + 1, 0, none⟩ = some (.int .i64 0) ∧ wx.cell? ⟨mb + 1, 1, none⟩ = some (.slice none 0 0) ∧ mb + 1 < wx.heap.size) := fun wx h => by
    have g := (h.block _ (lt_of_get k1)).trans k1
    exact ⟨(pair_cells g).1, (pair_cells g).2, lt_of_get g⟩
  obtain ⟨f0, f1, fs⟩ := HF.out W4 (Below.refl _ _)
  clear k0 k1 hB4 hW4 hmb hRM hkb hib hb3
  go_upto_region 5 with fail
  rw [HW4.out, HMB.out]
  go_wp2_with fail
  refine (HS0.out _).mono ?_
  rintro e w5 ⟨rfl, hb5⟩
  have B5 : Hid (Below W4.heap.size W4 w5) := hb5
  clear f0 f1 fs
  obtain ⟨f0, f1, fs⟩ := HF.out w5 hb5
  clear hb5
  go_wp2_with fail
  refine (HBN.out _).mono ?_
  rintro e w6 ⟨rfl, hb6⟩
  have B6 : Hid (Below W4.heap.size W4 w6) := B5.out.trans (hb6.mono B5.out.size)
  clear f0 f1 fs hb6
  obtain ⟨f0, f1, fs⟩ := HF.out w6 B6.out
  go_wp2_with fail
  refine (HBN.out _).mono ?_
  rintro e w7 ⟨rfl, hb7⟩
  have B7 : Hid (Below W4.heap.size W4 w7) := B6.out.trans (hb7.mono B6.out.size)
  clear f0 f1 fs hb7
  go_wp2_with fail
  go_loopw [50] (fun iv wr => ∃ (k : Nat) (sv : Value) (f : Int → Option Int) (ls : List Int) (bs : List Bool), k ≤ 200 ∧ iv = .int .i64 k ∧ PI w wr (wb + 1) wb kb ib mb n sv f ls bs ∧ Rel n f ls bs) (fun iv _ => 200 - (intOf iv).toNat)
  case atStart => exact ⟨0, _, _, _, _, Nat.zero_le _, rfl, HPI.out _ B7.out, Rel.new _ _⟩
  case round =>
    obtain ⟨k, sv, f, ls, bs, hk, rfl, hP, hR⟩ := hrel
    have HP : Hid (PI w wr (wb + 1) wb kb ib mb n sv f ls bs) := hP
    by_cases hlt : k < 200
    · obtain ⟨x, hx⟩ : ∃ x, L[k]? = some x := ⟨L[k]'(by have := HLL.out; omega), List.getElem?_eq_getElem _⟩
      obtain ⟨hid, b, off, hso, hbl, r0, r1, r2⟩ := HO.out.at hx
      obtain ⟨kind, id, key⟩ := x
      simp only at hid r0 r1 r2
      cases hso
      obtain ⟨f', ls', bs', a, bb, l, code, c, ev, hBoth⟩ := both_exists (kb := kb) (ib := ib) hP.heap hn hP.rm.ll hP.rm.il hR kind key id hid
      have HBO : Hid (Both (wb + 1) wb n kb ib f f' ls ls' bs bs' kind key id a bb l code c ev) := hBoth
      have a0 := (hP.below.cell (p := ⟨b9, off9 + k * 3, none⟩) hbl).trans r0
      have a1 := (hP.below.cell (p := ⟨b9, off9 + k * 3 + 1, none⟩) hbl).trans r1
      have a2 := (hP.below.cell (p := ⟨b9, off9 + k * 3 + 2, none⟩) hbl).trans r2
      have hbl' : b9 < wr.heap.size := by have := hP.below.size; omega
      obtain ⟨bx, hbx⟩ : ∃ bx, wr.heap.size = bx := ⟨_, rfl⟩
      obtain ⟨W1, hW1⟩ : ∃ W1, wr.alloc (.cells #[.int .u8 kind, .int .u32 (id : Int), .int .u64 key] 42) = W1 := ⟨_, rfl⟩
      have hB1 : Below wr.heap.size wr W1 := by rw [← hW1]; exact (Below.refl _ _).alloc (Nat.le_refl _) _
      have hx1 : W1.heap[bx]? = some (.cells #[.int .u8 kind, .int .u32 (id : Int), .int .u64 key] 42) := by rw [← hW1, ← hbx]; exact heap_new _ _
      have hP1 := hP.later hB1
      have HP1 : Hid (PI w W1 (wb + 1) wb kb ib mb n sv f ls bs) := hP1
      have HX1 : Hid (W1.heap[bx]? = some (.cells #[.int .u8 kind, .int .u32 (id : Int), .int .u64 key] 42)) := hx1
      have HLT : Hid ((wb + 1 < bx ∧ wb < bx ∧ kb < bx ∧ ib < bx ∧ mb < bx ∧ ∀ j, sv.ownBlock = some j → j < bx)) := by
        obtain ⟨q1, q2, q3⟩ := hP.heap.lt
        have q4 := lt_of_get hP.rm.krow
        have q5 := lt_of_get hP.rm.irow
        have q6 := lt_of_get hP.mv
        rw [← hbx]
        exact ⟨q1, q2, q4, q5, q6, q3⟩
      have HDO : Hid (type_of% (hBoth.prog W1 sv hP1.heap)) := hBoth.prog W1 sv hP1.heap
      obtain ⟨x0, x1, x2⟩ := three_cells hx1
      have HW1 : Hid (wr.alloc (.cells #[.int .u8 kind, .int .u32 (id : Int), .int .u64 key] 42) = W1) := hW1
      have HBX : Hid (wr.heap.size = bx) := hbx
      have b0 : (0 : Int) ≤ (k : Int) := by omega
      have b1 : (k : Int) < (200 : Int) := by omega
      clear hP hR hx r0 r1 r2 hBoth hB1 hx1 hP1 hW1 hbx hid
      go_upto_region 14 with fail
      rw [HW1.out, HBX.out]
      clear a0 a1 a2 hbl'
      go_wp2_with fail
      refine HDO.out.mono ?_
      rintro e w2 ⟨rfl, sv2, hI2, hF2⟩
      have HP2 : Hid (PI w w2 (wb + 1) wb kb ib mb n sv2 f' ls bs) := HP1.out.op hI2 hF2
      have hx2 : w2.heap[bx]? = some (.cells #[.int .u8 kind, .int .u32 (id : Int), .int .u64 key] 42) := (hF2.block bx (lt_of_get HX1.out) (by have := HLT.out; omega) (by have := HLT.out; omega) (fun e => by have := HLT.out.2.2.2.2.2 bx e.symm; omega)).trans HX1.out
      obtain ⟨ab, hab⟩ : ∃ ab, w2.heap.size = ab := ⟨_, rfl⟩
      obtain ⟨W3, hW3⟩ : ∃ W3, w2.alloc (.cells #[.int .u32 a, .int .u64 bb, .bool c, .int .i64 l, .int .i64 0, .slice none 0 0] 44) = W3 := ⟨_, rfl⟩
      have hB3 : Below w2.heap.size w2 W3 := by rw [← hW3]; exact (Below.refl _ _).alloc (Nat.le_refl _) _
      have ha3 : W3.heap[ab]? = some (.cells #[.int .u32 a, .int .u64 bb, .bool c, .int .i64 l, .int .i64 0, .slice none 0 0] 44) := by rw [← hW3, ← hab]; exact heap_new _ _
      have hx3 := (hB3.block bx (lt_of_get hx2)).trans hx2
      have hP3 := HP2.out.later hB3
      have HP3 : Hid (PI w W3 (wb + 1) wb kb ib mb n sv2 f' ls bs) := hP3
      have HA3 : Hid (W3.heap[ab]? = some (.cells #[.int .u32 a, .int .u64 bb, .bool c, .int .i64 l, .int .i64 0, .slice none 0 0] 44) ∧ bx < ab) := ⟨ha3, by have := lt_of_get hx2; omega⟩
      have HRF : Hid (type_of% (HBO.out.ref W3 hP3.rm)) := HBO.out.ref W3 hP3.rm
      obtain ⟨m0, m1⟩ := pair_cells hP3.mv
      have hml : mb < W3.heap.size := lt_of_get hP3.mv
      have hxl : bx < W3.heap.size := lt_of_get hx3
      clear x0 x1 x2
      obtain ⟨x0, x1, x2⟩ := three_cells hx3
      have HW3 : Hid (w2.alloc (.cells #[.int .u32 a, .int .u64 bb, .bool c, .int .i64 l, .int .i64 0, .slice none 0 0] 44) = W3) := hW3
      have HAB : Hid (w2.heap.size = ab) := hab
      clear hI2 hF2 hx2 hB3 ha3 hx3 hP3 hW3 hab
      go_upto_region 15 with fail
      rw [HW3.out, HAB.out]
      go_wp2_with fail
      refine HRF.out.mono ?_
      rintro e w4 ⟨rfl, hRS⟩
      have HP4 : Hid (PI w w4 (wb + 1) wb kb ib mb n sv2 f' ls' bs') := HP3.out.rs hRS
      have ha4 : w4.heap[ab]? = some (.cells #[.int .u32 a, .int .u64 bb, .bool c, .int .i64 l, .int .i64 0, .slice none 0 0] 44) := (hRS.block ab (lt_of_get HA3.out.1) (by have h1 := HLT.out; have h2 := HA3.out.2; omega) (by have h1 := HLT.out; have h2 := HA3.out.2; omega)).trans HA3.out.1
      obtain ⟨cb, hcb⟩ : ∃ cb, w4.heap.size = cb := ⟨_, rfl⟩
      obtain ⟨W5, hW5⟩ : ∃ W5, w4.alloc (.cells #[.int .u32 a, .int .u64 bb, .bool c, .int .i64 l, .int .i64 code, .slice none 0 0] 44) = W5 := ⟨_, rfl⟩
      have hB5 : Below w4.heap.size w4 W5 := by rw [← hW5]; exact (Below.refl _ _).alloc (Nat.le_refl _) _
      have hc5 : W5.heap[cb]? = some (.cells #[.int .u32 a, .int .u64 bb, .bool c, .int .i64 l, .int .i64 code, .slice none 0 0] 44) := by rw [← hW5, ← hcb]; exact heap_new _ _
      have ha5 := (hB5.block ab (lt_of_get ha4)).trans ha4
      have HP5 : Hid (PI w W5 (wb + 1) wb kb ib mb n sv2 f' ls' bs') := HP4.out.later hB5
      have HAC : Hid (∀ wx, Below W5.heap.size W5 wx → wx.heap[ab]? = some (.cells #[.int .u32 a, .int .u64 bb, .bool c, .int .i64 l, .int .i64 0, .slice none 0 0] 44) ∧ wx.heap[cb]? = some (.cells #[.int .u32 a, .int .u64 bb, .bool c, .int .i64 l, .int .i64 code, .slice none 0 0] 44)) := fun wx h => ⟨(h.block _ (lt_of_get ha5)).trans ha5, (h.block _ (lt_of_get hc5)).trans hc5⟩
      have HSN : Hid (Calls Tryd.prog 9 #[ev, .agg #[.int .i64 code, .slice none 0 0]] W5 fun r w' => r = .returned (.bool true) ∧ Below W5.heap.size W5 w') := seenB HBO.out.err W5 (HG.out W5 HP5.out.below)
      obtain ⟨⟨_, _, _, _, c4, c5⟩, _⟩ := six_cells hc5
      have hcl : cb < W5.heap.size := lt_of_get hc5
      have HW5 : Hid (w4.alloc (.cells #[.int .u32 a, .int .u64 bb, .bool c, .int .i64 l, .int .i64 code, .slice none 0 0] 44) = W5) := hW5
      have HCB : Hid (w4.heap.size = cb) := hcb
      clear hRS ha4 hB5 hc5 ha5 hW5 hcb m0 m1 hml hxl x0 x1 x2
      go_upto_region 16 with fail
      rw [HW5.out, HCB.out]
      go_wp2_with fail
      refine HSN.out.mono ?_
      rintro e w6 ⟨rfl, hb6⟩
      have HP6 : Hid (PI w w6 (wb + 1) wb kb ib mb n sv2 f' ls' bs') := HP5.out.later hb6
      obtain ⟨ga, gc⟩ := HAC.out w6 hb6
      obtain ⟨⟨p0, p1, p2, p3, _, _⟩, _⟩ := six_cells ga
      obtain ⟨⟨q0, q1, q2, q3, _, _⟩, _⟩ := six_cells gc
      have hal : ab < w6.heap.size := lt_of_get ga
      have hcl6 : cb < w6.heap.size := lt_of_get gc
      clear hb6 ga gc c4 c5 hcl
      go_wp2
      go_roundw
      case rel => exact ⟨k + 1, sv2, f', ls', bs', by omega, by go_num, HP6.out, HBO.out.rel⟩
      case measure => simp [intOf]; omega
    · have hge : ¬ (k : Int) < 200 := by omega
      clear hP hR
      go_wp2
      go_ret
      exact ⟨rfl, HP.out.below⟩
end Go.Proofs.YtkeniogcjhmikaaDoor
