/- Remove and Pop: the thing is taken out. -/
import Derived.Test.YtepkogijignmlaaHpSet
namespace Go.Proofs.Ytepkogijignmlaa.Hp
open Go.RowKit

attribute [local go_sem] Oper.semAt_some

/-- 'places[:i]'. -/
theorem slice_to (w : World) (g m cap i : Nat) (h : i ≤ cap) (hc : 0 < cap) : (Instr.slice 132 (.slice (some ⟨g, 0, none⟩) m cap) none (some (.int .i64 (i : Int))) none).run Try.prog w = .ok (.slice (some ⟨g, 0, none⟩) i cap) w := by
  rw [run_slice_h (ht := Try.elem60) (h0 := by omega) (h2 := by omega), Try.size60]
  have e2 : (i : Int).toNat = i := by omega
  simp only [Result.andThen_ok, sliced, e2]
  rw [if_neg (by omega)]
  simp [Addr.add]

theorem upd_same {f : Int → Option Int} {d : Int} {v : Option Int} (h : f d = v) : upd f d v = f := by
  funext e
  unfold upd
  split
  · rename_i he; rw [he, h]
  · rfl

section
variable {w : World} {hb wb n : Nat} {sv : Value} {f : Int → Option Int}

set_option maxRecDepth 100000 in
set_option maxHeartbeats 1000000 in
theorem remove_in (h : IsHeap w hb wb n sv f) (d : Nat) (hd : d < n) (k : Int) (hf : f d = some k) : Calls Try.prog 69 #[.pointer (some ⟨hb, 0, none⟩), .int .u32 d] w fun e w' => e = .returned (.bool true) ∧ ∃ sv', IsHeap w' hb wb n sv' (upd f d none) ∧ Fr hb wb sv sv' w w' := by
  obtain ⟨ps, wh, hM, hH⟩ := h
  have hlen := hM.len
  have hbig := hM.big
  obtain ⟨i, y, h0, hy, hyd, hk⟩ : ∃ (i : Nat) (y : Th), wh[d]? = some ((i : Int) + 1) ∧ ps[i]? = some y ∧ y.2 = d ∧ f d = some y.1 := by
    rcases hH.back d (by omega) with ⟨_, h1⟩ | h1
    · rw [hf] at h1; cases h1
    · exact h1
  have hil := (List.getElem?_eq_some_iff.1 hy).1
  have hfew := hH.few
  obtain ⟨m, hm⟩ : ∃ m, ps.length = m + 1 := ⟨ps.length - 1, by omega⟩
  obtain ⟨t, ht⟩ : ∃ t, ps[m]? = some t := ⟨ps[m]'(by omega), List.getElem?_eq_getElem _⟩
  obtain ⟨t0, t1, t2⟩ := hH.idr m t ht
  have hout := hH.out hm hy ht
  have htop := hH.there (d := t.2.toNat) (k := m) t2
  obtain ⟨tk, ti⟩ := t
  obtain ⟨td, htd⟩ : ∃ td : Nat, ti = td := ⟨ti.toNat, by simp only at t0; omega⟩
  subst htd
  have HP : Hid (Calls Try.prog 76 #[.pointer (some ⟨hb, 0, none⟩), .int .u32 d] w fun e w' => e = .returned (.tuple #[.int .i64 i, .bool true]) ∧ w' = w) := place_in hM d i h0 (by omega)
  obtain ⟨c0, c1, z0, z1⟩ := hM.cells
  obtain ⟨z2, z3⟩ := hM.where_ h0
  obtain ⟨g, cap, e, hc1, hc2, hgl, hgh, hgw, q0, q1, _, _⟩ := hM.thing ht
  subst e
  have hlh : hb < w.heap.size := lt_of_get hM.box
  have hlw : wb < w.heap.size := lt_of_get hM.whr
  have hwd : wh.set y.2.toNat 0 = wh.set d 0 := by rw [hyd]; simp
  rw [hwd, hyd] at hout
  obtain ⟨W3, hW3⟩ : ∃ W3, ((w.setCell ⟨hb, 0, none⟩ (.slice (some ⟨g, 0, none⟩) m cap)).setCell ⟨wb, d, none⟩ (.int .u32 0)).alloc (.cells #[.int .u64 tk, .int .u32 (td : Int)] 145) = W3 := ⟨_, rfl⟩
  have hlt : (ps.take m).length = m := by rw [List.length_take]; omega
  have hM3 : Mem W3 hb wb n (.slice (some ⟨g, 0, none⟩) m cap) (ps.take m) (wh.set d 0) := by
    have hr := hM.short (m := m) (by omega)
    have hB := hM.field hr (fun e => hgh (Option.some.inj e)) (fun e => hgw (Option.some.inj e))
    rw [hlt] at hB
    rw [← hW3]
    exact (hB.mark d 0).below ((Below.refl _ _).alloc (Nat.le_refl _) _)
  have hF3 : Fr hb wb (.slice (some ⟨g, 0, none⟩) ps.length cap) (.slice (some ⟨g, 0, none⟩) m cap) w W3 := by
    rw [← hW3]
    refine ⟨rfl, rfl, rfl, by simp, fun j hj g1 g2 _ => ?_, fun j hj e => e⟩
    rw [Below.heap_alloc _ _ _ (by simp; exact hj), heap_setCell_other _ _ _ _ g2, heap_setCell_other _ _ _ _ g1]
  have hN3 : W3.heap[w.heap.size]? = some (.cells #[.int .u64 tk, .int .u32 (td : Int)] 145) := by
    rw [← hW3]
    have h := heap_new ((w.setCell ⟨hb, 0, none⟩ (.slice (some ⟨g, 0, none⟩) m cap)).setCell ⟨wb, d, none⟩ (.int .u32 0)) (.cells #[.int .u64 tk, .int .u32 (td : Int)] 145)
    simpa using h
  obtain ⟨x0, x1⟩ := pair_cells hN3
  have HEND : Hid (i = m → IsHeap W3 hb wb n (.slice (some ⟨g, 0, none⟩) m cap) (upd f d none)) := fun e => ⟨_, _, hM3, hout.1 e⟩
  have HF3 : Hid (Fr hb wb (.slice (some ⟨g, 0, none⟩) ps.length cap) (.slice (some ⟨g, 0, none⟩) m cap) w W3) := hF3
  have HST : Hid (i ≠ m → Calls Try.prog 77 #[.pointer (some ⟨hb, 0, none⟩), .int .i64 i, .agg #[.int .u64 tk, .int .u32 (td : Int)]] W3 fun e w' => e = .returned (.tuple #[]) ∧ IsHeap w' hb wb n (.slice (some ⟨g, 0, none⟩) m cap) (upd f d none) ∧ Fr hb wb (.slice (some ⟨g, 0, none⟩) ps.length cap) (.slice (some ⟨g, 0, none⟩) m cap) w w') := fun hne => by
    refine (settle_calls (d := td) tk (upd f d none) hM3 hlt (by omega) (hout.2 hne)).mono ?_
    rintro e w' ⟨he, ps', wh', h1, h2, h3, h4⟩
    have hne2 : (td : Int) ≠ (d : Int) := fun e => by
      have e' : td = d := by omega
      subst e'
      simp only [Int.toNat_natCast] at t2
      rw [h0] at t2
      have := Option.some.inj t2
      omega
    rw [upd_same] at h1
    · exact ⟨he, ⟨ps', wh', h2, h1⟩, hF3.trans h4⟩
    · unfold upd
      rw [if_neg hne2]
      obtain ⟨y', hy', e', hf'⟩ := htop
      rw [ht] at hy'
      cases hy'
      simpa using hf'
  have HW3 : Hid (((w.setCell ⟨hb, 0, none⟩ (.slice (some ⟨g, 0, none⟩) m cap)).setCell ⟨wb, d, none⟩ (.int .u32 0)).alloc (.cells #[.int .u64 tk, .int .u32 (td : Int)] 145) = W3) := hW3
  have hsl := fun wx => slice_to wx g (m + 1) cap m (by omega) (by omega)
  rw [hm] at c0
  have b0 : (0 : Int) ≤ (d : Int) := by omega
  have b1 : (d : Int) < (n : Int) := by omega
  have b2 : (0 : Int) ≤ (m : Int) := by omega
  have b3 : (m : Int) < (m : Int) + 1 := by omega
  have b4 : (m : Int) ≤ 65536 := by omega
  have e1 : ((m + 1 : Nat) : Int) - 1 = (m : Int) := by omega
  have e2 : (m : Int) + 1 - 1 = (m : Int) := by omega
  have n1 : hb ≠ wb := hM.hw
  have n2 : wb ≠ hb := Ne.symm n1
  have n3 : hb ≠ w.heap.size := by omega
  have n4 : wb ≠ w.heap.size := by omega
  have n5 : w.heap.size ≠ hb := by omega
  have n6 : w.heap.size ≠ wb := by omega
  have him : i ≤ m := by omega
  unfold maxLen at hc2
  clear hM hH h0 hy hk hf hfew hyd hout htop t0 t1 t2 ht hM3 hF3 hN3 hW3 hwd hlt hm hil
  by_cases hi : i = m
  · have b5 : ¬ (i : Int) < (m : Int) := by omega
    have HI : Hid (i = m) := hi
    clear hi
    go_enter Try.func69, Try.ntmps69
    go_wp2_with fail
    refine HP.out.mono ?_
    rintro e w1 ⟨rfl, hw1⟩
    subst hw1
    go_wp2
    rw [HW3.out]
    go_ret
    exact ⟨rfl, _, HEND.out HI.out, HF3.out⟩
  · have b5 : (i : Int) < (m : Int) := by omega
    have HI : Hid (i ≠ m) := hi
    clear hi
    go_enter Try.func69, Try.ntmps69
    go_wp2_with fail
    refine HP.out.mono ?_
    rintro e w1 ⟨rfl, hw1⟩
    subst hw1
    go_wp2_with fail
    rw [HW3.out]
    refine (HST.out HI.out).mono ?_
    rintro e w2 ⟨rfl, hS⟩
    have HS2 : Hid (IsHeap w2 hb wb n (.slice (some ⟨g, 0, none⟩) m cap) (upd f d none) ∧ Fr hb wb (.slice (some ⟨g, 0, none⟩) ps.length cap) (.slice (some ⟨g, 0, none⟩) m cap) w1 w2) := hS
    clear hS
    go_wp2
    go_ret
    exact ⟨rfl, _, HS2.out⟩

set_option maxHeartbeats 1000000 in
theorem pop_none (h : IsHeap w hb wb n sv f) (hf : ∀ d : Nat, d < n → f d = none) : Calls Try.prog 55 #[.pointer (some ⟨hb, 0, none⟩)] w fun e w' => e = .returned (.tuple #[.int .u32 0, .int .u64 0, .bool false]) ∧ w' = w := by
  have HT : Hid (type_of% (top_none h hf)) := top_none h hf
  clear h hf
  go_enter Try.func55, Try.ntmps55
  go_wp2_with fail
  refine HT.out.mono ?_
  rintro e w1 ⟨rfl, hw1⟩
  subst hw1
  go_wp2
  go_ret3
  exact ⟨rfl, rfl⟩

set_option maxHeartbeats 1000000 in
theorem pop_some (h : IsHeap w hb wb n sv f) (d0 : Nat) (hd0 : d0 < n) (hf : f d0 ≠ none) : Calls Try.prog 55 #[.pointer (some ⟨hb, 0, none⟩)] w fun e w' => ∃ (d : Nat) (k : Int), e = .returned (.tuple #[.int .u32 d, .int .u64 k, .bool true]) ∧ Least n f d k ∧ ∃ sv', IsHeap w' hb wb n sv' (upd f d none) ∧ Fr hb wb sv sv' w w' := by
  have HT : Hid (type_of% (top_some h d0 hd0 hf)) := top_some h d0 hd0 hf
  have HI : Hid (IsHeap w hb wb n sv f) := h
  clear h hf
  go_enter Try.func55, Try.ntmps55
  go_wp2_with fail
  refine HT.out.mono ?_
  rintro e w1 ⟨d, k, rfl, hL, hb1⟩
  have HL : Hid (Least n f d k) := hL
  have HB : Hid (Below w.heap.size w w1) := hb1
  have HR : Hid (type_of% (remove_in (HI.out.below hb1) d hL.1 k hL.2.1)) := remove_in (HI.out.below hb1) d hL.1 k hL.2.1
  clear hL hb1
  go_wp2_with fail
  refine HR.out.mono ?_
  rintro e w2 ⟨rfl, hS⟩
  have HS2 : Hid (∃ sv', IsHeap w2 hb wb n sv' (upd f d none) ∧ Fr hb wb sv sv' w1 w2) := hS
  clear hS
  go_wp2
  go_ret3
  obtain ⟨sv', h1, h2⟩ := HS2.out
  exact ⟨d, k, rfl, HL.out, sv', h1, (Fr.of_below HB.out).trans h2⟩

theorem len_none (h : IsHeap w hb wb n sv f) (hf : ∀ d : Nat, d < n → f d = none) : Calls Try.prog 75 #[.pointer (some ⟨hb, 0, none⟩)] w fun e w' => e = .returned (.int .i64 0) ∧ w' = w := by
  obtain ⟨ps, wh, hM, hH⟩ := h
  have hps : ps = [] := by
    cases ps with
    | nil => rfl
    | cons t r =>
      have ht := hH.top (t := t) rfl
      have := hf t.2.toNat (by have := hM.len; omega)
      rw [show ((t.2.toNat : Nat) : Int) = t.2 by omega, ht.1] at this
      cases this
  subst hps
  exact len_calls hM
end
end Go.Proofs.Ytepkogijignmlaa.Hp
