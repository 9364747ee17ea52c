/- awake: three things come by keys, alike ones by ids. -/
import Derived.Test.YtkeniogcjhmikaaDoorPop
namespace Go.Proofs.YtkeniogcjhmikaaDoor
open Go.RowKit

attribute [local go_sem] Oper.semAt_some

theorem upd_at (f : Int → Option Int) (d : Int) (v : Option Int) : upd f d v d = v := by unfold upd; rw [if_pos rfl]
theorem upd_off (f : Int → Option Int) {d e : Int} (v : Option Int) (h : e ≠ d) : upd f d v e = f e := by unfold upd; rw [if_neg h]

/-- one thing in: there is one. -/
theorem len_one {w : World} {hb wb n : Nat} {sv : Value} {f : Int → Option Int} (h : IsHeap w hb wb n sv f) (d : Nat) (hd : d < n) (hf : f d ≠ none) (ho : ∀ e : Nat, e < n → e ≠ d → f e = none) : Calls Tryd.prog 21 #[.pointer (some ⟨hb, 0, none⟩)] w fun e w' => e = .returned (.int .i64 1) ∧ w' = w := by
  obtain ⟨ps, wh, hM, hH⟩ := h
  have hlen := hM.len
  have hone : ps.length = 1 := by
    have hpos : 0 < ps.length := by
      rcases Nat.eq_zero_or_pos ps.length with h0 | h0
      · exact absurd (hH.empty (List.eq_nil_of_length_eq_zero h0) d (by omega)) hf
      · exact h0
    have hid : ∀ (i : Nat) (y : Th), ps[i]? = some y → wh[d]? = some ((i : Int) + 1) := fun i y hy => by
      obtain ⟨a0, a1, a2⟩ := hH.idr i y hy
      obtain ⟨z, _, _, hz⟩ := hH.there (d := y.2.toNat) (k := i) a2
      have e : y.2.toNat = d := by
        rcases Nat.decEq y.2.toNat d with hne | he
        · rw [ho y.2.toNat (by omega) hne] at hz; cases hz
        · exact he
      rw [e] at a2
      exact a2
    rcases Nat.lt_or_ge ps.length 2 with h2 | h2
    · omega
    · have h0 := hid 0 ps[0] (List.getElem?_eq_getElem _)
      have h1 := hid 1 ps[1] (List.getElem?_eq_getElem _)
      rw [h0] at h1
      have := Option.some.inj h1
      omega
  have h := len_calls hM
  rw [hone] at h
  exact h

def f1 : Int → Option Int := upd (fun _ => none) ((2 : Nat) : Int) (some 5)
def f2 : Int → Option Int := upd f1 ((0 : Nat) : Int) (some 5)
def f3 : Int → Option Int := upd f2 ((1 : Nat) : Int) (some 9)
def f4 : Int → Option Int := upd f3 ((1 : Nat) : Int) (some 4)
def f5 : Int → Option Int := upd f4 ((1 : Nat) : Int) none
def f6 : Int → Option Int := upd f5 ((0 : Nat) : Int) none
theorem least4 {d : Nat} {k : Int} (h : Least 3 f4 d k) : d = 1 ∧ k = 4 := by
  obtain ⟨h1, h2, h3⟩ := h
  have hone : f4 ((1 : Nat) : Int) = some 4 := rfl
  have hn := h3 1 4 (by omega) hone
  have h0 : f4 ((0 : Nat) : Int) = some 5 := rfl
  have h2' : f4 ((2 : Nat) : Int) = some 5 := rfl
  rcases (show d = 0 ∨ d = 1 ∨ d = 2 by omega) with rfl | rfl | rfl
  · rw [h0] at h2; cases h2; exact absurd (Or.inl (by simp)) hn
  · rw [hone] at h2; cases h2; exact ⟨rfl, rfl⟩
  · rw [h2'] at h2; cases h2; exact absurd (Or.inl (by simp)) hn
theorem least5 {d : Nat} {k : Int} (h : Least 3 f5 d k) : d = 0 ∧ k = 5 := by
  obtain ⟨h1, h2, h3⟩ := h
  have h0 : f5 ((0 : Nat) : Int) = some 5 := rfl
  have hone : f5 ((1 : Nat) : Int) = none := rfl
  have h2' : f5 ((2 : Nat) : Int) = some 5 := rfl
  have hn := h3 0 5 (by omega) h0
  rcases (show d = 0 ∨ d = 1 ∨ d = 2 by omega) with rfl | rfl | rfl
  · rw [h0] at h2; cases h2; exact ⟨rfl, rfl⟩
  · rw [hone] at h2; cases h2
  · rw [h2'] at h2; cases h2; exact absurd (Or.inr ⟨rfl, by simp⟩) hn

set_option maxRecDepth 100000 in
set_option maxHeartbeats 2000000 in
theorem awake_calls (w : World) : Calls Tryd.prog 6 #[] w fun e w' => e = .returned (.bool true) ∧ Below w.heap.size w w' := by
  have HN : Hid (type_of% (new_calls 3 (by omega) w)) := new_calls 3 (by omega) w
  have H1 : Hid (∀ (wx : World) sv, IsHeap wx (w.heap.size + 1) w.heap.size 3 sv (fun _ => none) → Calls Tryd.prog 17 #[.pointer (some ⟨w.heap.size + 1, 0, none⟩), .int .u32 2, .int .u64 5] wx fun e w' => e = .returned .nilIface ∧ ∃ sv', IsHeap w' (w.heap.size + 1) w.heap.size 3 sv' f1 ∧ Fr (w.heap.size + 1) w.heap.size sv sv' wx w') := fun wx sv h => push_out h 2 (by omega) 5 rfl
  have H2 : Hid (∀ (wx : World) sv, IsHeap wx (w.heap.size + 1) w.heap.size 3 sv f1 → Calls Tryd.prog 17 #[.pointer (some ⟨w.heap.size + 1, 0, none⟩), .int .u32 0, .int .u64 5] wx fun e w' => e = .returned .nilIface ∧ ∃ sv', IsHeap w' (w.heap.size + 1) w.heap.size 3 sv' f2 ∧ Fr (w.heap.size + 1) w.heap.size sv sv' wx w') := fun wx sv h => push_out h 0 (by omega) 5 rfl
  have H3 : Hid (∀ (wx : World) sv, IsHeap wx (w.heap.size + 1) w.heap.size 3 sv f2 → Calls Tryd.prog 17 #[.pointer (some ⟨w.heap.size + 1, 0, none⟩), .int .u32 1, .int .u64 9] wx fun e w' => e = .returned .nilIface ∧ ∃ sv', IsHeap w' (w.heap.size + 1) w.heap.size 3 sv' f3 ∧ Fr (w.heap.size + 1) w.heap.size sv sv' wx w') := fun wx sv h => push_out h 1 (by omega) 9 rfl
  have H4 : Hid (∀ (wx : World) sv, IsHeap wx (w.heap.size + 1) w.heap.size 3 sv f3 → Calls Tryd.prog 17 #[.pointer (some ⟨w.heap.size + 1, 0, none⟩), .int .u32 1, .int .u64 4] wx fun e w' => e = .returned .nilIface ∧ ∃ sv', IsHeap w' (w.heap.size + 1) w.heap.size 3 sv' f4 ∧ Fr (w.heap.size + 1) w.heap.size sv sv' wx w') := fun wx sv h => push_in h 1 (by omega) 4 9 rfl
  have H5 : Hid (∀ (wx : World) sv, IsHeap wx (w.heap.size + 1) w.heap.size 3 sv f4 → Calls Tryd.prog 19 #[.pointer (some ⟨w.heap.size + 1, 0, none⟩)] wx fun e w' => e = .returned (.tuple #[.int .u32 1, .int .u64 4, .bool true]) ∧ ∃ sv', IsHeap w' (w.heap.size + 1) w.heap.size 3 sv' f5 ∧ Fr (w.heap.size + 1) w.heap.size sv sv' wx w') := fun wx sv h => by
    refine (pop_some h 1 (by omega) (by decide)).mono ?_
    rintro e w' ⟨d, k, he, hl, hs⟩
    obtain ⟨rfl, rfl⟩ := least4 hl
    exact ⟨he, hs⟩
  have H6 : Hid (∀ (wx : World) sv, IsHeap wx (w.heap.size + 1) w.heap.size 3 sv f5 → Calls Tryd.prog 19 #[.pointer (some ⟨w.heap.size + 1, 0, none⟩)] wx fun e w' => e = .returned (.tuple #[.int .u32 0, .int .u64 5, .bool true]) ∧ ∃ sv', IsHeap w' (w.heap.size + 1) w.heap.size 3 sv' f6 ∧ Fr (w.heap.size + 1) w.heap.size sv sv' wx w') := fun wx sv h => by
    refine (pop_some h 0 (by omega) (by decide)).mono ?_
    rintro e w' ⟨d, k, he, hl, hs⟩
    obtain ⟨rfl, rfl⟩ := least5 hl
    exact ⟨he, hs⟩
  have H7 : Hid (∀ (wx : World) sv, IsHeap wx (w.heap.size + 1) w.heap.size 3 sv f6 → Calls Tryd.prog 21 #[.pointer (some ⟨w.heap.size + 1, 0, none⟩)] wx fun e w' => e = .returned (.int .i64 1) ∧ w' = wx) := fun wx sv h => len_one h 2 (by omega) (by decide) (fun e he hne => by
    rcases (show e = 0 ∨ e = 1 by omega) with rfl | rfl <;> rfl)
  go_enter Tryd.func6, Tryd.ntmps6
  go_wp2_with fail
  refine HN.out.mono ?_
  rintro e w1 ⟨rfl, hI, hB⟩
  have HI1 : Hid (IsHeap w1 (w.heap.size + 1) w.heap.size 3 (.slice none 0 0) (fun _ => none)) := hI
  have HB1 : Hid (Below w.heap.size w w1) := hB
  clear hI hB
  go_wp2_with fail
  refine (H1.out _ _ HI1.out).mono ?_
  rintro e w2 ⟨rfl, hS⟩
  have HS2 : Hid (∃ sv', IsHeap w2 (w.heap.size + 1) w.heap.size 3 sv' f1 ∧ Fr (w.heap.size + 1) w.heap.size (.slice none 0 0) sv' w1 w2) := hS
  clear hS
  obtain ⟨s2, hs2⟩ := HS2.out
  have HT2 : Hid (IsHeap w2 (w.heap.size + 1) w.heap.size 3 s2 f1 ∧ Fr (w.heap.size + 1) w.heap.size (.slice none 0 0) s2 w1 w2) := hs2
  clear hs2
  go_wp2_with fail
  refine (H2.out _ _ HT2.out.1).mono ?_
  rintro e w3 ⟨rfl, s3, hs3⟩
  have HT3 : Hid (IsHeap w3 (w.heap.size + 1) w.heap.size 3 s3 f2 ∧ Fr (w.heap.size + 1) w.heap.size (.slice none 0 0) s3 w1 w3) := ⟨hs3.1, HT2.out.2.trans hs3.2⟩
  clear hs3
  go_wp2_with fail
  refine (H3.out _ _ HT3.out.1).mono ?_
  rintro e w4 ⟨rfl, s4, hs4⟩
  have HT4 : Hid (IsHeap w4 (w.heap.size + 1) w.heap.size 3 s4 f3 ∧ Fr (w.heap.size + 1) w.heap.size (.slice none 0 0) s4 w1 w4) := ⟨hs4.1, HT3.out.2.trans hs4.2⟩
  clear hs4
  go_wp2_with fail
  refine (H4.out _ _ HT4.out.1).mono ?_
  rintro e w5 ⟨rfl, s5, hs5⟩
  have HT5 : Hid (IsHeap w5 (w.heap.size + 1) w.heap.size 3 s5 f4 ∧ Fr (w.heap.size + 1) w.heap.size (.slice none 0 0) s5 w1 w5) := ⟨hs5.1, HT4.out.2.trans hs5.2⟩
  clear hs5
  go_wp2_with fail
  refine (H5.out _ _ HT5.out.1).mono ?_
  rintro e w6 ⟨rfl, s6, hs6⟩
  have HT6 : Hid (IsHeap w6 (w.heap.size + 1) w.heap.size 3 s6 f5 ∧ Fr (w.heap.size + 1) w.heap.size (.slice none 0 0) s6 w1 w6) := ⟨hs6.1, HT5.out.2.trans hs6.2⟩
  clear hs6
  go_wp2_with fail
  refine (H6.out _ _ HT6.out.1).mono ?_
  rintro e w7 ⟨rfl, s7, hs7⟩
  have HT7 : Hid (IsHeap w7 (w.heap.size + 1) w.heap.size 3 s7 f6 ∧ Fr (w.heap.size + 1) w.heap.size (.slice none 0 0) s7 w1 w7) := ⟨hs7.1, HT6.out.2.trans hs7.2⟩
  clear hs7
  go_wp2_with fail
  refine (H7.out _ _ HT7.out.1).mono ?_
  rintro e w8 ⟨rfl, hw8⟩
  subst hw8
  go_wp2
  go_ret
  exact ⟨rfl, HB1.out.trans (HT7.out.2.below HB1.out.size (by omega) (by omega) (fun k e => by cases e))⟩
end Go.Proofs.YtkeniogcjhmikaaDoor
