/- the law's awake: the arrays of three arcs. -/
import Derived.Test.YtgfmalimnbgdeaaCsrAw
namespace Go.Proofs.Ytgfmalimnbgdeaa
open Go.RowKit Go.Extern

attribute [local go_sem] Oper.semAt_some

def xs0 : List (Int × Int × Int) := [(2, 0, 5), (0, 1, 4), (0, 2, 1), (1, 1, 0)]
def zs0 : List (Int × Int × Int) := [(0, 1, 4), (0, 2, 1), (2, 0, 5)]
theorem xs0_good : graphErr ((3 : Nat) : Int) xs0 = (0, []) := by kernel_rfl
theorem xs0_norm : normA xs0 = zs0 := by kernel_rfl
theorem heap_alloc_if (w : World) (o : Obj) (k : Nat) : (w.alloc o).heap[k]? = if k = w.heap.size then some o else w.heap[k]? := by
  show (w.heap.push _)[k]? = _
  rw [Array.getElem?_push]
theorem ints_of_block {w : World} {b : Nat} {l : List Int} (h : w.heap[b]? = some (.cells (l.map (Value.int .i64)).toArray 3)) (cap : Nat) : HasInts w (.slice (some ⟨b, 0, none⟩) l.length cap) l := by
  refine ⟨_, cap, rfl, fun j a hj => ⟨b, 0, rfl, lt_of_get h, ?_⟩⟩
  simp only [World.cell?, h]
  simp [hj]

set_option maxRecDepth 100000 in
set_option maxHeartbeats 4000000 in
theorem awake_calls (w : World) : Calls Try.prog 5 #[] w fun e w' => e = .returned (.bool true) ∧ Below w.heap.size w w' := by
  obtain ⟨W0, hW0⟩ : ∃ W0, w.alloc (.cells #[.int .i64 2, .int .i64 0, .int .i64 5, .int .i64 0, .int .i64 1, .int .i64 4, .int .i64 0, .int .i64 2, .int .i64 1, .int .i64 1, .int .i64 1, .int .i64 0] 46) = W0 := ⟨_, rfl⟩
  have hB0 : Below w.heap.size w W0 := by rw [← hW0]; exact (Below.refl _ w).alloc (Nat.le_refl _) _
  have k0 : W0.heap[w.heap.size]? = some (.cells #[.int .i64 2, .int .i64 0, .int .i64 5, .int .i64 0, .int .i64 1, .int .i64 4, .int .i64 0, .int .i64 2, .int .i64 1, .int .i64 1, .int .i64 1, .int .i64 0] 46) := by rw [← hW0]; exact heap_new _ _
  have hA : HasArcs W0 (.slice (some ⟨w.heap.size, 0, none⟩) 4 4) xs0 := by
    refine ⟨_, 4, rfl, fun j a hj => ⟨w.heap.size, 0, rfl, lt_of_get k0, ?_⟩⟩
    rcases j with _ | _ | _ | _ | j <;> simp [xs0] at hj <;> subst hj <;> simp [World.cell?, k0]
  have HBU : Hid (Calls Try.prog 6 #[.agg #[.int .i64 3, .slice (some ⟨w.heap.size, 0, none⟩) 4 4]] W0 fun e w' => ∃ F T V, e = .returned (.tuple #[.agg #[.slice (some ⟨F, 0, none⟩) 4 4, .slice (some ⟨T, 0, none⟩) 3 3, .slice (some ⟨V, 0, none⟩) 3 3], .nilIface]) ∧ CsrIn w' 3 zs0 (some ⟨F, 0, none⟩) (some ⟨T, 0, none⟩) (some ⟨V, 0, none⟩) 4 3 3 ∧ Below W0.heap.size W0 w') := by
    refine (build_good 3 (some ⟨w.heap.size, 0, none⟩) 4 4 xs0 W0 hA xs0_good).mono ?_
    rw [xs0_norm]
    rintro e w' ⟨F, T, V, rfl, _, hf, ht, hv, hb⟩
    refine ⟨F, T, V, rfl, ⟨hf.ints 4 (firsts_len 3 zs0) fun i a hi => ?_, ht.ints 3 (tos_len zs0) fun i a hi => ?_, hv.ints 3 (weights_len zs0) fun i a hi => ?_⟩, hb⟩
    · have hl := (List.getElem?_eq_some_iff.1 hi).1
      rw [firsts_len] at hl
      rw [firsts_at zs0 (show i ≤ 3 by omega)] at hi
      exact Option.some.inj hi
    · show (tos zs0).getD i 0 = a
      rw [List.getD_eq_getElem?_getD, hi]; rfl
    · show (weights zs0).getD i 0 = a
      rw [List.getD_eq_getElem?_getD, hi]; rfl
  have HW0 : Hid (w.alloc (.cells #[.int .i64 2, .int .i64 0, .int .i64 5, .int .i64 0, .int .i64 1, .int .i64 4, .int .i64 0, .int .i64 2, .int .i64 1, .int .i64 1, .int .i64 1, .int .i64 0] 46) = W0) := hW0
  have HB0 : Hid (Below w.heap.size w W0) := hB0
  have HFN : Hid (Fine 3 zs0) := by have h := fine_norm xs0_good; rw [xs0_norm] at h; exact h
  clear hB0 k0 hA hW0
  go_enter Try.func5, Try.ntmps5
  go_wp2_with fail
  rw [HW0.out]
  refine HBU.out.mono ?_
  rintro e w1 ⟨F, T, V, rfl, hC1, hb1⟩
  have HB1 : Hid (Below w.heap.size w w1) := HB0.out.trans (hb1.mono HB0.out.size)
  have HC1 : Hid (CsrIn w1 3 zs0 (some ⟨F, 0, none⟩) (some ⟨T, 0, none⟩) (some ⟨V, 0, none⟩) 4 3 3) := hC1
  clear hC1 hb1
  have HAL : Hid (Below w1.heap.size w1 (w1.alloc (.cells #[.slice (some ⟨F, 0, none⟩) 4 4, .slice (some ⟨T, 0, none⟩) 3 3, .slice (some ⟨V, 0, none⟩) 3 3] 28))) := (Below.refl _ w1).alloc (Nat.le_refl _) _
  have HNW : Hid ((w1.alloc (.cells #[.slice (some ⟨F, 0, none⟩) 4 4, .slice (some ⟨T, 0, none⟩) 3 3, .slice (some ⟨V, 0, none⟩) 3 3] 28)).heap[w1.heap.size]? = some (.cells #[.slice (some ⟨F, 0, none⟩) 4 4, .slice (some ⟨T, 0, none⟩) 3 3, .slice (some ⟨V, 0, none⟩) 3 3] 28)) := heap_new _ _
  have HFD : Hid (∀ wx, Below w1.heap.size w1 wx → Calls Try.prog 22 #[.agg #[.slice (some ⟨F, 0, none⟩) 4 4, .slice (some ⟨T, 0, none⟩) 3 3, .slice (some ⟨V, 0, none⟩) 3 3], .int .i64 0, .int .i64 2] wx fun e w' => e = .returned (.tuple #[.int .i64 1, .nilIface]) ∧ Below wx.heap.size wx w') := fun wx hx =>
    find_good 3 zs0 _ _ T 0 4 3 3 wx HFN.out (HC1.out.keep hx) (Nat.le_refl _) 0 2 1 0 (Or.inr ⟨by decide, Or.inl ⟨rfl, by decide⟩⟩)
  go_wp2_with fail
  refine (HFD.out _ HAL.out).mono ?_
  rintro e w2 ⟨rfl, hb2⟩
  have HB2 : Hid (Below w1.heap.size w1 w2) := HAL.out.trans (hb2.mono HAL.out.size)
  have hN2 := (hb2.block w1.heap.size (by simp)).trans HNW.out
  have HN2 : Hid (type_of% hN2) := hN2
  obtain ⟨c0, c1, c2⟩ := box3 hN2
  have cs := lt_of_get hN2
  clear hb2 hN2
  have HOF : Hid (∀ wx, type_of% (lawOf_calls (some ⟨F, 0, none⟩) (some ⟨T, 0, none⟩) (some ⟨V, 0, none⟩) 4 4 3 3 3 3 wx)) := fun wx => lawOf_calls _ _ _ 4 4 3 3 3 3 wx
  have HSM : Hid (∀ (wx : World) (b1 b2 b3 : Nat), Below w2.heap.size w2 wx → wx.heap[b1]? = some (.cells #[.int .i64 0, .int .i64 2, .int .i64 2, .int .i64 3] 3) → wx.heap[b2]? = some (.cells #[.int .i64 1, .int .i64 2, .int .i64 0] 3) → wx.heap[b3]? = some (.cells #[.int .i64 4, .int .i64 1, .int .i64 5] 3) → Calls Try.prog 19 #[.agg #[.slice (some ⟨F, 0, none⟩) 4 4, .slice (some ⟨T, 0, none⟩) 3 3, .slice (some ⟨V, 0, none⟩) 3 3], .agg #[.slice (some ⟨b1, 0, none⟩) 4 4, .slice (some ⟨b2, 0, none⟩) 3 3, .slice (some ⟨b3, 0, none⟩) 3 3]] wx fun e w' => e = .returned (.bool true) ∧ Below w.heap.size w w') := fun wx b1 b2 b3 hx h1 h2 h3 => by
    have hx1 : Below w1.heap.size w1 wx := HB2.out.trans (hx.mono HB2.out.size)
    have hC := HC1.out.keep hx1
    refine (rSame_yes _ _ _ (some ⟨b1, 0, none⟩) (some ⟨b2, 0, none⟩) (some ⟨b3, 0, none⟩) 4 4 3 3 3 3 4 3 3 [0, 2, 2, 3] [1, 2, 0] [4, 1, 5] wx hC.f hC.t hC.w (ints_of_block (l := [0, 2, 2, 3]) h1 4) (ints_of_block (l := [1, 2, 0]) h2 3) (ints_of_block (l := [4, 1, 5]) h3 3) (by unfold maxLen; decide) (by unfold maxLen; decide) (by unfold maxLen; decide)).mono ?_
    rintro e w' ⟨he, hb⟩
    have h4 := HB1.out.trans (hx1.mono HB1.out.size)
    exact ⟨he, h4.trans (hb.mono h4.size)⟩
  go_wp2_with (first
    | (go_at_call 20; refine (HOF.out _).mono ?_; rintro e w3 ⟨rfl, rfl⟩)
    | (go_at_call 19; refine (HSM.out _ _ _ _ (by repeat (first | (with_reducible exact Below.refl _ _) | (with_reducible refine Below.drew ?_) | (with_reducible refine Below.alloc ?_ (by simp <;> omega) _))) (by simp only [heap_alloc_if]; simp) (by simp only [heap_alloc_if]; simp) (by simp only [heap_alloc_if]; simp)).mono ?_; rintro e w4 ⟨rfl, hb4⟩; have HB4 : Hid (Below w.heap.size w w4) := hb4; clear hb4))
  go_ret
  exact ⟨rfl, HB4.out⟩
end Go.Proofs.Ytgfmalimnbgdeaa
