/- the law WalkFixed. -/
import Derived.Test.YtdfjmfgbdnpkbaaDoorWfM
import Derived.Test.YtdfjmfgbdnpkbaaDoorDocCheck
namespace Go.Proofs.YtdfjmfgbdnpkbaaDoor
open Go.RowKit Go.Extern

attribute [local go_sem] Oper.semAt_some

set_option maxRecDepth 100000 in
set_option maxHeartbeats 16000000 in
theorem fixed9_calls (w : World) (hg : HasType w) : Calls Tryd.prog 5 #[] w fun e w' => e = .returned (.bool true) ∧ Below w.heap.size w w' := by
  have HG : Hid (∀ wx, Below w.heap.size w wx → HasType wx) := fun wx h => hg.keep h hg.pos
  clear hg
  go_enter Tryd.func5, Tryd.ntmps5
  go_wp2_with fail
  refine (awake9_calls w).mono ?_
  rintro e w1 ⟨rfl, hb⟩
  have H1 : Hid (Below w.heap.size w w1) := hb
  clear hb
  go_wp2_with fail
  refine (four_calls w1).mono ?_
  rintro e w2 ⟨fo, fc, uo, tc, wo, wc, rfl, hI, hb⟩
  have H2 : Hid (CsrIn w2 4 Z4 fo uo wo fc tc wc ∧ Below w.heap.size w w2) := ⟨hI, btr H1.out hb⟩
  clear hI hb H1
  go_wp2_with fail
  refine (of4_calls fo uo wo fc tc wc w2 H2.out.1).mono ?_
  rintro e w3 ⟨fo2, fc2, tb, tc2, wo2, wc2, rfl, hI, htc, hb⟩
  have H3 : Hid (CsrIn w3 4 Z4 fo2 (some ⟨tb, 0, none⟩) wo2 fc2 tc2 wc2 ∧ 4 ≤ tc2 ∧ Below w.heap.size w w3) := ⟨hI, htc, btr H2.out.2 hb⟩
  have HTC : Hid (4 ≤ tc2) := htc
  clear hI hb htc H2
  go_wp2_with fail

  have hN := heap_new w3 (.cells #[.slice fo2 5 fc2, .slice (some ⟨tb, 0, none⟩) 4 tc2, .slice wo2 4 wc2] 32)
  have hb : Below w3.heap.size w3 (w3.alloc (.cells #[.slice fo2 5 fc2, .slice (some ⟨tb, 0, none⟩) 4 tc2, .slice wo2 4 wc2] 32)) := (Below.refl _ _).alloc (Nat.le_refl _) _
  have hz : (w3.alloc (.cells #[.slice fo2 5 fc2, .slice (some ⟨tb, 0, none⟩) 4 tc2, .slice wo2 4 wc2] 32)).heap.size = w3.heap.size + 1 := by simp
  generalize w3.alloc (.cells #[.slice fo2 5 fc2, .slice (some ⟨tb, 0, none⟩) 4 tc2, .slice wo2 4 wc2] 32) = w4 at *
  have H4 : Hid ((w4.heap[w3.heap.size]? = some (.cells #[.slice fo2 5 fc2, .slice (some ⟨tb, 0, none⟩) 4 tc2, .slice wo2 4 wc2] 32)) ∧ (CsrIn w4 4 Z4 fo2 (some ⟨tb, 0, none⟩) wo2 fc2 tc2 wc2) ∧ (Below w.heap.size w w4)) := ⟨hN, H3.out.1.keep hb, btr H3.out.2.2 hb⟩
  clear hN hb H3
  generalize w3.heap.size = cb at *
  rw [← hz]
  clear hz
  have hN := heap_new w4 (.cells #[.int .i64 0, .int .i64 1, .int .i64 2] 3)
  have hb : Below w4.heap.size w4 (w4.alloc (.cells #[.int .i64 0, .int .i64 1, .int .i64 2] 3)) := (Below.refl _ _).alloc (Nat.le_refl _) _
  obtain ⟨b0, hb0⟩ : ∃ b, w4.heap.size = b := ⟨_, rfl⟩
  have hz : (w4.alloc (.cells #[.int .i64 0, .int .i64 1, .int .i64 2] 3)).heap.size = w4.heap.size + 1 := by simp
  rw [hb0] at hN hz
  generalize w4.alloc (.cells #[.int .i64 0, .int .i64 1, .int .i64 2] 3) = w5 at *
  have H5 : Hid ((w5.heap[cb]? = some (.cells #[.slice fo2 5 fc2, .slice (some ⟨tb, 0, none⟩) 4 tc2, .slice wo2 4 wc2] 32)) ∧ (CsrIn w5 4 Z4 fo2 (some ⟨tb, 0, none⟩) wo2 fc2 tc2 wc2) ∧ (Below w.heap.size w w5) ∧ (HasInts w5 (.slice (some ⟨b0, 0, none⟩) 3 3) [0, 1, 2])) := ⟨(hb.block _ (lt_of_get (H4.out.1))).trans (H4.out.1), (H4.out.2.1).keep hb, btr (H4.out.2.2) hb, ints_new (l := [0, 1, 2]) hN rfl⟩
  clear H4
  clear hN hb
  rw [hb0]
  clear hb0
  clear hz
  refine (len4 _ _ _ _ _ _ _ (H5.out.2.1) HTC.out _ 3 3 [0, 1, 2] rfl (H5.out.2.2.2) (by omega) (by omega) 5 _ li1).mono ?_
  rintro e w6 ⟨v, rfl, ht, hb⟩
  obtain rfl : v = .nilIface := by
    rcases ht with ⟨_, h⟩ | ⟨h, _⟩
    · exact h
    · exact absurd rfl h
  have H6 : Hid ((w6.heap[cb]? = some (.cells #[.slice fo2 5 fc2, .slice (some ⟨tb, 0, none⟩) 4 tc2, .slice wo2 4 wc2] 32)) ∧ (CsrIn w6 4 Z4 fo2 (some ⟨tb, 0, none⟩) wo2 fc2 tc2 wc2) ∧ (Below w.heap.size w w6)) := ⟨(hb.block _ (lt_of_get (H5.out.1))).trans (H5.out.1), (H5.out.2.1).keep hb, btr (H5.out.2.2.1) hb⟩
  clear H5
  clear ht hb
  obtain ⟨c0, c1, c2⟩ := box3 (H6.out.1)
  have cs := lt_of_get (H6.out.1)
  go_wp2_with fail
  have hN := heap_new w6 (.cells #[.int .i64 3] 3)
  have hb : Below w6.heap.size w6 (w6.alloc (.cells #[.int .i64 3] 3)) := (Below.refl _ _).alloc (Nat.le_refl _) _
  obtain ⟨b1, hb1⟩ : ∃ b, w6.heap.size = b := ⟨_, rfl⟩
  have hz : (w6.alloc (.cells #[.int .i64 3] 3)).heap.size = w6.heap.size + 1 := by simp
  rw [hb1] at hN hz
  generalize w6.alloc (.cells #[.int .i64 3] 3) = w7 at *
  have H7 : Hid ((w7.heap[cb]? = some (.cells #[.slice fo2 5 fc2, .slice (some ⟨tb, 0, none⟩) 4 tc2, .slice wo2 4 wc2] 32)) ∧ (CsrIn w7 4 Z4 fo2 (some ⟨tb, 0, none⟩) wo2 fc2 tc2 wc2) ∧ (Below w.heap.size w w7) ∧ (HasInts w7 (.slice (some ⟨b1, 0, none⟩) 1 1) [3])) := ⟨(hb.block _ (lt_of_get (H6.out.1))).trans (H6.out.1), (H6.out.2.1).keep hb, btr (H6.out.2.2) hb, ints_new (l := [3]) hN rfl⟩
  clear H6
  clear hN hb
  rw [hb1]
  clear hb1
  clear hz
  refine (len4 _ _ _ _ _ _ _ (H7.out.2.1) HTC.out _ 1 1 [3] rfl (H7.out.2.2.2) (by omega) (by omega) 0 _ li2).mono ?_
  rintro e w8 ⟨v, rfl, ht, hb⟩
  obtain rfl : v = .nilIface := by
    rcases ht with ⟨_, h⟩ | ⟨h, _⟩
    · exact h
    · exact absurd rfl h
  have H8 : Hid ((w8.heap[cb]? = some (.cells #[.slice fo2 5 fc2, .slice (some ⟨tb, 0, none⟩) 4 tc2, .slice wo2 4 wc2] 32)) ∧ (CsrIn w8 4 Z4 fo2 (some ⟨tb, 0, none⟩) wo2 fc2 tc2 wc2) ∧ (Below w.heap.size w w8)) := ⟨(hb.block _ (lt_of_get (H7.out.1))).trans (H7.out.1), (H7.out.2.1).keep hb, btr (H7.out.2.2.1) hb⟩
  clear H7
  clear ht hb
  clear c0 c1 c2 cs
  obtain ⟨c0, c1, c2⟩ := box3 (H8.out.1)
  have cs := lt_of_get (H8.out.1)
  go_wp2_with fail
  refine (len4 _ _ _ _ _ _ _ (H8.out.2.1) HTC.out none 0 0 [] rfl ⟨none, 0, rfl, fun j a hj => by simp at hj⟩ (by omega) (by omega) 0 _ li3).mono ?_
  rintro e w9 ⟨v, rfl, ht, hb⟩
  have HT : Hid (IsTold w9 (5, []) v) := ht
  obtain ⟨vg, hvg⟩ : ∃ u, v = u := ⟨_, rfl⟩
  subst hvg
  have H9 : Hid ((w9.heap[cb]? = some (.cells #[.slice fo2 5 fc2, .slice (some ⟨tb, 0, none⟩) 4 tc2, .slice wo2 4 wc2] 32)) ∧ (CsrIn w9 4 Z4 fo2 (some ⟨tb, 0, none⟩) wo2 fc2 tc2 wc2) ∧ (Below w.heap.size w w9) ∧ (IsTold w9 (5, []) v)) := ⟨(hb.block _ (lt_of_get (H8.out.1))).trans (H8.out.1), (H8.out.2.1).keep hb, btr (H8.out.2.2) hb, HT.out⟩
  clear H8
  clear ht hb HT
  generalize v = vg at *
  clear c0 c1 c2 cs
  obtain ⟨c0, c1, c2⟩ := box3 (H9.out.1)
  have cs := lt_of_get (H9.out.1)
  go_wp2_with fail
  have hN := heap_new w9 (.cells #[.int .i64 0, .int .i64 4] 3)
  have hb : Below w9.heap.size w9 (w9.alloc (.cells #[.int .i64 0, .int .i64 4] 3)) := (Below.refl _ _).alloc (Nat.le_refl _) _
  obtain ⟨b2, hb2⟩ : ∃ b, w9.heap.size = b := ⟨_, rfl⟩
  have hz : (w9.alloc (.cells #[.int .i64 0, .int .i64 4] 3)).heap.size = w9.heap.size + 1 := by simp
  rw [hb2] at hN hz
  generalize w9.alloc (.cells #[.int .i64 0, .int .i64 4] 3) = w10 at *
  have H10 : Hid ((w10.heap[cb]? = some (.cells #[.slice fo2 5 fc2, .slice (some ⟨tb, 0, none⟩) 4 tc2, .slice wo2 4 wc2] 32)) ∧ (CsrIn w10 4 Z4 fo2 (some ⟨tb, 0, none⟩) wo2 fc2 tc2 wc2) ∧ (Below w.heap.size w w10) ∧ (IsTold w10 (5, []) vg) ∧ (HasInts w10 (.slice (some ⟨b2, 0, none⟩) 2 2) [0, 4])) := ⟨(hb.block _ (lt_of_get (H9.out.1))).trans (H9.out.1), (H9.out.2.1).keep hb, btr (H9.out.2.2.1) hb, (H9.out.2.2.2).keep (Below.keeps hb), ints_new (l := [0, 4]) hN rfl⟩
  clear H9
  clear hN hb
  rw [hb2]
  clear hb2
  clear hz
  refine (len4 _ _ _ _ _ _ _ (H10.out.2.1) HTC.out _ 2 2 [0, 4] rfl (H10.out.2.2.2.2) (by omega) (by omega) 0 _ li4).mono ?_
  rintro e w11 ⟨v, rfl, ht, hb⟩
  have HT : Hid (IsTold w11 (7, [(3, 1)]) v) := ht
  obtain ⟨vh, hvh⟩ : ∃ u, v = u := ⟨_, rfl⟩
  subst hvh
  have H11 : Hid ((w11.heap[cb]? = some (.cells #[.slice fo2 5 fc2, .slice (some ⟨tb, 0, none⟩) 4 tc2, .slice wo2 4 wc2] 32)) ∧ (CsrIn w11 4 Z4 fo2 (some ⟨tb, 0, none⟩) wo2 fc2 tc2 wc2) ∧ (Below w.heap.size w w11) ∧ (IsTold w11 (5, []) vg) ∧ (IsTold w11 (7, [(3, 1)]) v)) := ⟨(hb.block _ (lt_of_get (H10.out.1))).trans (H10.out.1), (H10.out.2.1).keep hb, btr (H10.out.2.2.1) hb, (H10.out.2.2.2.1).keep (Below.keeps hb), HT.out⟩
  clear H10
  clear ht hb HT
  generalize v = vh at *
  clear c0 c1 c2 cs
  obtain ⟨c0, c1, c2⟩ := box3 (H11.out.1)
  have cs := lt_of_get (H11.out.1)
  go_wp2_with fail
  have hN := heap_new w11 (.cells #[.int .i64 0, .int .i64 1, .int .i64 0] 3)
  have hb : Below w11.heap.size w11 (w11.alloc (.cells #[.int .i64 0, .int .i64 1, .int .i64 0] 3)) := (Below.refl _ _).alloc (Nat.le_refl _) _
  obtain ⟨b3, hb3⟩ : ∃ b, w11.heap.size = b := ⟨_, rfl⟩
  have hz : (w11.alloc (.cells #[.int .i64 0, .int .i64 1, .int .i64 0] 3)).heap.size = w11.heap.size + 1 := by simp
  rw [hb3] at hN hz
  generalize w11.alloc (.cells #[.int .i64 0, .int .i64 1, .int .i64 0] 3) = w12 at *
  have H12 : Hid ((w12.heap[cb]? = some (.cells #[.slice fo2 5 fc2, .slice (some ⟨tb, 0, none⟩) 4 tc2, .slice wo2 4 wc2] 32)) ∧ (CsrIn w12 4 Z4 fo2 (some ⟨tb, 0, none⟩) wo2 fc2 tc2 wc2) ∧ (Below w.heap.size w w12) ∧ (IsTold w12 (5, []) vg) ∧ (IsTold w12 (7, [(3, 1)]) vh) ∧ (HasInts w12 (.slice (some ⟨b3, 0, none⟩) 3 3) [0, 1, 0])) := ⟨(hb.block _ (lt_of_get (H11.out.1))).trans (H11.out.1), (H11.out.2.1).keep hb, btr (H11.out.2.2.1) hb, (H11.out.2.2.2.1).keep (Below.keeps hb), (H11.out.2.2.2.2).keep (Below.keeps hb), ints_new (l := [0, 1, 0]) hN rfl⟩
  clear H11
  clear hN hb
  rw [hb3]
  clear hb3
  clear hz
  refine (len4 _ _ _ _ _ _ _ (H12.out.2.1) HTC.out _ 3 3 [0, 1, 0] rfl (H12.out.2.2.2.2.2) (by omega) (by omega) 0 _ li5).mono ?_
  rintro e w13 ⟨v, rfl, ht, hb⟩
  have HT : Hid (IsTold w13 (16, [(4, 1)]) v) := ht
  obtain ⟨vi, hvi⟩ : ∃ u, v = u := ⟨_, rfl⟩
  subst hvi
  have H13 : Hid ((w13.heap[cb]? = some (.cells #[.slice fo2 5 fc2, .slice (some ⟨tb, 0, none⟩) 4 tc2, .slice wo2 4 wc2] 32)) ∧ (CsrIn w13 4 Z4 fo2 (some ⟨tb, 0, none⟩) wo2 fc2 tc2 wc2) ∧ (Below w.heap.size w w13) ∧ (IsTold w13 (5, []) vg) ∧ (IsTold w13 (7, [(3, 1)]) vh) ∧ (IsTold w13 (16, [(4, 1)]) v)) := ⟨(hb.block _ (lt_of_get (H12.out.1))).trans (H12.out.1), (H12.out.2.1).keep hb, btr (H12.out.2.2.1) hb, (H12.out.2.2.2.1).keep (Below.keeps hb), (H12.out.2.2.2.2.1).keep (Below.keeps hb), HT.out⟩
  clear H12
  clear ht hb HT
  generalize v = vi at *
  clear c0 c1 c2 cs
  obtain ⟨c0, c1, c2⟩ := box3 (H13.out.1)
  have cs := lt_of_get (H13.out.1)
  go_wp2_with fail
  have hN := heap_new w13 (.cells #[.int .i64 1, .int .i64 1] 3)
  have hb : Below w13.heap.size w13 (w13.alloc (.cells #[.int .i64 1, .int .i64 1] 3)) := (Below.refl _ _).alloc (Nat.le_refl _) _
  obtain ⟨b4, hb4⟩ : ∃ b, w13.heap.size = b := ⟨_, rfl⟩
  have hz : (w13.alloc (.cells #[.int .i64 1, .int .i64 1] 3)).heap.size = w13.heap.size + 1 := by simp
  rw [hb4] at hN hz
  generalize w13.alloc (.cells #[.int .i64 1, .int .i64 1] 3) = w14 at *
  have H14 : Hid ((w14.heap[cb]? = some (.cells #[.slice fo2 5 fc2, .slice (some ⟨tb, 0, none⟩) 4 tc2, .slice wo2 4 wc2] 32)) ∧ (CsrIn w14 4 Z4 fo2 (some ⟨tb, 0, none⟩) wo2 fc2 tc2 wc2) ∧ (Below w.heap.size w w14) ∧ (IsTold w14 (5, []) vg) ∧ (IsTold w14 (7, [(3, 1)]) vh) ∧ (IsTold w14 (16, [(4, 1)]) vi) ∧ (HasInts w14 (.slice (some ⟨b4, 0, none⟩) 2 2) [1, 1])) := ⟨(hb.block _ (lt_of_get (H13.out.1))).trans (H13.out.1), (H13.out.2.1).keep hb, btr (H13.out.2.2.1) hb, (H13.out.2.2.2.1).keep (Below.keeps hb), (H13.out.2.2.2.2.1).keep (Below.keeps hb), (H13.out.2.2.2.2.2).keep (Below.keeps hb), ints_new (l := [1, 1]) hN rfl⟩
  clear H13
  clear hN hb
  rw [hb4]
  clear hb4
  clear hz
  refine (len4 _ _ _ _ _ _ _ (H14.out.2.1) HTC.out _ 2 2 [1, 1] rfl (H14.out.2.2.2.2.2.2) (by omega) (by omega) 0 _ li6).mono ?_
  rintro e w15 ⟨v, rfl, ht, hb⟩
  have HT : Hid (IsTold w15 (16, [(4, 0)]) v) := ht
  obtain ⟨vj, hvj⟩ : ∃ u, v = u := ⟨_, rfl⟩
  subst hvj
  have H15 : Hid ((w15.heap[cb]? = some (.cells #[.slice fo2 5 fc2, .slice (some ⟨tb, 0, none⟩) 4 tc2, .slice wo2 4 wc2] 32)) ∧ (CsrIn w15 4 Z4 fo2 (some ⟨tb, 0, none⟩) wo2 fc2 tc2 wc2) ∧ (Below w.heap.size w w15) ∧ (IsTold w15 (5, []) vg) ∧ (IsTold w15 (7, [(3, 1)]) vh) ∧ (IsTold w15 (16, [(4, 1)]) vi) ∧ (IsTold w15 (16, [(4, 0)]) v)) := ⟨(hb.block _ (lt_of_get (H14.out.1))).trans (H14.out.1), (H14.out.2.1).keep hb, btr (H14.out.2.2.1) hb, (H14.out.2.2.2.1).keep (Below.keeps hb), (H14.out.2.2.2.2.1).keep (Below.keeps hb), (H14.out.2.2.2.2.2.1).keep (Below.keeps hb), HT.out⟩
  clear H14
  clear ht hb HT
  generalize v = vj at *
  clear c0 c1 c2 cs
  obtain ⟨c0, c1, c2⟩ := box3 (H15.out.1)
  have cs := lt_of_get (H15.out.1)
  go_wp2_with fail
  have hN := heap_new w15 (.cells #[.int .i64 0, .int .i64 3, .int .i64 (-1)] 3)
  have hb : Below w15.heap.size w15 (w15.alloc (.cells #[.int .i64 0, .int .i64 3, .int .i64 (-1)] 3)) := (Below.refl _ _).alloc (Nat.le_refl _) _
  obtain ⟨b5, hb5⟩ : ∃ b, w15.heap.size = b := ⟨_, rfl⟩
  have hz : (w15.alloc (.cells #[.int .i64 0, .int .i64 3, .int .i64 (-1)] 3)).heap.size = w15.heap.size + 1 := by simp
  rw [hb5] at hN hz
  generalize w15.alloc (.cells #[.int .i64 0, .int .i64 3, .int .i64 (-1)] 3) = w16 at *
  have H16 : Hid ((w16.heap[cb]? = some (.cells #[.slice fo2 5 fc2, .slice (some ⟨tb, 0, none⟩) 4 tc2, .slice wo2 4 wc2] 32)) ∧ (CsrIn w16 4 Z4 fo2 (some ⟨tb, 0, none⟩) wo2 fc2 tc2 wc2) ∧ (Below w.heap.size w w16) ∧ (IsTold w16 (5, []) vg) ∧ (IsTold w16 (7, [(3, 1)]) vh) ∧ (IsTold w16 (16, [(4, 1)]) vi) ∧ (IsTold w16 (16, [(4, 0)]) vj) ∧ (HasInts w16 (.slice (some ⟨b5, 0, none⟩) 3 3) [0, 3, -1])) := ⟨(hb.block _ (lt_of_get (H15.out.1))).trans (H15.out.1), (H15.out.2.1).keep hb, btr (H15.out.2.2.1) hb, (H15.out.2.2.2.1).keep (Below.keeps hb), (H15.out.2.2.2.2.1).keep (Below.keeps hb), (H15.out.2.2.2.2.2.1).keep (Below.keeps hb), (H15.out.2.2.2.2.2.2).keep (Below.keeps hb), ints_new (l := [0, 3, -1]) hN rfl⟩
  clear H15
  clear hN hb
  rw [hb5]
  clear hb5
  clear hz
  refine (len4 _ _ _ _ _ _ _ (H16.out.2.1) HTC.out _ 3 3 [0, 3, -1] rfl (H16.out.2.2.2.2.2.2.2) (by omega) (by omega) 0 _ li7).mono ?_
  rintro e w17 ⟨v, rfl, ht, hb⟩
  have HT : Hid (IsTold w17 (7, [(3, 2)]) v) := ht
  obtain ⟨vk, hvk⟩ : ∃ u, v = u := ⟨_, rfl⟩
  subst hvk
  have H17 : Hid ((w17.heap[cb]? = some (.cells #[.slice fo2 5 fc2, .slice (some ⟨tb, 0, none⟩) 4 tc2, .slice wo2 4 wc2] 32)) ∧ (CsrIn w17 4 Z4 fo2 (some ⟨tb, 0, none⟩) wo2 fc2 tc2 wc2) ∧ (Below w.heap.size w w17) ∧ (IsTold w17 (5, []) vg) ∧ (IsTold w17 (7, [(3, 1)]) vh) ∧ (IsTold w17 (16, [(4, 1)]) vi) ∧ (IsTold w17 (16, [(4, 0)]) vj) ∧ (IsTold w17 (7, [(3, 2)]) v)) := ⟨(hb.block _ (lt_of_get (H16.out.1))).trans (H16.out.1), (H16.out.2.1).keep hb, btr (H16.out.2.2.1) hb, (H16.out.2.2.2.1).keep (Below.keeps hb), (H16.out.2.2.2.2.1).keep (Below.keeps hb), (H16.out.2.2.2.2.2.1).keep (Below.keeps hb), (H16.out.2.2.2.2.2.2.1).keep (Below.keeps hb), HT.out⟩
  clear H16
  clear ht hb HT
  generalize v = vk at *
  clear c0 c1 c2 cs
  go_wp2_with fail
  refine (E_calls 5 _).mono ?_
  rintro e w18 ⟨rfl, hb⟩
  have H18 : Hid ((w18.heap[cb]? = some (.cells #[.slice fo2 5 fc2, .slice (some ⟨tb, 0, none⟩) 4 tc2, .slice wo2 4 wc2] 32)) ∧ (CsrIn w18 4 Z4 fo2 (some ⟨tb, 0, none⟩) wo2 fc2 tc2 wc2) ∧ (Below w.heap.size w w18) ∧ (IsTold w18 (5, []) vg) ∧ (IsTold w18 (7, [(3, 1)]) vh) ∧ (IsTold w18 (16, [(4, 1)]) vi) ∧ (IsTold w18 (16, [(4, 0)]) vj) ∧ (IsTold w18 (7, [(3, 2)]) vk)) := ⟨(hb.block _ (lt_of_get (H17.out.1))).trans (H17.out.1), (H17.out.2.1).keep hb, btr (H17.out.2.2.1) hb, (H17.out.2.2.2.1).keep (Below.keeps hb), (H17.out.2.2.2.2.1).keep (Below.keeps hb), (H17.out.2.2.2.2.2.1).keep (Below.keeps hb), (H17.out.2.2.2.2.2.2.1).keep (Below.keeps hb), (H17.out.2.2.2.2.2.2.2).keep (Below.keeps hb)⟩
  clear H17
  clear hb
  go_wp2_with fail
  refine (seen0 5 vg _ (H18.out.2.2.2.1) (HG.out _ (H18.out.2.2.1))).mono ?_
  rintro e w19 ⟨rfl, hb⟩
  have H19 : Hid ((w19.heap[cb]? = some (.cells #[.slice fo2 5 fc2, .slice (some ⟨tb, 0, none⟩) 4 tc2, .slice wo2 4 wc2] 32)) ∧ (CsrIn w19 4 Z4 fo2 (some ⟨tb, 0, none⟩) wo2 fc2 tc2 wc2) ∧ (Below w.heap.size w w19) ∧ (IsTold w19 (5, []) vg) ∧ (IsTold w19 (7, [(3, 1)]) vh) ∧ (IsTold w19 (16, [(4, 1)]) vi) ∧ (IsTold w19 (16, [(4, 0)]) vj) ∧ (IsTold w19 (7, [(3, 2)]) vk)) := ⟨(hb.block _ (lt_of_get (H18.out.1))).trans (H18.out.1), (H18.out.2.1).keep hb, btr (H18.out.2.2.1) hb, (H18.out.2.2.2.1).keep (Below.keeps hb), (H18.out.2.2.2.2.1).keep (Below.keeps hb), (H18.out.2.2.2.2.2.1).keep (Below.keeps hb), (H18.out.2.2.2.2.2.2.1).keep (Below.keeps hb), (H18.out.2.2.2.2.2.2.2).keep (Below.keeps hb)⟩
  clear H18
  clear hb
  go_wp2_with fail
  refine (E_calls 7 _).mono ?_
  rintro e w20 ⟨rfl, hb⟩
  have H20 : Hid ((w20.heap[cb]? = some (.cells #[.slice fo2 5 fc2, .slice (some ⟨tb, 0, none⟩) 4 tc2, .slice wo2 4 wc2] 32)) ∧ (CsrIn w20 4 Z4 fo2 (some ⟨tb, 0, none⟩) wo2 fc2 tc2 wc2) ∧ (Below w.heap.size w w20) ∧ (IsTold w20 (5, []) vg) ∧ (IsTold w20 (7, [(3, 1)]) vh) ∧ (IsTold w20 (16, [(4, 1)]) vi) ∧ (IsTold w20 (16, [(4, 0)]) vj) ∧ (IsTold w20 (7, [(3, 2)]) vk)) := ⟨(hb.block _ (lt_of_get (H19.out.1))).trans (H19.out.1), (H19.out.2.1).keep hb, btr (H19.out.2.2.1) hb, (H19.out.2.2.2.1).keep (Below.keeps hb), (H19.out.2.2.2.2.1).keep (Below.keeps hb), (H19.out.2.2.2.2.2.1).keep (Below.keeps hb), (H19.out.2.2.2.2.2.2.1).keep (Below.keeps hb), (H19.out.2.2.2.2.2.2.2).keep (Below.keeps hb)⟩
  clear H19
  clear hb
  go_wp2_with fail
  refine (refAt_calls 3 1 7 _).mono ?_
  rintro e w21 ⟨g6, rfl, hpl, hb⟩
  have H21 : Hid ((w21.heap[cb]? = some (.cells #[.slice fo2 5 fc2, .slice (some ⟨tb, 0, none⟩) 4 tc2, .slice wo2 4 wc2] 32)) ∧ (CsrIn w21 4 Z4 fo2 (some ⟨tb, 0, none⟩) wo2 fc2 tc2 wc2) ∧ (Below w.heap.size w w21) ∧ (IsTold w21 (5, []) vg) ∧ (IsTold w21 (7, [(3, 1)]) vh) ∧ (IsTold w21 (16, [(4, 1)]) vi) ∧ (IsTold w21 (16, [(4, 0)]) vj) ∧ (IsTold w21 (7, [(3, 2)]) vk) ∧ (w21.heap[g6]? = some (.cells #[.int .i64 3, .int .i64 1] 63))) := ⟨(hb.block _ (lt_of_get (H20.out.1))).trans (H20.out.1), (H20.out.2.1).keep hb, btr (H20.out.2.2.1) hb, (H20.out.2.2.2.1).keep (Below.keeps hb), (H20.out.2.2.2.2.1).keep (Below.keeps hb), (H20.out.2.2.2.2.2.1).keep (Below.keeps hb), (H20.out.2.2.2.2.2.2.1).keep (Below.keeps hb), (H20.out.2.2.2.2.2.2.2).keep (Below.keeps hb), hpl⟩
  clear H20
  clear hb hpl
  go_wp2_with fail
  refine (seen1 7 3 1 vh g6 _ (H21.out.2.2.2.2.1) (H21.out.2.2.2.2.2.2.2.2) (HG.out _ (H21.out.2.2.1))).mono ?_
  rintro e w22 ⟨rfl, hb⟩
  have H22 : Hid ((w22.heap[cb]? = some (.cells #[.slice fo2 5 fc2, .slice (some ⟨tb, 0, none⟩) 4 tc2, .slice wo2 4 wc2] 32)) ∧ (CsrIn w22 4 Z4 fo2 (some ⟨tb, 0, none⟩) wo2 fc2 tc2 wc2) ∧ (Below w.heap.size w w22) ∧ (IsTold w22 (5, []) vg) ∧ (IsTold w22 (7, [(3, 1)]) vh) ∧ (IsTold w22 (16, [(4, 1)]) vi) ∧ (IsTold w22 (16, [(4, 0)]) vj) ∧ (IsTold w22 (7, [(3, 2)]) vk)) := ⟨(hb.block _ (lt_of_get (H21.out.1))).trans (H21.out.1), (H21.out.2.1).keep hb, btr (H21.out.2.2.1) hb, (H21.out.2.2.2.1).keep (Below.keeps hb), (H21.out.2.2.2.2.1).keep (Below.keeps hb), (H21.out.2.2.2.2.2.1).keep (Below.keeps hb), (H21.out.2.2.2.2.2.2.1).keep (Below.keeps hb), (H21.out.2.2.2.2.2.2.2.1).keep (Below.keeps hb)⟩
  clear H21
  clear hb
  go_wp2_with fail
  refine (E_calls 16 _).mono ?_
  rintro e w23 ⟨rfl, hb⟩
  have H23 : Hid ((w23.heap[cb]? = some (.cells #[.slice fo2 5 fc2, .slice (some ⟨tb, 0, none⟩) 4 tc2, .slice wo2 4 wc2] 32)) ∧ (CsrIn w23 4 Z4 fo2 (some ⟨tb, 0, none⟩) wo2 fc2 tc2 wc2) ∧ (Below w.heap.size w w23) ∧ (IsTold w23 (5, []) vg) ∧ (IsTold w23 (7, [(3, 1)]) vh) ∧ (IsTold w23 (16, [(4, 1)]) vi) ∧ (IsTold w23 (16, [(4, 0)]) vj) ∧ (IsTold w23 (7, [(3, 2)]) vk)) := ⟨(hb.block _ (lt_of_get (H22.out.1))).trans (H22.out.1), (H22.out.2.1).keep hb, btr (H22.out.2.2.1) hb, (H22.out.2.2.2.1).keep (Below.keeps hb), (H22.out.2.2.2.2.1).keep (Below.keeps hb), (H22.out.2.2.2.2.2.1).keep (Below.keeps hb), (H22.out.2.2.2.2.2.2.1).keep (Below.keeps hb), (H22.out.2.2.2.2.2.2.2).keep (Below.keeps hb)⟩
  clear H22
  clear hb
  go_wp2_with fail
  refine (refAt_calls 4 1 16 _).mono ?_
  rintro e w24 ⟨g7, rfl, hpl, hb⟩
  have H24 : Hid ((w24.heap[cb]? = some (.cells #[.slice fo2 5 fc2, .slice (some ⟨tb, 0, none⟩) 4 tc2, .slice wo2 4 wc2] 32)) ∧ (CsrIn w24 4 Z4 fo2 (some ⟨tb, 0, none⟩) wo2 fc2 tc2 wc2) ∧ (Below w.heap.size w w24) ∧ (IsTold w24 (5, []) vg) ∧ (IsTold w24 (7, [(3, 1)]) vh) ∧ (IsTold w24 (16, [(4, 1)]) vi) ∧ (IsTold w24 (16, [(4, 0)]) vj) ∧ (IsTold w24 (7, [(3, 2)]) vk) ∧ (w24.heap[g7]? = some (.cells #[.int .i64 4, .int .i64 1] 63))) := ⟨(hb.block _ (lt_of_get (H23.out.1))).trans (H23.out.1), (H23.out.2.1).keep hb, btr (H23.out.2.2.1) hb, (H23.out.2.2.2.1).keep (Below.keeps hb), (H23.out.2.2.2.2.1).keep (Below.keeps hb), (H23.out.2.2.2.2.2.1).keep (Below.keeps hb), (H23.out.2.2.2.2.2.2.1).keep (Below.keeps hb), (H23.out.2.2.2.2.2.2.2).keep (Below.keeps hb), hpl⟩
  clear H23
  clear hb hpl
  go_wp2_with fail
  refine (seen1 16 4 1 vi g7 _ (H24.out.2.2.2.2.2.1) (H24.out.2.2.2.2.2.2.2.2) (HG.out _ (H24.out.2.2.1))).mono ?_
  rintro e w25 ⟨rfl, hb⟩
  have H25 : Hid ((w25.heap[cb]? = some (.cells #[.slice fo2 5 fc2, .slice (some ⟨tb, 0, none⟩) 4 tc2, .slice wo2 4 wc2] 32)) ∧ (CsrIn w25 4 Z4 fo2 (some ⟨tb, 0, none⟩) wo2 fc2 tc2 wc2) ∧ (Below w.heap.size w w25) ∧ (IsTold w25 (5, []) vg) ∧ (IsTold w25 (7, [(3, 1)]) vh) ∧ (IsTold w25 (16, [(4, 1)]) vi) ∧ (IsTold w25 (16, [(4, 0)]) vj) ∧ (IsTold w25 (7, [(3, 2)]) vk)) := ⟨(hb.block _ (lt_of_get (H24.out.1))).trans (H24.out.1), (H24.out.2.1).keep hb, btr (H24.out.2.2.1) hb, (H24.out.2.2.2.1).keep (Below.keeps hb), (H24.out.2.2.2.2.1).keep (Below.keeps hb), (H24.out.2.2.2.2.2.1).keep (Below.keeps hb), (H24.out.2.2.2.2.2.2.1).keep (Below.keeps hb), (H24.out.2.2.2.2.2.2.2.1).keep (Below.keeps hb)⟩
  clear H24
  clear hb
  go_wp2_with fail
  refine (E_calls 16 _).mono ?_
  rintro e w26 ⟨rfl, hb⟩
  have H26 : Hid ((w26.heap[cb]? = some (.cells #[.slice fo2 5 fc2, .slice (some ⟨tb, 0, none⟩) 4 tc2, .slice wo2 4 wc2] 32)) ∧ (CsrIn w26 4 Z4 fo2 (some ⟨tb, 0, none⟩) wo2 fc2 tc2 wc2) ∧ (Below w.heap.size w w26) ∧ (IsTold w26 (5, []) vg) ∧ (IsTold w26 (7, [(3, 1)]) vh) ∧ (IsTold w26 (16, [(4, 1)]) vi) ∧ (IsTold w26 (16, [(4, 0)]) vj) ∧ (IsTold w26 (7, [(3, 2)]) vk)) := ⟨(hb.block _ (lt_of_get (H25.out.1))).trans (H25.out.1), (H25.out.2.1).keep hb, btr (H25.out.2.2.1) hb, (H25.out.2.2.2.1).keep (Below.keeps hb), (H25.out.2.2.2.2.1).keep (Below.keeps hb), (H25.out.2.2.2.2.2.1).keep (Below.keeps hb), (H25.out.2.2.2.2.2.2.1).keep (Below.keeps hb), (H25.out.2.2.2.2.2.2.2).keep (Below.keeps hb)⟩
  clear H25
  clear hb
  go_wp2_with fail
  refine (refAt_calls 4 0 16 _).mono ?_
  rintro e w27 ⟨g8, rfl, hpl, hb⟩
  have H27 : Hid ((w27.heap[cb]? = some (.cells #[.slice fo2 5 fc2, .slice (some ⟨tb, 0, none⟩) 4 tc2, .slice wo2 4 wc2] 32)) ∧ (CsrIn w27 4 Z4 fo2 (some ⟨tb, 0, none⟩) wo2 fc2 tc2 wc2) ∧ (Below w.heap.size w w27) ∧ (IsTold w27 (5, []) vg) ∧ (IsTold w27 (7, [(3, 1)]) vh) ∧ (IsTold w27 (16, [(4, 1)]) vi) ∧ (IsTold w27 (16, [(4, 0)]) vj) ∧ (IsTold w27 (7, [(3, 2)]) vk) ∧ (w27.heap[g8]? = some (.cells #[.int .i64 4, .int .i64 0] 63))) := ⟨(hb.block _ (lt_of_get (H26.out.1))).trans (H26.out.1), (H26.out.2.1).keep hb, btr (H26.out.2.2.1) hb, (H26.out.2.2.2.1).keep (Below.keeps hb), (H26.out.2.2.2.2.1).keep (Below.keeps hb), (H26.out.2.2.2.2.2.1).keep (Below.keeps hb), (H26.out.2.2.2.2.2.2.1).keep (Below.keeps hb), (H26.out.2.2.2.2.2.2.2).keep (Below.keeps hb), hpl⟩
  clear H26
  clear hb hpl
  go_wp2_with fail
  refine (seen1 16 4 0 vj g8 _ (H27.out.2.2.2.2.2.2.1) (H27.out.2.2.2.2.2.2.2.2) (HG.out _ (H27.out.2.2.1))).mono ?_
  rintro e w28 ⟨rfl, hb⟩
  have H28 : Hid ((w28.heap[cb]? = some (.cells #[.slice fo2 5 fc2, .slice (some ⟨tb, 0, none⟩) 4 tc2, .slice wo2 4 wc2] 32)) ∧ (CsrIn w28 4 Z4 fo2 (some ⟨tb, 0, none⟩) wo2 fc2 tc2 wc2) ∧ (Below w.heap.size w w28) ∧ (IsTold w28 (5, []) vg) ∧ (IsTold w28 (7, [(3, 1)]) vh) ∧ (IsTold w28 (16, [(4, 1)]) vi) ∧ (IsTold w28 (16, [(4, 0)]) vj) ∧ (IsTold w28 (7, [(3, 2)]) vk)) := ⟨(hb.block _ (lt_of_get (H27.out.1))).trans (H27.out.1), (H27.out.2.1).keep hb, btr (H27.out.2.2.1) hb, (H27.out.2.2.2.1).keep (Below.keeps hb), (H27.out.2.2.2.2.1).keep (Below.keeps hb), (H27.out.2.2.2.2.2.1).keep (Below.keeps hb), (H27.out.2.2.2.2.2.2.1).keep (Below.keeps hb), (H27.out.2.2.2.2.2.2.2.1).keep (Below.keeps hb)⟩
  clear H27
  clear hb
  go_wp2_with fail
  refine (E_calls 7 _).mono ?_
  rintro e w29 ⟨rfl, hb⟩
  have H29 : Hid ((w29.heap[cb]? = some (.cells #[.slice fo2 5 fc2, .slice (some ⟨tb, 0, none⟩) 4 tc2, .slice wo2 4 wc2] 32)) ∧ (CsrIn w29 4 Z4 fo2 (some ⟨tb, 0, none⟩) wo2 fc2 tc2 wc2) ∧ (Below w.heap.size w w29) ∧ (IsTold w29 (5, []) vg) ∧ (IsTold w29 (7, [(3, 1)]) vh) ∧ (IsTold w29 (16, [(4, 1)]) vi) ∧ (IsTold w29 (16, [(4, 0)]) vj) ∧ (IsTold w29 (7, [(3, 2)]) vk)) := ⟨(hb.block _ (lt_of_get (H28.out.1))).trans (H28.out.1), (H28.out.2.1).keep hb, btr (H28.out.2.2.1) hb, (H28.out.2.2.2.1).keep (Below.keeps hb), (H28.out.2.2.2.2.1).keep (Below.keeps hb), (H28.out.2.2.2.2.2.1).keep (Below.keeps hb), (H28.out.2.2.2.2.2.2.1).keep (Below.keeps hb), (H28.out.2.2.2.2.2.2.2).keep (Below.keeps hb)⟩
  clear H28
  clear hb
  go_wp2_with fail
  refine (refAt_calls 3 2 7 _).mono ?_
  rintro e w30 ⟨g9, rfl, hpl, hb⟩
  have H30 : Hid ((w30.heap[cb]? = some (.cells #[.slice fo2 5 fc2, .slice (some ⟨tb, 0, none⟩) 4 tc2, .slice wo2 4 wc2] 32)) ∧ (CsrIn w30 4 Z4 fo2 (some ⟨tb, 0, none⟩) wo2 fc2 tc2 wc2) ∧ (Below w.heap.size w w30) ∧ (IsTold w30 (5, []) vg) ∧ (IsTold w30 (7, [(3, 1)]) vh) ∧ (IsTold w30 (16, [(4, 1)]) vi) ∧ (IsTold w30 (16, [(4, 0)]) vj) ∧ (IsTold w30 (7, [(3, 2)]) vk) ∧ (w30.heap[g9]? = some (.cells #[.int .i64 3, .int .i64 2] 63))) := ⟨(hb.block _ (lt_of_get (H29.out.1))).trans (H29.out.1), (H29.out.2.1).keep hb, btr (H29.out.2.2.1) hb, (H29.out.2.2.2.1).keep (Below.keeps hb), (H29.out.2.2.2.2.1).keep (Below.keeps hb), (H29.out.2.2.2.2.2.1).keep (Below.keeps hb), (H29.out.2.2.2.2.2.2.1).keep (Below.keeps hb), (H29.out.2.2.2.2.2.2.2).keep (Below.keeps hb), hpl⟩
  clear H29
  clear hb hpl
  go_wp2_with fail
  refine (seen1 7 3 2 vk g9 _ (H30.out.2.2.2.2.2.2.2.1) (H30.out.2.2.2.2.2.2.2.2) (HG.out _ (H30.out.2.2.1))).mono ?_
  rintro e w31 ⟨rfl, hb⟩
  have H31 : Hid ((w31.heap[cb]? = some (.cells #[.slice fo2 5 fc2, .slice (some ⟨tb, 0, none⟩) 4 tc2, .slice wo2 4 wc2] 32)) ∧ (CsrIn w31 4 Z4 fo2 (some ⟨tb, 0, none⟩) wo2 fc2 tc2 wc2) ∧ (Below w.heap.size w w31) ∧ (IsTold w31 (5, []) vg) ∧ (IsTold w31 (7, [(3, 1)]) vh) ∧ (IsTold w31 (16, [(4, 1)]) vi) ∧ (IsTold w31 (16, [(4, 0)]) vj) ∧ (IsTold w31 (7, [(3, 2)]) vk)) := ⟨(hb.block _ (lt_of_get (H30.out.1))).trans (H30.out.1), (H30.out.2.1).keep hb, btr (H30.out.2.2.1) hb, (H30.out.2.2.2.1).keep (Below.keeps hb), (H30.out.2.2.2.2.1).keep (Below.keeps hb), (H30.out.2.2.2.2.2.1).keep (Below.keeps hb), (H30.out.2.2.2.2.2.2.1).keep (Below.keeps hb), (H30.out.2.2.2.2.2.2.2.1).keep (Below.keeps hb)⟩
  clear H30
  clear hb
  obtain ⟨c0, c1, c2⟩ := box3 (H31.out.1)
  have cs := lt_of_get (H31.out.1)
  go_wp2_with fail
  have hN := heap_new w31 (.cells #[.int .i64 0, .int .i64 2] 3)
  have hb : Below w31.heap.size w31 (w31.alloc (.cells #[.int .i64 0, .int .i64 2] 3)) := (Below.refl _ _).alloc (Nat.le_refl _) _
  obtain ⟨b10, hb10⟩ : ∃ b, w31.heap.size = b := ⟨_, rfl⟩
  have hz : (w31.alloc (.cells #[.int .i64 0, .int .i64 2] 3)).heap.size = w31.heap.size + 1 := by simp
  rw [hb10] at hN hz
  generalize w31.alloc (.cells #[.int .i64 0, .int .i64 2] 3) = w32 at *
  have H32 : Hid ((w32.heap[cb]? = some (.cells #[.slice fo2 5 fc2, .slice (some ⟨tb, 0, none⟩) 4 tc2, .slice wo2 4 wc2] 32)) ∧ (CsrIn w32 4 Z4 fo2 (some ⟨tb, 0, none⟩) wo2 fc2 tc2 wc2) ∧ (Below w.heap.size w w32) ∧ (IsTold w32 (5, []) vg) ∧ (IsTold w32 (7, [(3, 1)]) vh) ∧ (IsTold w32 (16, [(4, 1)]) vi) ∧ (IsTold w32 (16, [(4, 0)]) vj) ∧ (IsTold w32 (7, [(3, 2)]) vk) ∧ (HasInts w32 (.slice (some ⟨b10, 0, none⟩) 2 2) [0, 2])) := ⟨(hb.block _ (lt_of_get (H31.out.1))).trans (H31.out.1), (H31.out.2.1).keep hb, btr (H31.out.2.2.1) hb, (H31.out.2.2.2.1).keep (Below.keeps hb), (H31.out.2.2.2.2.1).keep (Below.keeps hb), (H31.out.2.2.2.2.2.1).keep (Below.keeps hb), (H31.out.2.2.2.2.2.2.1).keep (Below.keeps hb), (H31.out.2.2.2.2.2.2.2).keep (Below.keeps hb), ints_new (l := [0, 2]) hN rfl⟩
  clear H31
  clear hN hb
  rw [hb10]
  clear hb10
  clear hz
  refine (short4 _ _ _ _ _ _ _ (H32.out.2.1) HTC.out _ 1 2 2 [0, 2] rfl (H32.out.2.2.2.2.2.2.2.2) (by omega) (by omega) rfl rfl (by omega) 5 rfl 9 li8).mono ?_
  rintro e w33 ⟨rfl, hb⟩
  have H33 : Hid ((w33.heap[cb]? = some (.cells #[.slice fo2 5 fc2, .slice (some ⟨tb, 0, none⟩) 4 tc2, .slice wo2 4 wc2] 32)) ∧ (CsrIn w33 4 Z4 fo2 (some ⟨tb, 0, none⟩) wo2 fc2 tc2 wc2) ∧ (Below w.heap.size w w33) ∧ (IsTold w33 (5, []) vg) ∧ (IsTold w33 (7, [(3, 1)]) vh) ∧ (IsTold w33 (16, [(4, 1)]) vi) ∧ (IsTold w33 (16, [(4, 0)]) vj) ∧ (IsTold w33 (7, [(3, 2)]) vk)) := ⟨(hb.block _ (lt_of_get (H32.out.1))).trans (H32.out.1), (H32.out.2.1).keep hb, btr (H32.out.2.2.1) hb, (H32.out.2.2.2.1).keep (Below.keeps hb), (H32.out.2.2.2.2.1).keep (Below.keeps hb), (H32.out.2.2.2.2.2.1).keep (Below.keeps hb), (H32.out.2.2.2.2.2.2.1).keep (Below.keeps hb), (H32.out.2.2.2.2.2.2.2.1).keep (Below.keeps hb)⟩
  clear H32
  clear hb
  clear c0 c1 c2 cs
  obtain ⟨c0, c1, c2⟩ := box3 (H33.out.1)
  have cs := lt_of_get (H33.out.1)
  go_wp2_with fail
  have hN := heap_new w33 (.cells #[.int .i64 0, .int .i64 1, .int .i64 2] 3)
  have hb : Below w33.heap.size w33 (w33.alloc (.cells #[.int .i64 0, .int .i64 1, .int .i64 2] 3)) := (Below.refl _ _).alloc (Nat.le_refl _) _
  obtain ⟨b11, hb11⟩ : ∃ b, w33.heap.size = b := ⟨_, rfl⟩
  have hz : (w33.alloc (.cells #[.int .i64 0, .int .i64 1, .int .i64 2] 3)).heap.size = w33.heap.size + 1 := by simp
  rw [hb11] at hN hz
  generalize w33.alloc (.cells #[.int .i64 0, .int .i64 1, .int .i64 2] 3) = w34 at *
  have H34 : Hid ((w34.heap[cb]? = some (.cells #[.slice fo2 5 fc2, .slice (some ⟨tb, 0, none⟩) 4 tc2, .slice wo2 4 wc2] 32)) ∧ (CsrIn w34 4 Z4 fo2 (some ⟨tb, 0, none⟩) wo2 fc2 tc2 wc2) ∧ (Below w.heap.size w w34) ∧ (IsTold w34 (5, []) vg) ∧ (IsTold w34 (7, [(3, 1)]) vh) ∧ (IsTold w34 (16, [(4, 1)]) vi) ∧ (IsTold w34 (16, [(4, 0)]) vj) ∧ (IsTold w34 (7, [(3, 2)]) vk) ∧ (HasInts w34 (.slice (some ⟨b11, 0, none⟩) 3 3) [0, 1, 2])) := ⟨(hb.block _ (lt_of_get (H33.out.1))).trans (H33.out.1), (H33.out.2.1).keep hb, btr (H33.out.2.2.1) hb, (H33.out.2.2.2.1).keep (Below.keeps hb), (H33.out.2.2.2.2.1).keep (Below.keeps hb), (H33.out.2.2.2.2.2.1).keep (Below.keeps hb), (H33.out.2.2.2.2.2.2.1).keep (Below.keeps hb), (H33.out.2.2.2.2.2.2.2).keep (Below.keeps hb), ints_new (l := [0, 1, 2]) hN rfl⟩
  clear H33
  clear hN hb
  rw [hb11]
  clear hb11
  clear hz
  refine (short4 _ _ _ _ _ _ _ (H34.out.2.1) HTC.out _ 2 3 2 [0, 1, 2] rfl (H34.out.2.2.2.2.2.2.2.2) (by omega) (by omega) rfl rfl (by omega) 5 rfl 5 li1).mono ?_
  rintro e w35 ⟨rfl, hb⟩
  have H35 : Hid ((w35.heap[cb]? = some (.cells #[.slice fo2 5 fc2, .slice (some ⟨tb, 0, none⟩) 4 tc2, .slice wo2 4 wc2] 32)) ∧ (CsrIn w35 4 Z4 fo2 (some ⟨tb, 0, none⟩) wo2 fc2 tc2 wc2) ∧ (Below w.heap.size w w35) ∧ (IsTold w35 (5, []) vg) ∧ (IsTold w35 (7, [(3, 1)]) vh) ∧ (IsTold w35 (16, [(4, 1)]) vi) ∧ (IsTold w35 (16, [(4, 0)]) vj) ∧ (IsTold w35 (7, [(3, 2)]) vk)) := ⟨(hb.block _ (lt_of_get (H34.out.1))).trans (H34.out.1), (H34.out.2.1).keep hb, btr (H34.out.2.2.1) hb, (H34.out.2.2.2.1).keep (Below.keeps hb), (H34.out.2.2.2.2.1).keep (Below.keeps hb), (H34.out.2.2.2.2.2.1).keep (Below.keeps hb), (H34.out.2.2.2.2.2.2.1).keep (Below.keeps hb), (H34.out.2.2.2.2.2.2.2.1).keep (Below.keeps hb)⟩
  clear H34
  clear hb
  clear c0 c1 c2 cs
  go_wp2_with fail
  refine (short0 _).mono ?_
  rintro e w36 ⟨vz, rfl, ht, hb⟩
  have H36 : Hid ((w36.heap[cb]? = some (.cells #[.slice fo2 5 fc2, .slice (some ⟨tb, 0, none⟩) 4 tc2, .slice wo2 4 wc2] 32)) ∧ (CsrIn w36 4 Z4 fo2 (some ⟨tb, 0, none⟩) wo2 fc2 tc2 wc2) ∧ (Below w.heap.size w w36) ∧ (IsTold w36 (5, []) vg) ∧ (IsTold w36 (7, [(3, 1)]) vh) ∧ (IsTold w36 (16, [(4, 1)]) vi) ∧ (IsTold w36 (16, [(4, 0)]) vj) ∧ (IsTold w36 (7, [(3, 2)]) vk) ∧ (IsTold w36 (14, []) vz)) := ⟨(hb.block _ (lt_of_get (H35.out.1))).trans (H35.out.1), (H35.out.2.1).keep hb, btr (H35.out.2.2.1) hb, (H35.out.2.2.2.1).keep (Below.keeps hb), (H35.out.2.2.2.2.1).keep (Below.keeps hb), (H35.out.2.2.2.2.2.1).keep (Below.keeps hb), (H35.out.2.2.2.2.2.2.1).keep (Below.keeps hb), (H35.out.2.2.2.2.2.2.2).keep (Below.keeps hb), ht⟩
  clear H35
  clear hb ht
  go_wp2_with fail
  have hN := heap_new w36 (.cells #[.int .i64 0, .int .i64 1] 3)
  have hb : Below w36.heap.size w36 (w36.alloc (.cells #[.int .i64 0, .int .i64 1] 3)) := (Below.refl _ _).alloc (Nat.le_refl _) _
  obtain ⟨b12, hb12⟩ : ∃ b, w36.heap.size = b := ⟨_, rfl⟩
  have hz : (w36.alloc (.cells #[.int .i64 0, .int .i64 1] 3)).heap.size = w36.heap.size + 1 := by simp
  rw [hb12] at hN hz
  generalize w36.alloc (.cells #[.int .i64 0, .int .i64 1] 3) = w37 at *
  have H37 : Hid ((w37.heap[cb]? = some (.cells #[.slice fo2 5 fc2, .slice (some ⟨tb, 0, none⟩) 4 tc2, .slice wo2 4 wc2] 32)) ∧ (CsrIn w37 4 Z4 fo2 (some ⟨tb, 0, none⟩) wo2 fc2 tc2 wc2) ∧ (Below w.heap.size w w37) ∧ (IsTold w37 (5, []) vg) ∧ (IsTold w37 (7, [(3, 1)]) vh) ∧ (IsTold w37 (16, [(4, 1)]) vi) ∧ (IsTold w37 (16, [(4, 0)]) vj) ∧ (IsTold w37 (7, [(3, 2)]) vk) ∧ (IsTold w37 (14, []) vz) ∧ (HasInts w37 (.slice (some ⟨b12, 0, none⟩) 2 2) [0, 1])) := ⟨(hb.block _ (lt_of_get (H36.out.1))).trans (H36.out.1), (H36.out.2.1).keep hb, btr (H36.out.2.2.1) hb, (H36.out.2.2.2.1).keep (Below.keeps hb), (H36.out.2.2.2.2.1).keep (Below.keeps hb), (H36.out.2.2.2.2.2.1).keep (Below.keeps hb), (H36.out.2.2.2.2.2.2.1).keep (Below.keeps hb), (H36.out.2.2.2.2.2.2.2.1).keep (Below.keeps hb), (H36.out.2.2.2.2.2.2.2.2).keep (Below.keeps hb), ints_new (l := [0, 1]) hN rfl⟩
  clear H36
  clear hN hb
  rw [hb12]
  clear hb12
  rw [← hz]
  clear hz
  have hN := heap_new w37 (.cells #[.int .i64 1, .int .i64 2] 3)
  have hb : Below w37.heap.size w37 (w37.alloc (.cells #[.int .i64 1, .int .i64 2] 3)) := (Below.refl _ _).alloc (Nat.le_refl _) _
  obtain ⟨b13, hb13⟩ : ∃ b, w37.heap.size = b := ⟨_, rfl⟩
  have hz : (w37.alloc (.cells #[.int .i64 1, .int .i64 2] 3)).heap.size = w37.heap.size + 1 := by simp
  rw [hb13] at hN hz
  generalize w37.alloc (.cells #[.int .i64 1, .int .i64 2] 3) = w38 at *
  have H38 : Hid ((w38.heap[cb]? = some (.cells #[.slice fo2 5 fc2, .slice (some ⟨tb, 0, none⟩) 4 tc2, .slice wo2 4 wc2] 32)) ∧ (CsrIn w38 4 Z4 fo2 (some ⟨tb, 0, none⟩) wo2 fc2 tc2 wc2) ∧ (Below w.heap.size w w38) ∧ (IsTold w38 (5, []) vg) ∧ (IsTold w38 (7, [(3, 1)]) vh) ∧ (IsTold w38 (16, [(4, 1)]) vi) ∧ (IsTold w38 (16, [(4, 0)]) vj) ∧ (IsTold w38 (7, [(3, 2)]) vk) ∧ (IsTold w38 (14, []) vz) ∧ (HasInts w38 (.slice (some ⟨b12, 0, none⟩) 2 2) [0, 1]) ∧ (HasInts w38 (.slice (some ⟨b13, 0, none⟩) 2 2) [1, 2])) := ⟨(hb.block _ (lt_of_get (H37.out.1))).trans (H37.out.1), (H37.out.2.1).keep hb, btr (H37.out.2.2.1) hb, (H37.out.2.2.2.1).keep (Below.keeps hb), (H37.out.2.2.2.2.1).keep (Below.keeps hb), (H37.out.2.2.2.2.2.1).keep (Below.keeps hb), (H37.out.2.2.2.2.2.2.1).keep (Below.keeps hb), (H37.out.2.2.2.2.2.2.2.1).keep (Below.keeps hb), (H37.out.2.2.2.2.2.2.2.2.1).keep (Below.keeps hb), (H37.out.2.2.2.2.2.2.2.2.2).keep hb, ints_new (l := [1, 2]) hN rfl⟩
  clear H37
  clear hN hb
  rw [hb13]
  clear hb13
  clear hz
  refine (join_any (some ⟨b12, 0, none⟩) (some ⟨b13, 0, none⟩) 2 2 [0, 1] [1, 2] _ (H38.out.2.2.2.2.2.2.2.2.2.1) (H38.out.2.2.2.2.2.2.2.2.2.2) (by simp) (by simp)).mono ?_
  rintro e w39 ⟨so, sc, rfl, ho, hb⟩
  have HO := ints_of_iown ho
  rw [show joinL [0, 1] [1, 2] = [0, 1, 2] by decide] at HO ⊢
  rw [show joinN [0, 1] [1, 2] = 0 by decide]
  have HJ : Hid (HasInts w39 (.slice so 3 sc) [0, 1, 2]) := HO
  rw [show jErr 0 = .nilIface from rfl, show ([0, 1, 2] : List Int).length = 3 from rfl]
  have H39 : Hid ((w39.heap[cb]? = some (.cells #[.slice fo2 5 fc2, .slice (some ⟨tb, 0, none⟩) 4 tc2, .slice wo2 4 wc2] 32)) ∧ (CsrIn w39 4 Z4 fo2 (some ⟨tb, 0, none⟩) wo2 fc2 tc2 wc2) ∧ (Below w.heap.size w w39) ∧ (IsTold w39 (5, []) vg) ∧ (IsTold w39 (7, [(3, 1)]) vh) ∧ (IsTold w39 (16, [(4, 1)]) vi) ∧ (IsTold w39 (16, [(4, 0)]) vj) ∧ (IsTold w39 (7, [(3, 2)]) vk) ∧ (IsTold w39 (14, []) vz) ∧ (HasInts w39 (.slice so 3 sc) [0, 1, 2])) := ⟨(hb.block _ (lt_of_get (H38.out.1))).trans (H38.out.1), (H38.out.2.1).keep hb, btr (H38.out.2.2.1) hb, (H38.out.2.2.2.1).keep (Below.keeps hb), (H38.out.2.2.2.2.1).keep (Below.keeps hb), (H38.out.2.2.2.2.2.1).keep (Below.keeps hb), (H38.out.2.2.2.2.2.2.1).keep (Below.keeps hb), (H38.out.2.2.2.2.2.2.2.1).keep (Below.keeps hb), (H38.out.2.2.2.2.2.2.2.2.1).keep (Below.keeps hb), HJ.out⟩
  clear H38
  clear hb ho HO HJ
  generalize so = jo at *
  generalize sc = jc at *
  go_wp2_with fail
  have hN := heap_new w39 (.cells #[.int .i64 0, .int .i64 1] 3)
  have hb : Below w39.heap.size w39 (w39.alloc (.cells #[.int .i64 0, .int .i64 1] 3)) := (Below.refl _ _).alloc (Nat.le_refl _) _
  obtain ⟨b14, hb14⟩ : ∃ b, w39.heap.size = b := ⟨_, rfl⟩
  have hz : (w39.alloc (.cells #[.int .i64 0, .int .i64 1] 3)).heap.size = w39.heap.size + 1 := by simp
  rw [hb14] at hN hz
  generalize w39.alloc (.cells #[.int .i64 0, .int .i64 1] 3) = w40 at *
  have H40 : Hid ((w40.heap[cb]? = some (.cells #[.slice fo2 5 fc2, .slice (some ⟨tb, 0, none⟩) 4 tc2, .slice wo2 4 wc2] 32)) ∧ (CsrIn w40 4 Z4 fo2 (some ⟨tb, 0, none⟩) wo2 fc2 tc2 wc2) ∧ (Below w.heap.size w w40) ∧ (IsTold w40 (5, []) vg) ∧ (IsTold w40 (7, [(3, 1)]) vh) ∧ (IsTold w40 (16, [(4, 1)]) vi) ∧ (IsTold w40 (16, [(4, 0)]) vj) ∧ (IsTold w40 (7, [(3, 2)]) vk) ∧ (IsTold w40 (14, []) vz) ∧ (HasInts w40 (.slice jo 3 jc) [0, 1, 2]) ∧ (HasInts w40 (.slice (some ⟨b14, 0, none⟩) 2 2) [0, 1])) := ⟨(hb.block _ (lt_of_get (H39.out.1))).trans (H39.out.1), (H39.out.2.1).keep hb, btr (H39.out.2.2.1) hb, (H39.out.2.2.2.1).keep (Below.keeps hb), (H39.out.2.2.2.2.1).keep (Below.keeps hb), (H39.out.2.2.2.2.2.1).keep (Below.keeps hb), (H39.out.2.2.2.2.2.2.1).keep (Below.keeps hb), (H39.out.2.2.2.2.2.2.2.1).keep (Below.keeps hb), (H39.out.2.2.2.2.2.2.2.2.1).keep (Below.keeps hb), (H39.out.2.2.2.2.2.2.2.2.2).keep hb, ints_new (l := [0, 1]) hN rfl⟩
  clear H39
  clear hN hb
  rw [hb14]
  clear hb14
  rw [← hz]
  clear hz
  have hN := heap_new w40 (.cells #[.int .i64 2] 3)
  have hb : Below w40.heap.size w40 (w40.alloc (.cells #[.int .i64 2] 3)) := (Below.refl _ _).alloc (Nat.le_refl _) _
  obtain ⟨b15, hb15⟩ : ∃ b, w40.heap.size = b := ⟨_, rfl⟩
  have hz : (w40.alloc (.cells #[.int .i64 2] 3)).heap.size = w40.heap.size + 1 := by simp
  rw [hb15] at hN hz
  generalize w40.alloc (.cells #[.int .i64 2] 3) = w41 at *
  have H41 : Hid ((w41.heap[cb]? = some (.cells #[.slice fo2 5 fc2, .slice (some ⟨tb, 0, none⟩) 4 tc2, .slice wo2 4 wc2] 32)) ∧ (CsrIn w41 4 Z4 fo2 (some ⟨tb, 0, none⟩) wo2 fc2 tc2 wc2) ∧ (Below w.heap.size w w41) ∧ (IsTold w41 (5, []) vg) ∧ (IsTold w41 (7, [(3, 1)]) vh) ∧ (IsTold w41 (16, [(4, 1)]) vi) ∧ (IsTold w41 (16, [(4, 0)]) vj) ∧ (IsTold w41 (7, [(3, 2)]) vk) ∧ (IsTold w41 (14, []) vz) ∧ (HasInts w41 (.slice jo 3 jc) [0, 1, 2]) ∧ (HasInts w41 (.slice (some ⟨b14, 0, none⟩) 2 2) [0, 1]) ∧ (HasInts w41 (.slice (some ⟨b15, 0, none⟩) 1 1) [2])) := ⟨(hb.block _ (lt_of_get (H40.out.1))).trans (H40.out.1), (H40.out.2.1).keep hb, btr (H40.out.2.2.1) hb, (H40.out.2.2.2.1).keep (Below.keeps hb), (H40.out.2.2.2.2.1).keep (Below.keeps hb), (H40.out.2.2.2.2.2.1).keep (Below.keeps hb), (H40.out.2.2.2.2.2.2.1).keep (Below.keeps hb), (H40.out.2.2.2.2.2.2.2.1).keep (Below.keeps hb), (H40.out.2.2.2.2.2.2.2.2.1).keep (Below.keeps hb), (H40.out.2.2.2.2.2.2.2.2.2.1).keep hb, (H40.out.2.2.2.2.2.2.2.2.2.2).keep hb, ints_new (l := [2]) hN rfl⟩
  clear H40
  clear hN hb
  rw [hb15]
  clear hb15
  clear hz
  refine (join_any (some ⟨b14, 0, none⟩) (some ⟨b15, 0, none⟩) 2 1 [0, 1] [2] _ (H41.out.2.2.2.2.2.2.2.2.2.2.1) (H41.out.2.2.2.2.2.2.2.2.2.2.2) (by simp) (by simp)).mono ?_
  rintro e w42 ⟨so, sc, rfl, ho, hb⟩
  have HO := ints_of_iown ho
  rw [show joinL [0, 1] [2] = [] by decide] at HO ⊢
  rw [show joinN [0, 1] [2] = 16 by decide]
  obtain ⟨ui, hui⟩ : ∃ u, u = jErr 16 := ⟨_, rfl⟩
  have HJ : Hid (IsTold w42 (16, []) ui) := by rw [hui]; exact jErr_told9 _ 16
  rw [← hui]
  have H42 : Hid ((w42.heap[cb]? = some (.cells #[.slice fo2 5 fc2, .slice (some ⟨tb, 0, none⟩) 4 tc2, .slice wo2 4 wc2] 32)) ∧ (CsrIn w42 4 Z4 fo2 (some ⟨tb, 0, none⟩) wo2 fc2 tc2 wc2) ∧ (Below w.heap.size w w42) ∧ (IsTold w42 (5, []) vg) ∧ (IsTold w42 (7, [(3, 1)]) vh) ∧ (IsTold w42 (16, [(4, 1)]) vi) ∧ (IsTold w42 (16, [(4, 0)]) vj) ∧ (IsTold w42 (7, [(3, 2)]) vk) ∧ (IsTold w42 (14, []) vz) ∧ (HasInts w42 (.slice jo 3 jc) [0, 1, 2]) ∧ (IsTold w42 (16, []) ui)) := ⟨(hb.block _ (lt_of_get (H41.out.1))).trans (H41.out.1), (H41.out.2.1).keep hb, btr (H41.out.2.2.1) hb, (H41.out.2.2.2.1).keep (Below.keeps hb), (H41.out.2.2.2.2.1).keep (Below.keeps hb), (H41.out.2.2.2.2.2.1).keep (Below.keeps hb), (H41.out.2.2.2.2.2.2.1).keep (Below.keeps hb), (H41.out.2.2.2.2.2.2.2.1).keep (Below.keeps hb), (H41.out.2.2.2.2.2.2.2.2.1).keep (Below.keeps hb), (H41.out.2.2.2.2.2.2.2.2.2.1).keep hb, HJ.out⟩
  clear H41
  clear hb ho HO HJ hui
  go_wp2_with fail
  have hN := heap_new w42 (.cells #[.int .i64 2] 3)
  have hb : Below w42.heap.size w42 (w42.alloc (.cells #[.int .i64 2] 3)) := (Below.refl _ _).alloc (Nat.le_refl _) _
  obtain ⟨b16, hb16⟩ : ∃ b, w42.heap.size = b := ⟨_, rfl⟩
  have hz : (w42.alloc (.cells #[.int .i64 2] 3)).heap.size = w42.heap.size + 1 := by simp
  rw [hb16] at hN hz
  generalize w42.alloc (.cells #[.int .i64 2] 3) = w43 at *
  have H43 : Hid ((w43.heap[cb]? = some (.cells #[.slice fo2 5 fc2, .slice (some ⟨tb, 0, none⟩) 4 tc2, .slice wo2 4 wc2] 32)) ∧ (CsrIn w43 4 Z4 fo2 (some ⟨tb, 0, none⟩) wo2 fc2 tc2 wc2) ∧ (Below w.heap.size w w43) ∧ (IsTold w43 (5, []) vg) ∧ (IsTold w43 (7, [(3, 1)]) vh) ∧ (IsTold w43 (16, [(4, 1)]) vi) ∧ (IsTold w43 (16, [(4, 0)]) vj) ∧ (IsTold w43 (7, [(3, 2)]) vk) ∧ (IsTold w43 (14, []) vz) ∧ (HasInts w43 (.slice jo 3 jc) [0, 1, 2]) ∧ (IsTold w43 (16, []) ui) ∧ (HasInts w43 (.slice (some ⟨b16, 0, none⟩) 1 1) [2])) := ⟨(hb.block _ (lt_of_get (H42.out.1))).trans (H42.out.1), (H42.out.2.1).keep hb, btr (H42.out.2.2.1) hb, (H42.out.2.2.2.1).keep (Below.keeps hb), (H42.out.2.2.2.2.1).keep (Below.keeps hb), (H42.out.2.2.2.2.2.1).keep (Below.keeps hb), (H42.out.2.2.2.2.2.2.1).keep (Below.keeps hb), (H42.out.2.2.2.2.2.2.2.1).keep (Below.keeps hb), (H42.out.2.2.2.2.2.2.2.2.1).keep (Below.keeps hb), (H42.out.2.2.2.2.2.2.2.2.2.1).keep hb, (H42.out.2.2.2.2.2.2.2.2.2.2).keep (Below.keeps hb), ints_new (l := [2]) hN rfl⟩
  clear H42
  clear hN hb
  rw [hb16]
  clear hb16
  clear hz
  refine (join_any none (some ⟨b16, 0, none⟩) 0 1 [] [2] _ (⟨none, 0, rfl, fun j a hj => by simp at hj⟩) (H43.out.2.2.2.2.2.2.2.2.2.2.2) (by simp) (by simp)).mono ?_
  rintro e w44 ⟨so, sc, rfl, ho, hb⟩
  have HO := ints_of_iown ho
  rw [show joinL [] [2] = [] by decide] at HO ⊢
  rw [show joinN [] [2] = 5 by decide]
  obtain ⟨uj, huj⟩ : ∃ u, u = jErr 5 := ⟨_, rfl⟩
  have HJ : Hid (IsTold w44 (5, []) uj) := by rw [huj]; exact jErr_told9 _ 5
  rw [← huj]
  have H44 : Hid ((w44.heap[cb]? = some (.cells #[.slice fo2 5 fc2, .slice (some ⟨tb, 0, none⟩) 4 tc2, .slice wo2 4 wc2] 32)) ∧ (CsrIn w44 4 Z4 fo2 (some ⟨tb, 0, none⟩) wo2 fc2 tc2 wc2) ∧ (Below w.heap.size w w44) ∧ (IsTold w44 (5, []) vg) ∧ (IsTold w44 (7, [(3, 1)]) vh) ∧ (IsTold w44 (16, [(4, 1)]) vi) ∧ (IsTold w44 (16, [(4, 0)]) vj) ∧ (IsTold w44 (7, [(3, 2)]) vk) ∧ (IsTold w44 (14, []) vz) ∧ (HasInts w44 (.slice jo 3 jc) [0, 1, 2]) ∧ (IsTold w44 (16, []) ui) ∧ (IsTold w44 (5, []) uj)) := ⟨(hb.block _ (lt_of_get (H43.out.1))).trans (H43.out.1), (H43.out.2.1).keep hb, btr (H43.out.2.2.1) hb, (H43.out.2.2.2.1).keep (Below.keeps hb), (H43.out.2.2.2.2.1).keep (Below.keeps hb), (H43.out.2.2.2.2.2.1).keep (Below.keeps hb), (H43.out.2.2.2.2.2.2.1).keep (Below.keeps hb), (H43.out.2.2.2.2.2.2.2.1).keep (Below.keeps hb), (H43.out.2.2.2.2.2.2.2.2.1).keep (Below.keeps hb), (H43.out.2.2.2.2.2.2.2.2.2.1).keep hb, (H43.out.2.2.2.2.2.2.2.2.2.2.1).keep (Below.keeps hb), HJ.out⟩
  clear H43
  clear hb ho HO HJ huj
  go_wp2_with fail
  have hN := heap_new w44 (.cells #[.int .i64 2] 3)
  have hb : Below w44.heap.size w44 (w44.alloc (.cells #[.int .i64 2] 3)) := (Below.refl _ _).alloc (Nat.le_refl _) _
  obtain ⟨b17, hb17⟩ : ∃ b, w44.heap.size = b := ⟨_, rfl⟩
  have hz : (w44.alloc (.cells #[.int .i64 2] 3)).heap.size = w44.heap.size + 1 := by simp
  rw [hb17] at hN hz
  generalize w44.alloc (.cells #[.int .i64 2] 3) = w45 at *
  have H45 : Hid ((w45.heap[cb]? = some (.cells #[.slice fo2 5 fc2, .slice (some ⟨tb, 0, none⟩) 4 tc2, .slice wo2 4 wc2] 32)) ∧ (CsrIn w45 4 Z4 fo2 (some ⟨tb, 0, none⟩) wo2 fc2 tc2 wc2) ∧ (Below w.heap.size w w45) ∧ (IsTold w45 (5, []) vg) ∧ (IsTold w45 (7, [(3, 1)]) vh) ∧ (IsTold w45 (16, [(4, 1)]) vi) ∧ (IsTold w45 (16, [(4, 0)]) vj) ∧ (IsTold w45 (7, [(3, 2)]) vk) ∧ (IsTold w45 (14, []) vz) ∧ (HasInts w45 (.slice jo 3 jc) [0, 1, 2]) ∧ (IsTold w45 (16, []) ui) ∧ (IsTold w45 (5, []) uj) ∧ (HasInts w45 (.slice (some ⟨b17, 0, none⟩) 1 1) [2])) := ⟨(hb.block _ (lt_of_get (H44.out.1))).trans (H44.out.1), (H44.out.2.1).keep hb, btr (H44.out.2.2.1) hb, (H44.out.2.2.2.1).keep (Below.keeps hb), (H44.out.2.2.2.2.1).keep (Below.keeps hb), (H44.out.2.2.2.2.2.1).keep (Below.keeps hb), (H44.out.2.2.2.2.2.2.1).keep (Below.keeps hb), (H44.out.2.2.2.2.2.2.2.1).keep (Below.keeps hb), (H44.out.2.2.2.2.2.2.2.2.1).keep (Below.keeps hb), (H44.out.2.2.2.2.2.2.2.2.2.1).keep hb, (H44.out.2.2.2.2.2.2.2.2.2.2.1).keep (Below.keeps hb), (H44.out.2.2.2.2.2.2.2.2.2.2.2).keep (Below.keeps hb), ints_new (l := [2]) hN rfl⟩
  clear H44
  clear hN hb
  rw [hb17]
  clear hb17
  clear hz
  refine (join_any (some ⟨b17, 0, none⟩) none 1 0 [2] [] _ (H45.out.2.2.2.2.2.2.2.2.2.2.2.2) (⟨none, 0, rfl, fun j a hj => by simp at hj⟩) (by simp) (by simp)).mono ?_
  rintro e w46 ⟨so, sc, rfl, ho, hb⟩
  have HO := ints_of_iown ho
  rw [show joinL [2] [] = [] by decide] at HO ⊢
  rw [show joinN [2] [] = 5 by decide]
  obtain ⟨uk, huk⟩ : ∃ u, u = jErr 5 := ⟨_, rfl⟩
  have HJ : Hid (IsTold w46 (5, []) uk) := by rw [huk]; exact jErr_told9 _ 5
  rw [← huk]
  have H46 : Hid ((w46.heap[cb]? = some (.cells #[.slice fo2 5 fc2, .slice (some ⟨tb, 0, none⟩) 4 tc2, .slice wo2 4 wc2] 32)) ∧ (CsrIn w46 4 Z4 fo2 (some ⟨tb, 0, none⟩) wo2 fc2 tc2 wc2) ∧ (Below w.heap.size w w46) ∧ (IsTold w46 (5, []) vg) ∧ (IsTold w46 (7, [(3, 1)]) vh) ∧ (IsTold w46 (16, [(4, 1)]) vi) ∧ (IsTold w46 (16, [(4, 0)]) vj) ∧ (IsTold w46 (7, [(3, 2)]) vk) ∧ (IsTold w46 (14, []) vz) ∧ (HasInts w46 (.slice jo 3 jc) [0, 1, 2]) ∧ (IsTold w46 (16, []) ui) ∧ (IsTold w46 (5, []) uj) ∧ (IsTold w46 (5, []) uk)) := ⟨(hb.block _ (lt_of_get (H45.out.1))).trans (H45.out.1), (H45.out.2.1).keep hb, btr (H45.out.2.2.1) hb, (H45.out.2.2.2.1).keep (Below.keeps hb), (H45.out.2.2.2.2.1).keep (Below.keeps hb), (H45.out.2.2.2.2.2.1).keep (Below.keeps hb), (H45.out.2.2.2.2.2.2.1).keep (Below.keeps hb), (H45.out.2.2.2.2.2.2.2.1).keep (Below.keeps hb), (H45.out.2.2.2.2.2.2.2.2.1).keep (Below.keeps hb), (H45.out.2.2.2.2.2.2.2.2.2.1).keep hb, (H45.out.2.2.2.2.2.2.2.2.2.2.1).keep (Below.keeps hb), (H45.out.2.2.2.2.2.2.2.2.2.2.2.1).keep (Below.keeps hb), HJ.out⟩
  clear H45
  clear hb ho HO HJ huk
  go_wp2_with fail
  refine (E_calls 14 _).mono ?_
  rintro e w47 ⟨rfl, hb⟩
  have H47 : Hid ((w47.heap[cb]? = some (.cells #[.slice fo2 5 fc2, .slice (some ⟨tb, 0, none⟩) 4 tc2, .slice wo2 4 wc2] 32)) ∧ (CsrIn w47 4 Z4 fo2 (some ⟨tb, 0, none⟩) wo2 fc2 tc2 wc2) ∧ (Below w.heap.size w w47) ∧ (IsTold w47 (5, []) vg) ∧ (IsTold w47 (7, [(3, 1)]) vh) ∧ (IsTold w47 (16, [(4, 1)]) vi) ∧ (IsTold w47 (16, [(4, 0)]) vj) ∧ (IsTold w47 (7, [(3, 2)]) vk) ∧ (IsTold w47 (14, []) vz) ∧ (HasInts w47 (.slice jo 3 jc) [0, 1, 2]) ∧ (IsTold w47 (16, []) ui) ∧ (IsTold w47 (5, []) uj) ∧ (IsTold w47 (5, []) uk)) := ⟨(hb.block _ (lt_of_get (H46.out.1))).trans (H46.out.1), (H46.out.2.1).keep hb, btr (H46.out.2.2.1) hb, (H46.out.2.2.2.1).keep (Below.keeps hb), (H46.out.2.2.2.2.1).keep (Below.keeps hb), (H46.out.2.2.2.2.2.1).keep (Below.keeps hb), (H46.out.2.2.2.2.2.2.1).keep (Below.keeps hb), (H46.out.2.2.2.2.2.2.2.1).keep (Below.keeps hb), (H46.out.2.2.2.2.2.2.2.2.1).keep (Below.keeps hb), (H46.out.2.2.2.2.2.2.2.2.2.1).keep hb, (H46.out.2.2.2.2.2.2.2.2.2.2.1).keep (Below.keeps hb), (H46.out.2.2.2.2.2.2.2.2.2.2.2.1).keep (Below.keeps hb), (H46.out.2.2.2.2.2.2.2.2.2.2.2.2).keep (Below.keeps hb)⟩
  clear H46
  clear hb
  go_wp2_with fail
  refine (seen0 14 vz _ (H47.out.2.2.2.2.2.2.2.2.1) (HG.out _ (H47.out.2.2.1))).mono ?_
  rintro e w48 ⟨rfl, hb⟩
  have H48 : Hid ((w48.heap[cb]? = some (.cells #[.slice fo2 5 fc2, .slice (some ⟨tb, 0, none⟩) 4 tc2, .slice wo2 4 wc2] 32)) ∧ (CsrIn w48 4 Z4 fo2 (some ⟨tb, 0, none⟩) wo2 fc2 tc2 wc2) ∧ (Below w.heap.size w w48) ∧ (IsTold w48 (5, []) vg) ∧ (IsTold w48 (7, [(3, 1)]) vh) ∧ (IsTold w48 (16, [(4, 1)]) vi) ∧ (IsTold w48 (16, [(4, 0)]) vj) ∧ (IsTold w48 (7, [(3, 2)]) vk) ∧ (IsTold w48 (14, []) vz) ∧ (HasInts w48 (.slice jo 3 jc) [0, 1, 2]) ∧ (IsTold w48 (16, []) ui) ∧ (IsTold w48 (5, []) uj) ∧ (IsTold w48 (5, []) uk)) := ⟨(hb.block _ (lt_of_get (H47.out.1))).trans (H47.out.1), (H47.out.2.1).keep hb, btr (H47.out.2.2.1) hb, (H47.out.2.2.2.1).keep (Below.keeps hb), (H47.out.2.2.2.2.1).keep (Below.keeps hb), (H47.out.2.2.2.2.2.1).keep (Below.keeps hb), (H47.out.2.2.2.2.2.2.1).keep (Below.keeps hb), (H47.out.2.2.2.2.2.2.2.1).keep (Below.keeps hb), (H47.out.2.2.2.2.2.2.2.2.1).keep (Below.keeps hb), (H47.out.2.2.2.2.2.2.2.2.2.1).keep hb, (H47.out.2.2.2.2.2.2.2.2.2.2.1).keep (Below.keeps hb), (H47.out.2.2.2.2.2.2.2.2.2.2.2.1).keep (Below.keeps hb), (H47.out.2.2.2.2.2.2.2.2.2.2.2.2).keep (Below.keeps hb)⟩
  clear H47
  clear hb
  go_wp2_with fail
  have hN := heap_new w48 (.cells #[.int .i64 0, .int .i64 1, .int .i64 2] 3)
  have hb : Below w48.heap.size w48 (w48.alloc (.cells #[.int .i64 0, .int .i64 1, .int .i64 2] 3)) := (Below.refl _ _).alloc (Nat.le_refl _) _
  obtain ⟨b18, hb18⟩ : ∃ b, w48.heap.size = b := ⟨_, rfl⟩
  have hz : (w48.alloc (.cells #[.int .i64 0, .int .i64 1, .int .i64 2] 3)).heap.size = w48.heap.size + 1 := by simp
  rw [hb18] at hN hz
  generalize w48.alloc (.cells #[.int .i64 0, .int .i64 1, .int .i64 2] 3) = w49 at *
  have H49 : Hid ((w49.heap[cb]? = some (.cells #[.slice fo2 5 fc2, .slice (some ⟨tb, 0, none⟩) 4 tc2, .slice wo2 4 wc2] 32)) ∧ (CsrIn w49 4 Z4 fo2 (some ⟨tb, 0, none⟩) wo2 fc2 tc2 wc2) ∧ (Below w.heap.size w w49) ∧ (IsTold w49 (5, []) vg) ∧ (IsTold w49 (7, [(3, 1)]) vh) ∧ (IsTold w49 (16, [(4, 1)]) vi) ∧ (IsTold w49 (16, [(4, 0)]) vj) ∧ (IsTold w49 (7, [(3, 2)]) vk) ∧ (IsTold w49 (14, []) vz) ∧ (HasInts w49 (.slice jo 3 jc) [0, 1, 2]) ∧ (IsTold w49 (16, []) ui) ∧ (IsTold w49 (5, []) uj) ∧ (IsTold w49 (5, []) uk) ∧ (HasInts w49 (.slice (some ⟨b18, 0, none⟩) 3 3) [0, 1, 2])) := ⟨(hb.block _ (lt_of_get (H48.out.1))).trans (H48.out.1), (H48.out.2.1).keep hb, btr (H48.out.2.2.1) hb, (H48.out.2.2.2.1).keep (Below.keeps hb), (H48.out.2.2.2.2.1).keep (Below.keeps hb), (H48.out.2.2.2.2.2.1).keep (Below.keeps hb), (H48.out.2.2.2.2.2.2.1).keep (Below.keeps hb), (H48.out.2.2.2.2.2.2.2.1).keep (Below.keeps hb), (H48.out.2.2.2.2.2.2.2.2.1).keep (Below.keeps hb), (H48.out.2.2.2.2.2.2.2.2.2.1).keep hb, (H48.out.2.2.2.2.2.2.2.2.2.2.1).keep (Below.keeps hb), (H48.out.2.2.2.2.2.2.2.2.2.2.2.1).keep (Below.keeps hb), (H48.out.2.2.2.2.2.2.2.2.2.2.2.2).keep (Below.keeps hb), ints_new (l := [0, 1, 2]) hN rfl⟩
  clear H48
  clear hN hb
  rw [hb18]
  clear hb18
  clear hz
  refine (sameInts_yes _ _ [0, 1, 2] _ (H49.out.2.2.2.2.2.2.2.2.2.1) (H49.out.2.2.2.2.2.2.2.2.2.2.2.2.2) (by unfold maxLen; simp)).mono ?_
  rintro e w50 ⟨rfl, hb⟩
  have H50 : Hid ((w50.heap[cb]? = some (.cells #[.slice fo2 5 fc2, .slice (some ⟨tb, 0, none⟩) 4 tc2, .slice wo2 4 wc2] 32)) ∧ (CsrIn w50 4 Z4 fo2 (some ⟨tb, 0, none⟩) wo2 fc2 tc2 wc2) ∧ (Below w.heap.size w w50) ∧ (IsTold w50 (5, []) vg) ∧ (IsTold w50 (7, [(3, 1)]) vh) ∧ (IsTold w50 (16, [(4, 1)]) vi) ∧ (IsTold w50 (16, [(4, 0)]) vj) ∧ (IsTold w50 (7, [(3, 2)]) vk) ∧ (IsTold w50 (14, []) vz) ∧ (HasInts w50 (.slice jo 3 jc) [0, 1, 2]) ∧ (IsTold w50 (16, []) ui) ∧ (IsTold w50 (5, []) uj) ∧ (IsTold w50 (5, []) uk)) := ⟨(hb.block _ (lt_of_get (H49.out.1))).trans (H49.out.1), (H49.out.2.1).keep hb, btr (H49.out.2.2.1) hb, (H49.out.2.2.2.1).keep (Below.keeps hb), (H49.out.2.2.2.2.1).keep (Below.keeps hb), (H49.out.2.2.2.2.2.1).keep (Below.keeps hb), (H49.out.2.2.2.2.2.2.1).keep (Below.keeps hb), (H49.out.2.2.2.2.2.2.2.1).keep (Below.keeps hb), (H49.out.2.2.2.2.2.2.2.2.1).keep (Below.keeps hb), (H49.out.2.2.2.2.2.2.2.2.2.1).keep hb, (H49.out.2.2.2.2.2.2.2.2.2.2.1).keep (Below.keeps hb), (H49.out.2.2.2.2.2.2.2.2.2.2.2.1).keep (Below.keeps hb), (H49.out.2.2.2.2.2.2.2.2.2.2.2.2.1).keep (Below.keeps hb)⟩
  clear H49
  clear hb
  go_wp2_with fail
  refine (E_calls 16 _).mono ?_
  rintro e w51 ⟨rfl, hb⟩
  have H51 : Hid ((w51.heap[cb]? = some (.cells #[.slice fo2 5 fc2, .slice (some ⟨tb, 0, none⟩) 4 tc2, .slice wo2 4 wc2] 32)) ∧ (CsrIn w51 4 Z4 fo2 (some ⟨tb, 0, none⟩) wo2 fc2 tc2 wc2) ∧ (Below w.heap.size w w51) ∧ (IsTold w51 (5, []) vg) ∧ (IsTold w51 (7, [(3, 1)]) vh) ∧ (IsTold w51 (16, [(4, 1)]) vi) ∧ (IsTold w51 (16, [(4, 0)]) vj) ∧ (IsTold w51 (7, [(3, 2)]) vk) ∧ (IsTold w51 (14, []) vz) ∧ (HasInts w51 (.slice jo 3 jc) [0, 1, 2]) ∧ (IsTold w51 (16, []) ui) ∧ (IsTold w51 (5, []) uj) ∧ (IsTold w51 (5, []) uk)) := ⟨(hb.block _ (lt_of_get (H50.out.1))).trans (H50.out.1), (H50.out.2.1).keep hb, btr (H50.out.2.2.1) hb, (H50.out.2.2.2.1).keep (Below.keeps hb), (H50.out.2.2.2.2.1).keep (Below.keeps hb), (H50.out.2.2.2.2.2.1).keep (Below.keeps hb), (H50.out.2.2.2.2.2.2.1).keep (Below.keeps hb), (H50.out.2.2.2.2.2.2.2.1).keep (Below.keeps hb), (H50.out.2.2.2.2.2.2.2.2.1).keep (Below.keeps hb), (H50.out.2.2.2.2.2.2.2.2.2.1).keep hb, (H50.out.2.2.2.2.2.2.2.2.2.2.1).keep (Below.keeps hb), (H50.out.2.2.2.2.2.2.2.2.2.2.2.1).keep (Below.keeps hb), (H50.out.2.2.2.2.2.2.2.2.2.2.2.2).keep (Below.keeps hb)⟩
  clear H50
  clear hb
  go_wp2_with fail
  refine (seen0 16 ui _ (H51.out.2.2.2.2.2.2.2.2.2.2.1) (HG.out _ (H51.out.2.2.1))).mono ?_
  rintro e w52 ⟨rfl, hb⟩
  have H52 : Hid ((w52.heap[cb]? = some (.cells #[.slice fo2 5 fc2, .slice (some ⟨tb, 0, none⟩) 4 tc2, .slice wo2 4 wc2] 32)) ∧ (CsrIn w52 4 Z4 fo2 (some ⟨tb, 0, none⟩) wo2 fc2 tc2 wc2) ∧ (Below w.heap.size w w52) ∧ (IsTold w52 (5, []) vg) ∧ (IsTold w52 (7, [(3, 1)]) vh) ∧ (IsTold w52 (16, [(4, 1)]) vi) ∧ (IsTold w52 (16, [(4, 0)]) vj) ∧ (IsTold w52 (7, [(3, 2)]) vk) ∧ (IsTold w52 (14, []) vz) ∧ (HasInts w52 (.slice jo 3 jc) [0, 1, 2]) ∧ (IsTold w52 (16, []) ui) ∧ (IsTold w52 (5, []) uj) ∧ (IsTold w52 (5, []) uk)) := ⟨(hb.block _ (lt_of_get (H51.out.1))).trans (H51.out.1), (H51.out.2.1).keep hb, btr (H51.out.2.2.1) hb, (H51.out.2.2.2.1).keep (Below.keeps hb), (H51.out.2.2.2.2.1).keep (Below.keeps hb), (H51.out.2.2.2.2.2.1).keep (Below.keeps hb), (H51.out.2.2.2.2.2.2.1).keep (Below.keeps hb), (H51.out.2.2.2.2.2.2.2.1).keep (Below.keeps hb), (H51.out.2.2.2.2.2.2.2.2.1).keep (Below.keeps hb), (H51.out.2.2.2.2.2.2.2.2.2.1).keep hb, (H51.out.2.2.2.2.2.2.2.2.2.2.1).keep (Below.keeps hb), (H51.out.2.2.2.2.2.2.2.2.2.2.2.1).keep (Below.keeps hb), (H51.out.2.2.2.2.2.2.2.2.2.2.2.2).keep (Below.keeps hb)⟩
  clear H51
  clear hb
  go_wp2_with fail
  refine (E_calls 5 _).mono ?_
  rintro e w53 ⟨rfl, hb⟩
  have H53 : Hid ((w53.heap[cb]? = some (.cells #[.slice fo2 5 fc2, .slice (some ⟨tb, 0, none⟩) 4 tc2, .slice wo2 4 wc2] 32)) ∧ (CsrIn w53 4 Z4 fo2 (some ⟨tb, 0, none⟩) wo2 fc2 tc2 wc2) ∧ (Below w.heap.size w w53) ∧ (IsTold w53 (5, []) vg) ∧ (IsTold w53 (7, [(3, 1)]) vh) ∧ (IsTold w53 (16, [(4, 1)]) vi) ∧ (IsTold w53 (16, [(4, 0)]) vj) ∧ (IsTold w53 (7, [(3, 2)]) vk) ∧ (IsTold w53 (14, []) vz) ∧ (HasInts w53 (.slice jo 3 jc) [0, 1, 2]) ∧ (IsTold w53 (16, []) ui) ∧ (IsTold w53 (5, []) uj) ∧ (IsTold w53 (5, []) uk)) := ⟨(hb.block _ (lt_of_get (H52.out.1))).trans (H52.out.1), (H52.out.2.1).keep hb, btr (H52.out.2.2.1) hb, (H52.out.2.2.2.1).keep (Below.keeps hb), (H52.out.2.2.2.2.1).keep (Below.keeps hb), (H52.out.2.2.2.2.2.1).keep (Below.keeps hb), (H52.out.2.2.2.2.2.2.1).keep (Below.keeps hb), (H52.out.2.2.2.2.2.2.2.1).keep (Below.keeps hb), (H52.out.2.2.2.2.2.2.2.2.1).keep (Below.keeps hb), (H52.out.2.2.2.2.2.2.2.2.2.1).keep hb, (H52.out.2.2.2.2.2.2.2.2.2.2.1).keep (Below.keeps hb), (H52.out.2.2.2.2.2.2.2.2.2.2.2.1).keep (Below.keeps hb), (H52.out.2.2.2.2.2.2.2.2.2.2.2.2).keep (Below.keeps hb)⟩
  clear H52
  clear hb
  go_wp2_with fail
  refine (seen0 5 uj _ (H53.out.2.2.2.2.2.2.2.2.2.2.2.1) (HG.out _ (H53.out.2.2.1))).mono ?_
  rintro e w54 ⟨rfl, hb⟩
  have H54 : Hid ((w54.heap[cb]? = some (.cells #[.slice fo2 5 fc2, .slice (some ⟨tb, 0, none⟩) 4 tc2, .slice wo2 4 wc2] 32)) ∧ (CsrIn w54 4 Z4 fo2 (some ⟨tb, 0, none⟩) wo2 fc2 tc2 wc2) ∧ (Below w.heap.size w w54) ∧ (IsTold w54 (5, []) vg) ∧ (IsTold w54 (7, [(3, 1)]) vh) ∧ (IsTold w54 (16, [(4, 1)]) vi) ∧ (IsTold w54 (16, [(4, 0)]) vj) ∧ (IsTold w54 (7, [(3, 2)]) vk) ∧ (IsTold w54 (14, []) vz) ∧ (HasInts w54 (.slice jo 3 jc) [0, 1, 2]) ∧ (IsTold w54 (16, []) ui) ∧ (IsTold w54 (5, []) uj) ∧ (IsTold w54 (5, []) uk)) := ⟨(hb.block _ (lt_of_get (H53.out.1))).trans (H53.out.1), (H53.out.2.1).keep hb, btr (H53.out.2.2.1) hb, (H53.out.2.2.2.1).keep (Below.keeps hb), (H53.out.2.2.2.2.1).keep (Below.keeps hb), (H53.out.2.2.2.2.2.1).keep (Below.keeps hb), (H53.out.2.2.2.2.2.2.1).keep (Below.keeps hb), (H53.out.2.2.2.2.2.2.2.1).keep (Below.keeps hb), (H53.out.2.2.2.2.2.2.2.2.1).keep (Below.keeps hb), (H53.out.2.2.2.2.2.2.2.2.2.1).keep hb, (H53.out.2.2.2.2.2.2.2.2.2.2.1).keep (Below.keeps hb), (H53.out.2.2.2.2.2.2.2.2.2.2.2.1).keep (Below.keeps hb), (H53.out.2.2.2.2.2.2.2.2.2.2.2.2).keep (Below.keeps hb)⟩
  clear H53
  clear hb
  go_wp2_with fail
  refine (E_calls 5 _).mono ?_
  rintro e w55 ⟨rfl, hb⟩
  have H55 : Hid ((w55.heap[cb]? = some (.cells #[.slice fo2 5 fc2, .slice (some ⟨tb, 0, none⟩) 4 tc2, .slice wo2 4 wc2] 32)) ∧ (CsrIn w55 4 Z4 fo2 (some ⟨tb, 0, none⟩) wo2 fc2 tc2 wc2) ∧ (Below w.heap.size w w55) ∧ (IsTold w55 (5, []) vg) ∧ (IsTold w55 (7, [(3, 1)]) vh) ∧ (IsTold w55 (16, [(4, 1)]) vi) ∧ (IsTold w55 (16, [(4, 0)]) vj) ∧ (IsTold w55 (7, [(3, 2)]) vk) ∧ (IsTold w55 (14, []) vz) ∧ (HasInts w55 (.slice jo 3 jc) [0, 1, 2]) ∧ (IsTold w55 (16, []) ui) ∧ (IsTold w55 (5, []) uj) ∧ (IsTold w55 (5, []) uk)) := ⟨(hb.block _ (lt_of_get (H54.out.1))).trans (H54.out.1), (H54.out.2.1).keep hb, btr (H54.out.2.2.1) hb, (H54.out.2.2.2.1).keep (Below.keeps hb), (H54.out.2.2.2.2.1).keep (Below.keeps hb), (H54.out.2.2.2.2.2.1).keep (Below.keeps hb), (H54.out.2.2.2.2.2.2.1).keep (Below.keeps hb), (H54.out.2.2.2.2.2.2.2.1).keep (Below.keeps hb), (H54.out.2.2.2.2.2.2.2.2.1).keep (Below.keeps hb), (H54.out.2.2.2.2.2.2.2.2.2.1).keep hb, (H54.out.2.2.2.2.2.2.2.2.2.2.1).keep (Below.keeps hb), (H54.out.2.2.2.2.2.2.2.2.2.2.2.1).keep (Below.keeps hb), (H54.out.2.2.2.2.2.2.2.2.2.2.2.2).keep (Below.keeps hb)⟩
  clear H54
  clear hb
  go_wp2_with fail
  refine (seen0 5 uk _ (H55.out.2.2.2.2.2.2.2.2.2.2.2.2) (HG.out _ (H55.out.2.2.1))).mono ?_
  rintro e w56 ⟨rfl, hb⟩
  have H56 : Hid ((w56.heap[cb]? = some (.cells #[.slice fo2 5 fc2, .slice (some ⟨tb, 0, none⟩) 4 tc2, .slice wo2 4 wc2] 32)) ∧ (CsrIn w56 4 Z4 fo2 (some ⟨tb, 0, none⟩) wo2 fc2 tc2 wc2) ∧ (Below w.heap.size w w56) ∧ (IsTold w56 (5, []) vg) ∧ (IsTold w56 (7, [(3, 1)]) vh) ∧ (IsTold w56 (16, [(4, 1)]) vi) ∧ (IsTold w56 (16, [(4, 0)]) vj) ∧ (IsTold w56 (7, [(3, 2)]) vk) ∧ (IsTold w56 (14, []) vz) ∧ (HasInts w56 (.slice jo 3 jc) [0, 1, 2]) ∧ (IsTold w56 (16, []) ui) ∧ (IsTold w56 (5, []) uj) ∧ (IsTold w56 (5, []) uk)) := ⟨(hb.block _ (lt_of_get (H55.out.1))).trans (H55.out.1), (H55.out.2.1).keep hb, btr (H55.out.2.2.1) hb, (H55.out.2.2.2.1).keep (Below.keeps hb), (H55.out.2.2.2.2.1).keep (Below.keeps hb), (H55.out.2.2.2.2.2.1).keep (Below.keeps hb), (H55.out.2.2.2.2.2.2.1).keep (Below.keeps hb), (H55.out.2.2.2.2.2.2.2.1).keep (Below.keeps hb), (H55.out.2.2.2.2.2.2.2.2.1).keep (Below.keeps hb), (H55.out.2.2.2.2.2.2.2.2.2.1).keep hb, (H55.out.2.2.2.2.2.2.2.2.2.2.1).keep (Below.keeps hb), (H55.out.2.2.2.2.2.2.2.2.2.2.2.1).keep (Below.keeps hb), (H55.out.2.2.2.2.2.2.2.2.2.2.2.2).keep (Below.keeps hb)⟩
  clear H55
  clear hb
  go_wp2_with fail
  have hN := heap_new w56 (.cells #[.int .i64 1, .int .i64 2, .int .i64 3, .int .i64 1, .int .i64 4, .int .i64 2, .int .i64 4] 3)
  have hb : Below w56.heap.size w56 (w56.alloc (.cells #[.int .i64 1, .int .i64 2, .int .i64 3, .int .i64 1, .int .i64 4, .int .i64 2, .int .i64 4] 3)) := (Below.refl _ _).alloc (Nat.le_refl _) _
  obtain ⟨b19, hb19⟩ : ∃ b, w56.heap.size = b := ⟨_, rfl⟩
  have hz : (w56.alloc (.cells #[.int .i64 1, .int .i64 2, .int .i64 3, .int .i64 1, .int .i64 4, .int .i64 2, .int .i64 4] 3)).heap.size = w56.heap.size + 1 := by simp
  rw [hb19] at hN hz
  generalize w56.alloc (.cells #[.int .i64 1, .int .i64 2, .int .i64 3, .int .i64 1, .int .i64 4, .int .i64 2, .int .i64 4] 3) = w57 at *
  have H57 : Hid ((w57.heap[cb]? = some (.cells #[.slice fo2 5 fc2, .slice (some ⟨tb, 0, none⟩) 4 tc2, .slice wo2 4 wc2] 32)) ∧ (CsrIn w57 4 Z4 fo2 (some ⟨tb, 0, none⟩) wo2 fc2 tc2 wc2) ∧ (Below w.heap.size w w57) ∧ (IsTold w57 (5, []) vg) ∧ (IsTold w57 (7, [(3, 1)]) vh) ∧ (IsTold w57 (16, [(4, 1)]) vi) ∧ (IsTold w57 (16, [(4, 0)]) vj) ∧ (IsTold w57 (7, [(3, 2)]) vk) ∧ (IsTold w57 (14, []) vz) ∧ (HasInts w57 (.slice jo 3 jc) [0, 1, 2]) ∧ (IsTold w57 (16, []) ui) ∧ (IsTold w57 (5, []) uj) ∧ (IsTold w57 (5, []) uk) ∧ (HasInts w57 (.slice (some ⟨b19, 0, none⟩) 7 7) [1, 2, 3, 1, 4, 2, 4])) := ⟨(hb.block _ (lt_of_get (H56.out.1))).trans (H56.out.1), (H56.out.2.1).keep hb, btr (H56.out.2.2.1) hb, (H56.out.2.2.2.1).keep (Below.keeps hb), (H56.out.2.2.2.2.1).keep (Below.keeps hb), (H56.out.2.2.2.2.2.1).keep (Below.keeps hb), (H56.out.2.2.2.2.2.2.1).keep (Below.keeps hb), (H56.out.2.2.2.2.2.2.2.1).keep (Below.keeps hb), (H56.out.2.2.2.2.2.2.2.2.1).keep (Below.keeps hb), (H56.out.2.2.2.2.2.2.2.2.2.1).keep hb, (H56.out.2.2.2.2.2.2.2.2.2.2.1).keep (Below.keeps hb), (H56.out.2.2.2.2.2.2.2.2.2.2.2.1).keep (Below.keeps hb), (H56.out.2.2.2.2.2.2.2.2.2.2.2.2).keep (Below.keeps hb), ints_new (l := [1, 2, 3, 1, 4, 2, 4]) hN rfl⟩
  clear H56
  clear hN hb
  rw [hb19]
  clear hb19
  clear hz
  refine (simple_calls _ 7 [1, 2, 3, 1, 4, 2, 4] _ (H57.out.2.2.2.2.2.2.2.2.2.2.2.2.2) (by decide) (by simp)).mono ?_
  rintro e w58 ⟨so, sc, rfl, ho, hb⟩
  have HO := ints_of_iown ho
  rw [show simpS [1, 2, 3, 1, 4, 2, 4] = [1, 4] by decide] at HO ⊢
  have HJ : Hid (HasInts w58 (.slice so 2 sc) [1, 4]) := HO
  rw [show ([1, 4] : List Int).length = 2 from rfl]
  have H58 : Hid ((w58.heap[cb]? = some (.cells #[.slice fo2 5 fc2, .slice (some ⟨tb, 0, none⟩) 4 tc2, .slice wo2 4 wc2] 32)) ∧ (CsrIn w58 4 Z4 fo2 (some ⟨tb, 0, none⟩) wo2 fc2 tc2 wc2) ∧ (Below w.heap.size w w58) ∧ (IsTold w58 (5, []) vg) ∧ (IsTold w58 (7, [(3, 1)]) vh) ∧ (IsTold w58 (16, [(4, 1)]) vi) ∧ (IsTold w58 (16, [(4, 0)]) vj) ∧ (IsTold w58 (7, [(3, 2)]) vk) ∧ (IsTold w58 (14, []) vz) ∧ (HasInts w58 (.slice jo 3 jc) [0, 1, 2]) ∧ (IsTold w58 (16, []) ui) ∧ (IsTold w58 (5, []) uj) ∧ (IsTold w58 (5, []) uk) ∧ (HasInts w58 (.slice so 2 sc) [1, 4])) := ⟨(hb.block _ (lt_of_get (H57.out.1))).trans (H57.out.1), (H57.out.2.1).keep hb, btr (H57.out.2.2.1) hb, (H57.out.2.2.2.1).keep (Below.keeps hb), (H57.out.2.2.2.2.1).keep (Below.keeps hb), (H57.out.2.2.2.2.2.1).keep (Below.keeps hb), (H57.out.2.2.2.2.2.2.1).keep (Below.keeps hb), (H57.out.2.2.2.2.2.2.2.1).keep (Below.keeps hb), (H57.out.2.2.2.2.2.2.2.2.1).keep (Below.keeps hb), (H57.out.2.2.2.2.2.2.2.2.2.1).keep hb, (H57.out.2.2.2.2.2.2.2.2.2.2.1).keep (Below.keeps hb), (H57.out.2.2.2.2.2.2.2.2.2.2.2.1).keep (Below.keeps hb), (H57.out.2.2.2.2.2.2.2.2.2.2.2.2.1).keep (Below.keeps hb), HJ.out⟩
  clear H57
  clear hb ho HO HJ
  generalize so = po at *
  generalize sc = pc at *
  go_wp2_with fail
  have hN := heap_new w58 (.cells #[.int .i64 1, .int .i64 4] 3)
  have hb : Below w58.heap.size w58 (w58.alloc (.cells #[.int .i64 1, .int .i64 4] 3)) := (Below.refl _ _).alloc (Nat.le_refl _) _
  obtain ⟨b20, hb20⟩ : ∃ b, w58.heap.size = b := ⟨_, rfl⟩
  have hz : (w58.alloc (.cells #[.int .i64 1, .int .i64 4] 3)).heap.size = w58.heap.size + 1 := by simp
  rw [hb20] at hN hz
  generalize w58.alloc (.cells #[.int .i64 1, .int .i64 4] 3) = w59 at *
  have H59 : Hid ((w59.heap[cb]? = some (.cells #[.slice fo2 5 fc2, .slice (some ⟨tb, 0, none⟩) 4 tc2, .slice wo2 4 wc2] 32)) ∧ (CsrIn w59 4 Z4 fo2 (some ⟨tb, 0, none⟩) wo2 fc2 tc2 wc2) ∧ (Below w.heap.size w w59) ∧ (IsTold w59 (5, []) vg) ∧ (IsTold w59 (7, [(3, 1)]) vh) ∧ (IsTold w59 (16, [(4, 1)]) vi) ∧ (IsTold w59 (16, [(4, 0)]) vj) ∧ (IsTold w59 (7, [(3, 2)]) vk) ∧ (IsTold w59 (14, []) vz) ∧ (HasInts w59 (.slice jo 3 jc) [0, 1, 2]) ∧ (IsTold w59 (16, []) ui) ∧ (IsTold w59 (5, []) uj) ∧ (IsTold w59 (5, []) uk) ∧ (HasInts w59 (.slice po 2 pc) [1, 4]) ∧ (HasInts w59 (.slice (some ⟨b20, 0, none⟩) 2 2) [1, 4])) := ⟨(hb.block _ (lt_of_get (H58.out.1))).trans (H58.out.1), (H58.out.2.1).keep hb, btr (H58.out.2.2.1) hb, (H58.out.2.2.2.1).keep (Below.keeps hb), (H58.out.2.2.2.2.1).keep (Below.keeps hb), (H58.out.2.2.2.2.2.1).keep (Below.keeps hb), (H58.out.2.2.2.2.2.2.1).keep (Below.keeps hb), (H58.out.2.2.2.2.2.2.2.1).keep (Below.keeps hb), (H58.out.2.2.2.2.2.2.2.2.1).keep (Below.keeps hb), (H58.out.2.2.2.2.2.2.2.2.2.1).keep hb, (H58.out.2.2.2.2.2.2.2.2.2.2.1).keep (Below.keeps hb), (H58.out.2.2.2.2.2.2.2.2.2.2.2.1).keep (Below.keeps hb), (H58.out.2.2.2.2.2.2.2.2.2.2.2.2.1).keep (Below.keeps hb), (H58.out.2.2.2.2.2.2.2.2.2.2.2.2.2).keep hb, ints_new (l := [1, 4]) hN rfl⟩
  clear H58
  clear hN hb
  rw [hb20]
  clear hb20
  clear hz
  refine (sameInts_yes _ _ [1, 4] _ (H59.out.2.2.2.2.2.2.2.2.2.2.2.2.2.1) (H59.out.2.2.2.2.2.2.2.2.2.2.2.2.2.2) (by unfold maxLen; simp)).mono ?_
  rintro e w60 ⟨rfl, hb⟩
  have H60 : Hid ((w60.heap[cb]? = some (.cells #[.slice fo2 5 fc2, .slice (some ⟨tb, 0, none⟩) 4 tc2, .slice wo2 4 wc2] 32)) ∧ (CsrIn w60 4 Z4 fo2 (some ⟨tb, 0, none⟩) wo2 fc2 tc2 wc2) ∧ (Below w.heap.size w w60) ∧ (IsTold w60 (5, []) vg) ∧ (IsTold w60 (7, [(3, 1)]) vh) ∧ (IsTold w60 (16, [(4, 1)]) vi) ∧ (IsTold w60 (16, [(4, 0)]) vj) ∧ (IsTold w60 (7, [(3, 2)]) vk) ∧ (IsTold w60 (14, []) vz) ∧ (HasInts w60 (.slice jo 3 jc) [0, 1, 2]) ∧ (IsTold w60 (16, []) ui) ∧ (IsTold w60 (5, []) uj) ∧ (IsTold w60 (5, []) uk) ∧ (HasInts w60 (.slice po 2 pc) [1, 4])) := ⟨(hb.block _ (lt_of_get (H59.out.1))).trans (H59.out.1), (H59.out.2.1).keep hb, btr (H59.out.2.2.1) hb, (H59.out.2.2.2.1).keep (Below.keeps hb), (H59.out.2.2.2.2.1).keep (Below.keeps hb), (H59.out.2.2.2.2.2.1).keep (Below.keeps hb), (H59.out.2.2.2.2.2.2.1).keep (Below.keeps hb), (H59.out.2.2.2.2.2.2.2.1).keep (Below.keeps hb), (H59.out.2.2.2.2.2.2.2.2.1).keep (Below.keeps hb), (H59.out.2.2.2.2.2.2.2.2.2.1).keep hb, (H59.out.2.2.2.2.2.2.2.2.2.2.1).keep (Below.keeps hb), (H59.out.2.2.2.2.2.2.2.2.2.2.2.1).keep (Below.keeps hb), (H59.out.2.2.2.2.2.2.2.2.2.2.2.2.1).keep (Below.keeps hb), (H59.out.2.2.2.2.2.2.2.2.2.2.2.2.2.1).keep hb⟩
  clear H59
  clear hb
  go_wp2_with fail
  refine (simple_calls none 0 [] _ ⟨none, 0, rfl, fun j a hj => by simp at hj⟩ (by decide) (by simp)).mono ?_
  rintro e w61 ⟨so, sc, rfl, ho, hb⟩
  have HO := ints_of_iown ho
  rw [show simpS [] = [] by decide] at HO ⊢
  have HJ : Hid (HasInts w61 (.slice so 0 sc) []) := HO
  rw [show ([] : List Int).length = 0 from rfl]
  have H61 : Hid ((w61.heap[cb]? = some (.cells #[.slice fo2 5 fc2, .slice (some ⟨tb, 0, none⟩) 4 tc2, .slice wo2 4 wc2] 32)) ∧ (CsrIn w61 4 Z4 fo2 (some ⟨tb, 0, none⟩) wo2 fc2 tc2 wc2) ∧ (Below w.heap.size w w61) ∧ (IsTold w61 (5, []) vg) ∧ (IsTold w61 (7, [(3, 1)]) vh) ∧ (IsTold w61 (16, [(4, 1)]) vi) ∧ (IsTold w61 (16, [(4, 0)]) vj) ∧ (IsTold w61 (7, [(3, 2)]) vk) ∧ (IsTold w61 (14, []) vz) ∧ (HasInts w61 (.slice jo 3 jc) [0, 1, 2]) ∧ (IsTold w61 (16, []) ui) ∧ (IsTold w61 (5, []) uj) ∧ (IsTold w61 (5, []) uk) ∧ (HasInts w61 (.slice po 2 pc) [1, 4]) ∧ (HasInts w61 (.slice so 0 sc) [])) := ⟨(hb.block _ (lt_of_get (H60.out.1))).trans (H60.out.1), (H60.out.2.1).keep hb, btr (H60.out.2.2.1) hb, (H60.out.2.2.2.1).keep (Below.keeps hb), (H60.out.2.2.2.2.1).keep (Below.keeps hb), (H60.out.2.2.2.2.2.1).keep (Below.keeps hb), (H60.out.2.2.2.2.2.2.1).keep (Below.keeps hb), (H60.out.2.2.2.2.2.2.2.1).keep (Below.keeps hb), (H60.out.2.2.2.2.2.2.2.2.1).keep (Below.keeps hb), (H60.out.2.2.2.2.2.2.2.2.2.1).keep hb, (H60.out.2.2.2.2.2.2.2.2.2.2.1).keep (Below.keeps hb), (H60.out.2.2.2.2.2.2.2.2.2.2.2.1).keep (Below.keeps hb), (H60.out.2.2.2.2.2.2.2.2.2.2.2.2.1).keep (Below.keeps hb), (H60.out.2.2.2.2.2.2.2.2.2.2.2.2.2).keep hb, HJ.out⟩
  clear H60
  clear hb ho HO HJ
  generalize so = qo at *
  generalize sc = qc at *
  go_wp2_with fail
  refine (back_calls none 0 [] _ ⟨none, 0, rfl, fun j a hj => by simp at hj⟩ (fun a e => by cases e) (by simp)).mono ?_
  rintro e w62 ⟨so, sc, rfl, ho, hb⟩
  rw [show ([] : List Int).reverse.length = 0 from rfl]
  have H62 : Hid ((w62.heap[cb]? = some (.cells #[.slice fo2 5 fc2, .slice (some ⟨tb, 0, none⟩) 4 tc2, .slice wo2 4 wc2] 32)) ∧ (CsrIn w62 4 Z4 fo2 (some ⟨tb, 0, none⟩) wo2 fc2 tc2 wc2) ∧ (Below w.heap.size w w62) ∧ (IsTold w62 (5, []) vg) ∧ (IsTold w62 (7, [(3, 1)]) vh) ∧ (IsTold w62 (16, [(4, 1)]) vi) ∧ (IsTold w62 (16, [(4, 0)]) vj) ∧ (IsTold w62 (7, [(3, 2)]) vk) ∧ (IsTold w62 (14, []) vz) ∧ (HasInts w62 (.slice jo 3 jc) [0, 1, 2]) ∧ (IsTold w62 (16, []) ui) ∧ (IsTold w62 (5, []) uj) ∧ (IsTold w62 (5, []) uk) ∧ (HasInts w62 (.slice po 2 pc) [1, 4]) ∧ (HasInts w62 (.slice qo 0 qc) [])) := ⟨(hb.block _ (lt_of_get (H61.out.1))).trans (H61.out.1), (H61.out.2.1).keep hb, btr (H61.out.2.2.1) hb, (H61.out.2.2.2.1).keep (Below.keeps hb), (H61.out.2.2.2.2.1).keep (Below.keeps hb), (H61.out.2.2.2.2.2.1).keep (Below.keeps hb), (H61.out.2.2.2.2.2.2.1).keep (Below.keeps hb), (H61.out.2.2.2.2.2.2.2.1).keep (Below.keeps hb), (H61.out.2.2.2.2.2.2.2.2.1).keep (Below.keeps hb), (H61.out.2.2.2.2.2.2.2.2.2.1).keep hb, (H61.out.2.2.2.2.2.2.2.2.2.2.1).keep (Below.keeps hb), (H61.out.2.2.2.2.2.2.2.2.2.2.2.1).keep (Below.keeps hb), (H61.out.2.2.2.2.2.2.2.2.2.2.2.2.1).keep (Below.keeps hb), (H61.out.2.2.2.2.2.2.2.2.2.2.2.2.2.1).keep hb, (H61.out.2.2.2.2.2.2.2.2.2.2.2.2.2.2).keep hb⟩
  clear H61
  clear hb ho
  go_wp2_with fail
  have hN := heap_new w62 (.cells #[.int .i64 (-5), .int .i64 4611686018427387904, .int .i64 (-5)] 3)
  have hb : Below w62.heap.size w62 (w62.alloc (.cells #[.int .i64 (-5), .int .i64 4611686018427387904, .int .i64 (-5)] 3)) := (Below.refl _ _).alloc (Nat.le_refl _) _
  obtain ⟨b21, hb21⟩ : ∃ b, w62.heap.size = b := ⟨_, rfl⟩
  have hz : (w62.alloc (.cells #[.int .i64 (-5), .int .i64 4611686018427387904, .int .i64 (-5)] 3)).heap.size = w62.heap.size + 1 := by simp
  rw [hb21] at hN hz
  generalize w62.alloc (.cells #[.int .i64 (-5), .int .i64 4611686018427387904, .int .i64 (-5)] 3) = w63 at *
  have H63 : Hid ((w63.heap[cb]? = some (.cells #[.slice fo2 5 fc2, .slice (some ⟨tb, 0, none⟩) 4 tc2, .slice wo2 4 wc2] 32)) ∧ (CsrIn w63 4 Z4 fo2 (some ⟨tb, 0, none⟩) wo2 fc2 tc2 wc2) ∧ (Below w.heap.size w w63) ∧ (IsTold w63 (5, []) vg) ∧ (IsTold w63 (7, [(3, 1)]) vh) ∧ (IsTold w63 (16, [(4, 1)]) vi) ∧ (IsTold w63 (16, [(4, 0)]) vj) ∧ (IsTold w63 (7, [(3, 2)]) vk) ∧ (IsTold w63 (14, []) vz) ∧ (HasInts w63 (.slice jo 3 jc) [0, 1, 2]) ∧ (IsTold w63 (16, []) ui) ∧ (IsTold w63 (5, []) uj) ∧ (IsTold w63 (5, []) uk) ∧ (HasInts w63 (.slice po 2 pc) [1, 4]) ∧ (HasInts w63 (.slice qo 0 qc) []) ∧ (HasInts w63 (.slice (some ⟨b21, 0, none⟩) 3 3) [-5, 4611686018427387904, -5])) := ⟨(hb.block _ (lt_of_get (H62.out.1))).trans (H62.out.1), (H62.out.2.1).keep hb, btr (H62.out.2.2.1) hb, (H62.out.2.2.2.1).keep (Below.keeps hb), (H62.out.2.2.2.2.1).keep (Below.keeps hb), (H62.out.2.2.2.2.2.1).keep (Below.keeps hb), (H62.out.2.2.2.2.2.2.1).keep (Below.keeps hb), (H62.out.2.2.2.2.2.2.2.1).keep (Below.keeps hb), (H62.out.2.2.2.2.2.2.2.2.1).keep (Below.keeps hb), (H62.out.2.2.2.2.2.2.2.2.2.1).keep hb, (H62.out.2.2.2.2.2.2.2.2.2.2.1).keep (Below.keeps hb), (H62.out.2.2.2.2.2.2.2.2.2.2.2.1).keep (Below.keeps hb), (H62.out.2.2.2.2.2.2.2.2.2.2.2.2.1).keep (Below.keeps hb), (H62.out.2.2.2.2.2.2.2.2.2.2.2.2.2.1).keep hb, (H62.out.2.2.2.2.2.2.2.2.2.2.2.2.2.2).keep hb, ints_new (l := [-5, 4611686018427387904, -5]) hN rfl⟩
  clear H62
  clear hN hb
  rw [hb21]
  clear hb21
  clear hz
  refine (simple_calls _ 3 [-5, 4611686018427387904, -5] _ (H63.out.2.2.2.2.2.2.2.2.2.2.2.2.2.2.2) (by decide) (by simp)).mono ?_
  rintro e w64 ⟨so, sc, rfl, ho, hb⟩
  have HO := ints_of_iown ho
  rw [show simpS [-5, 4611686018427387904, -5] = [-5] by decide] at HO ⊢
  have HJ : Hid (HasInts w64 (.slice so 1 sc) [-5]) := HO
  rw [show ([-5] : List Int).length = 1 from rfl]
  have H64 : Hid ((w64.heap[cb]? = some (.cells #[.slice fo2 5 fc2, .slice (some ⟨tb, 0, none⟩) 4 tc2, .slice wo2 4 wc2] 32)) ∧ (CsrIn w64 4 Z4 fo2 (some ⟨tb, 0, none⟩) wo2 fc2 tc2 wc2) ∧ (Below w.heap.size w w64) ∧ (IsTold w64 (5, []) vg) ∧ (IsTold w64 (7, [(3, 1)]) vh) ∧ (IsTold w64 (16, [(4, 1)]) vi) ∧ (IsTold w64 (16, [(4, 0)]) vj) ∧ (IsTold w64 (7, [(3, 2)]) vk) ∧ (IsTold w64 (14, []) vz) ∧ (HasInts w64 (.slice jo 3 jc) [0, 1, 2]) ∧ (IsTold w64 (16, []) ui) ∧ (IsTold w64 (5, []) uj) ∧ (IsTold w64 (5, []) uk) ∧ (HasInts w64 (.slice po 2 pc) [1, 4]) ∧ (HasInts w64 (.slice qo 0 qc) []) ∧ (HasInts w64 (.slice so 1 sc) [-5])) := ⟨(hb.block _ (lt_of_get (H63.out.1))).trans (H63.out.1), (H63.out.2.1).keep hb, btr (H63.out.2.2.1) hb, (H63.out.2.2.2.1).keep (Below.keeps hb), (H63.out.2.2.2.2.1).keep (Below.keeps hb), (H63.out.2.2.2.2.2.1).keep (Below.keeps hb), (H63.out.2.2.2.2.2.2.1).keep (Below.keeps hb), (H63.out.2.2.2.2.2.2.2.1).keep (Below.keeps hb), (H63.out.2.2.2.2.2.2.2.2.1).keep (Below.keeps hb), (H63.out.2.2.2.2.2.2.2.2.2.1).keep hb, (H63.out.2.2.2.2.2.2.2.2.2.2.1).keep (Below.keeps hb), (H63.out.2.2.2.2.2.2.2.2.2.2.2.1).keep (Below.keeps hb), (H63.out.2.2.2.2.2.2.2.2.2.2.2.2.1).keep (Below.keeps hb), (H63.out.2.2.2.2.2.2.2.2.2.2.2.2.2.1).keep hb, (H63.out.2.2.2.2.2.2.2.2.2.2.2.2.2.2.1).keep hb, HJ.out⟩
  clear H63
  clear hb ho HO HJ
  generalize so = ro at *
  generalize sc = rc at *
  go_wp2_with fail
  have hN := heap_new w64 (.cells #[.int .i64 (-5)] 3)
  have hb : Below w64.heap.size w64 (w64.alloc (.cells #[.int .i64 (-5)] 3)) := (Below.refl _ _).alloc (Nat.le_refl _) _
  obtain ⟨b22, hb22⟩ : ∃ b, w64.heap.size = b := ⟨_, rfl⟩
  have hz : (w64.alloc (.cells #[.int .i64 (-5)] 3)).heap.size = w64.heap.size + 1 := by simp
  rw [hb22] at hN hz
  generalize w64.alloc (.cells #[.int .i64 (-5)] 3) = w65 at *
  have H65 : Hid ((w65.heap[cb]? = some (.cells #[.slice fo2 5 fc2, .slice (some ⟨tb, 0, none⟩) 4 tc2, .slice wo2 4 wc2] 32)) ∧ (CsrIn w65 4 Z4 fo2 (some ⟨tb, 0, none⟩) wo2 fc2 tc2 wc2) ∧ (Below w.heap.size w w65) ∧ (IsTold w65 (5, []) vg) ∧ (IsTold w65 (7, [(3, 1)]) vh) ∧ (IsTold w65 (16, [(4, 1)]) vi) ∧ (IsTold w65 (16, [(4, 0)]) vj) ∧ (IsTold w65 (7, [(3, 2)]) vk) ∧ (IsTold w65 (14, []) vz) ∧ (HasInts w65 (.slice jo 3 jc) [0, 1, 2]) ∧ (IsTold w65 (16, []) ui) ∧ (IsTold w65 (5, []) uj) ∧ (IsTold w65 (5, []) uk) ∧ (HasInts w65 (.slice po 2 pc) [1, 4]) ∧ (HasInts w65 (.slice qo 0 qc) []) ∧ (HasInts w65 (.slice ro 1 rc) [-5]) ∧ (HasInts w65 (.slice (some ⟨b22, 0, none⟩) 1 1) [-5])) := ⟨(hb.block _ (lt_of_get (H64.out.1))).trans (H64.out.1), (H64.out.2.1).keep hb, btr (H64.out.2.2.1) hb, (H64.out.2.2.2.1).keep (Below.keeps hb), (H64.out.2.2.2.2.1).keep (Below.keeps hb), (H64.out.2.2.2.2.2.1).keep (Below.keeps hb), (H64.out.2.2.2.2.2.2.1).keep (Below.keeps hb), (H64.out.2.2.2.2.2.2.2.1).keep (Below.keeps hb), (H64.out.2.2.2.2.2.2.2.2.1).keep (Below.keeps hb), (H64.out.2.2.2.2.2.2.2.2.2.1).keep hb, (H64.out.2.2.2.2.2.2.2.2.2.2.1).keep (Below.keeps hb), (H64.out.2.2.2.2.2.2.2.2.2.2.2.1).keep (Below.keeps hb), (H64.out.2.2.2.2.2.2.2.2.2.2.2.2.1).keep (Below.keeps hb), (H64.out.2.2.2.2.2.2.2.2.2.2.2.2.2.1).keep hb, (H64.out.2.2.2.2.2.2.2.2.2.2.2.2.2.2.1).keep hb, (H64.out.2.2.2.2.2.2.2.2.2.2.2.2.2.2.2).keep hb, ints_new (l := [-5]) hN rfl⟩
  clear H64
  clear hN hb
  rw [hb22]
  clear hb22
  clear hz
  refine (sameInts_yes _ _ [-5] _ (H65.out.2.2.2.2.2.2.2.2.2.2.2.2.2.2.2.1) (H65.out.2.2.2.2.2.2.2.2.2.2.2.2.2.2.2.2) (by unfold maxLen; simp)).mono ?_
  rintro e w66 ⟨rfl, hb⟩
  have H66 : Hid ((w66.heap[cb]? = some (.cells #[.slice fo2 5 fc2, .slice (some ⟨tb, 0, none⟩) 4 tc2, .slice wo2 4 wc2] 32)) ∧ (CsrIn w66 4 Z4 fo2 (some ⟨tb, 0, none⟩) wo2 fc2 tc2 wc2) ∧ (Below w.heap.size w w66) ∧ (IsTold w66 (5, []) vg) ∧ (IsTold w66 (7, [(3, 1)]) vh) ∧ (IsTold w66 (16, [(4, 1)]) vi) ∧ (IsTold w66 (16, [(4, 0)]) vj) ∧ (IsTold w66 (7, [(3, 2)]) vk) ∧ (IsTold w66 (14, []) vz) ∧ (HasInts w66 (.slice jo 3 jc) [0, 1, 2]) ∧ (IsTold w66 (16, []) ui) ∧ (IsTold w66 (5, []) uj) ∧ (IsTold w66 (5, []) uk) ∧ (HasInts w66 (.slice po 2 pc) [1, 4]) ∧ (HasInts w66 (.slice qo 0 qc) []) ∧ (HasInts w66 (.slice ro 1 rc) [-5])) := ⟨(hb.block _ (lt_of_get (H65.out.1))).trans (H65.out.1), (H65.out.2.1).keep hb, btr (H65.out.2.2.1) hb, (H65.out.2.2.2.1).keep (Below.keeps hb), (H65.out.2.2.2.2.1).keep (Below.keeps hb), (H65.out.2.2.2.2.2.1).keep (Below.keeps hb), (H65.out.2.2.2.2.2.2.1).keep (Below.keeps hb), (H65.out.2.2.2.2.2.2.2.1).keep (Below.keeps hb), (H65.out.2.2.2.2.2.2.2.2.1).keep (Below.keeps hb), (H65.out.2.2.2.2.2.2.2.2.2.1).keep hb, (H65.out.2.2.2.2.2.2.2.2.2.2.1).keep (Below.keeps hb), (H65.out.2.2.2.2.2.2.2.2.2.2.2.1).keep (Below.keeps hb), (H65.out.2.2.2.2.2.2.2.2.2.2.2.2.1).keep (Below.keeps hb), (H65.out.2.2.2.2.2.2.2.2.2.2.2.2.2.1).keep hb, (H65.out.2.2.2.2.2.2.2.2.2.2.2.2.2.2.1).keep hb, (H65.out.2.2.2.2.2.2.2.2.2.2.2.2.2.2.2.1).keep hb⟩
  clear H65
  clear hb
  go_wp2
  go_ret
  exact ⟨rfl, H66.out.2.2.1⟩
end Go.Proofs.YtdfjmfgbdnpkbaaDoor
