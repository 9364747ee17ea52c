/- The law StampPlays, walked: whatever calls are made, wherever the ages begin, each is answered as by two lists. -/
import Derived.Test.YtlgdhoemjllfdaaDoorPlay
namespace Go.Proofs.YtlgdhoemjllfdaaDoor
open Go.RowKit

attribute [local go_sem] Oper.semAt_some

set_option maxHeartbeats 1000000 in
theorem docNew_bad (n : Int) (hn : n < 0 ∨ 65536 < n) (w : World) : Calls Tryd.prog 7 #[.int .i64 n] w fun e w' => e = .returned (.tuple #[.agg #[.slice none 0 0, .slice none 0 0], .agg #[.int .i64 1, .slice none 0 0]]) ∧ Below w.heap.size w w' := by
  obtain ⟨W0, hW0⟩ : ∃ W0, (w.alloc (.cells #[.slice none 0 0, .slice none 0 0] 33)).alloc (.cells #[.int .i64 0, .slice none 0 0] 36) = W0 := ⟨_, rfl⟩
  have hB0 : Below w.heap.size w W0 := by rw [← hW0]; exact ((Below.refl _ w).alloc (Nat.le_refl _) _).alloc (by simp) _
  have k0 : W0.heap[w.heap.size]? = some (.cells #[.slice none 0 0, .slice none 0 0] 33) := by rw [← hW0, Below.heap_alloc _ _ _ (by simp)]; exact heap_new _ _
  have k1 : W0.heap[w.heap.size + 1]? = some (.cells #[.int .i64 0, .slice none 0 0] 36) := by
    have h := heap_new (w.alloc (.cells #[.slice none 0 0, .slice none 0 0] 33)) (.cells #[.int .i64 0, .slice none 0 0] 36)
    rw [hW0] at h
    simpa using h
  have HW0 : Hid ((w.alloc (.cells #[.slice none 0 0, .slice none 0 0] 33)).alloc (.cells #[.int .i64 0, .slice none 0 0] 36) = W0) := hW0
  have HE : Hid (Calls Tryd.prog 14 #[.int .i64 1] W0 fun e w' => e = .returned (.agg #[.int .i64 1, .slice none 0 0]) ∧ Below W0.heap.size W0 w') := E_calls 1 W0
  have HK : Hid (∀ wx, Below W0.heap.size W0 wx → (wx.cell? ⟨w.heap.size, 0, none⟩ = some (.slice none 0 0) ∧ wx.cell? ⟨w.heap.size, 1, none⟩ = some (.slice none 0 0) ∧ wx.frozen? ⟨w.heap.size, 0, none⟩ = false ∧ wx.frozen? ⟨w.heap.size, 1, none⟩ = false) ∧ (wx.cell? ⟨w.heap.size + 1, 0, none⟩ = some (.int .i64 0) ∧ wx.cell? ⟨w.heap.size + 1, 1, none⟩ = some (.slice none 0 0) ∧ wx.frozen? ⟨w.heap.size + 1, 0, none⟩ = false ∧ wx.frozen? ⟨w.heap.size + 1, 1, none⟩ = false) ∧ w.heap.size + 1 < wx.heap.size ∧ Below w.heap.size w wx) := fun wx h => by
    have g0 := (h.block _ (lt_of_get k0)).trans k0
    have g1 := (h.block _ (lt_of_get k1)).trans k1
    refine ⟨⟨(pair_cells g0).1, (pair_cells g0).2, (cells_at g0 0).2, (cells_at g0 1).2⟩, ⟨(pair_cells g1).1, (pair_cells g1).2, (cells_at g1 0).2, (cells_at g1 1).2⟩, lt_of_get g1, hB0.trans (h.mono hB0.size)⟩
  clear hW0 hB0 k0 k1
  rcases (show n < 0 ∨ (¬ n < 0 ∧ 65536 < n) by omega) with h | ⟨h, h2⟩
  all_goals
    go_enter Tryd.func7, Tryd.ntmps7
    go_wp2_with fail
    rw [HW0.out]
    refine HE.out.mono ?_
    rintro e w1 ⟨rfl, hb1⟩
    obtain ⟨⟨a0, a1, a2, a3⟩, ⟨b0, b1, b2, b3⟩, hs, hbw⟩ := HK.out w1 hb1
    have HBW : Hid (Below w.heap.size w w1) := hbw
    clear hb1 hbw
    go_wp2
    refine bodyPost_ret (v := .tuple #[.agg #[.slice none 0 0, .slice none 0 0], .agg #[.int .i64 1, .slice none 0 0]]) (by simp [results, Tryd.results7, go_sem, a0, a1, b0, b1]) rfl ⟨rfl, ?_⟩
    exact (((HBW.out.setCell (p := ⟨w.heap.size, 0, none⟩) (Nat.le_refl _) _).setCell (p := ⟨w.heap.size, 1, none⟩) (Nat.le_refl _) _).setCell (p := ⟨w.heap.size + 1, 0, none⟩) (by simp) _).setCell (p := ⟨w.heap.size + 1, 1, none⟩) (by simp) _

set_option maxRecDepth 100000 in
set_option maxHeartbeats 2000000 in
theorem plays_bad (n : Int) (hn : n < 0 ∨ 65536 < n) (age : Int) (v : Value) (w : World) (hg : HasType w) : Calls Tryd.prog 3 #[.int .i64 n, .int .u32 age, v] w fun e w' => e = .returned (.bool true) ∧ Below w.heap.size w w' := by
  have HG : Hid (∀ wx, Below w.heap.size w wx → HasType wx) := fun wx h => hg.keep h hg.pos
  have HAW : Hid (type_of% (awake_calls w)) := awake_calls w
  have HN : Hid (∀ wx, type_of% (new_bad n age hn wx)) := fun wx => new_bad n age hn wx
  have HD : Hid (∀ wx, type_of% (docNew_bad n hn wx)) := fun wx => docNew_bad n hn wx
  have HSE : Hid (∀ wx, Below w.heap.size w wx → Calls Tryd.prog 8 #[.iface 49 (.int .i64 1), .agg #[.int .i64 1, .slice none 0 0]] wx fun r w' => r = .returned (.bool true) ∧ Below wx.heap.size wx w') := fun wx h => seenE 1 (by omega) wx (HG.out wx h)
  have HBP : Hid (∀ wx, Calls Tryd.prog 9 #[.agg #[.int .i64 1, .slice none 0 0]] wx fun e w' => e = .returned (.bool true) ∧ Below wx.heap.size wx w') := fun wx => badP 1 (by omega) wx
  clear hg hn
  go_enter Tryd.func3, Tryd.ntmps3
  go_wp2_with fail
  refine HAW.out.mono ?_
  rintro e w1 ⟨rfl, hb1⟩
  have BW1 : Hid (Below w.heap.size w w1) := hb1
  clear hb1
  go_wp2_with fail
  refine (HN.out _).mono ?_
  rintro e w1' ⟨rfl, hw1⟩
  subst hw1
  go_wp2_with fail
  refine (HD.out _).mono ?_
  rintro e w2 ⟨rfl, hb2⟩
  have BW2 : Hid (Below w.heap.size w w2) := BW1.out.trans (hb2.mono BW1.out.size)
  clear hb2
  obtain ⟨W4, hW4⟩ : ∃ W4, (w2.alloc (.cells #[.slice none 0 0, .slice none 0 0] 33)).alloc (.cells #[.int .i64 1, .slice none 0 0] 36) = W4 := ⟨_, rfl⟩
  obtain ⟨k0, k1, hB4⟩ := two_new w2 (.cells #[.slice none 0 0, .slice none 0 0] 33) (.cells #[.int .i64 1, .slice none 0 0] 36)
  rw [hW4] at k0 k1 hB4
  obtain ⟨mb, hmb⟩ : ∃ mb, w2.heap.size = mb := ⟨_, rfl⟩
  rw [hmb] at k0 k1
  have HW4 : Hid ((w2.alloc (.cells #[.slice none 0 0, .slice none 0 0] 33)).alloc (.cells #[.int .i64 1, .slice none 0 0] 36) = W4) := hW4
  have HMB : Hid (w2.heap.size = mb) := hmb
  have BW4 : Hid (Below w.heap.size w W4) := BW2.out.trans (hB4.mono BW2.out.size)
  have HF : Hid (∀ wx, Below W4.heap.size W4 wx → wx.cell? ⟨mb + 1, 0, none⟩ = some (.int .i64 1) ∧ wx.cell? ⟨mb + 1, 1, none⟩ = some (.slice none 0 0) ∧ mb + 1 < wx.heap.size) := fun wx h => by
    have g := (h.block _ (lt_of_get k1)).trans k1
    exact ⟨(pair_cells g).1, (pair_cells g).2, lt_of_get g⟩
  obtain ⟨f0, f1, fs⟩ := HF.out W4 (Below.refl _ _)
  clear k0 k1 hB4 hW4 hmb
  go_upto_region 5 with fail
  rw [HW4.out, HMB.out]
  go_wp2_with fail
  refine (HSE.out _ BW4.out).mono ?_
  rintro e w5 ⟨rfl, hb5⟩
  have BW5 : Hid (Below w.heap.size w w5 ∧ Below W4.heap.size W4 w5) := ⟨BW4.out.trans (hb5.mono BW4.out.size), hb5⟩
  clear f0 f1 fs
  obtain ⟨f0, f1, fs⟩ := HF.out w5 hb5
  clear hb5
  go_wp2_with fail
  refine (HBP.out _).mono ?_
  rintro e w6 ⟨rfl, hb6⟩
  have BW6 : Hid (Below w.heap.size w w6 ∧ Below W4.heap.size W4 w6) := ⟨BW5.out.1.trans (hb6.mono BW5.out.1.size), BW5.out.2.trans (hb6.mono BW5.out.2.size)⟩
  clear f0 f1 fs hb6
  obtain ⟨f0, f1, fs⟩ := HF.out w6 BW6.out.2
  go_wp2_with fail
  refine (HBP.out _).mono ?_
  rintro e w7 ⟨rfl, hb7⟩
  have BW7 : Hid (Below w.heap.size w w7) := BW6.out.1.trans (hb7.mono BW6.out.1.size)
  clear hb7
  go_wp2
  go_ret
  exact ⟨rfl, BW7.out⟩

theorem Tryd.elemOps : Tryd.prog.underlying 23 = some (.slice (Tryd.prog.elem 23)) := by kernel_rfl
theorem Tryd.sizeOps (w : World) : (sizeOf (Tryd.prog.elem 23)).run Tryd.prog w = .ok 3 w := by kernel_rfl
/-- 'script[:50]'. -/
theorem slice_some (w : World) (b off m cap : Nat) (h : 50 ≤ cap) : (Instr.slice 23 (.slice (some ⟨b, off, none⟩) m cap) none (some (.int .i64 50)) none).run Tryd.prog w = .ok (.slice (some ⟨b, off, none⟩) 50 cap) w := by
  rw [run_slice_h (ht := Tryd.elemOps) (h0 := by omega) (h2 := by omega), Tryd.sizeOps]
  have e2 : (50 : Int).toNat = 50 := rfl
  simp only [Result.andThen_ok, sliced, e2]
  rw [if_neg (by omega)]
  simp [Addr.add]

set_option maxRecDepth 100000 in
set_option maxHeartbeats 8000000 in
theorem plays_calls (n : Nat) (hn : n ≤ 65536) (age : Int) (ha : 0 ≤ age) (hA : age ≤ 4294967295) (so : Option Addr) (m sc : Nat) (L : List Op3) (w : World) (hg : HasType w) (hlen : L.length = m) (hm : m ≤ maxLen) (hsc : m ≤ sc) (ho : HasOps w (.slice so m sc) L) : Calls Tryd.prog 3 #[.int .i64 n, .int .u32 age, .slice so m sc] w fun e w' => e = .returned (.bool true) ∧ Below w.heap.size w w' := by
  have HO : Hid (HasOps w (.slice so m sc) L ∧ L.length = m ∧ HasType w ∧ m ≤ maxLen) := ⟨ho, hlen, hg, hm⟩
  unfold maxLen at hm
  clear ho hlen
  have hcond : (∃ _ : ¬ (200 : Int) < (n : Int), True) ∨ (∃ _ : (200 : Int) < (n : Int), ∃ _ : ¬ (50 : Int) < (m : Int), True) ∨ ∃ _ : (200 : Int) < (n : Int), ∃ _ : (50 : Int) < (m : Int), ∃ b off, so = some ⟨b, off, none⟩ := by
    by_cases h1 : (200 : Int) < (n : Int)
    · by_cases h2 : (50 : Int) < (m : Int)
      · obtain ⟨x, hx⟩ : ∃ x, L[0]? = some x := ⟨L[0]'(by have := HO.out.2.1; omega), List.getElem?_eq_getElem _⟩
        obtain ⟨b, off, e, _⟩ := HO.out.1.at hx
        exact Or.inr (Or.inr ⟨h1, h2, b, off, e⟩)
      · exact Or.inr (Or.inl ⟨h1, h2, trivial⟩)
    · exact Or.inl ⟨h1, trivial⟩
  have HG : Hid (∀ wx, Below w.heap.size w wx → HasType wx) := fun wx h => hg.keep h hg.pos
  have HAW : Hid (type_of% (awake_calls w)) := awake_calls w
  have HN : Hid (∀ wx, type_of% (new_calls n hn age ha hA wx)) := fun wx => new_calls n hn age ha hA wx
  have HD : Hid (∀ wx, type_of% (docNew_calls n hn wx)) := fun wx => docNew_calls n hn wx
  have HS0 : Hid (∀ wx, Calls Tryd.prog 8 #[.nilIface, .agg #[.int .i64 0, .slice none 0 0]] wx fun r w' => r = .returned (.bool true) ∧ Below wx.heap.size wx w') := fun wx => seen_none none 0 wx
  have HBN : Hid (∀ wx, type_of% (badN wx)) := fun wx => badN wx
  clear hg
  go_enter Tryd.func3, Tryd.ntmps3
  go_wp2_with fail
  refine HAW.out.mono ?_
  rintro e w1 ⟨rfl, hb1⟩
  have BW1 : Hid (Below w.heap.size w w1) := hb1
  clear hb1
  go_wp2_with fail
  refine (HN.out _).mono ?_
  rintro e w2 ⟨rfl, hI2, hb2⟩
  obtain ⟨pb, hpb⟩ : ∃ pb, w1.heap.size = pb := ⟨_, rfl⟩
  rw [hpb] at hI2 ⊢
  have I2 : Hid (IsStamp w2 (pb + 1) pb n (List.replicate n none) ∧ w.heap.size ≤ pb ∧ Below w.heap.size w w2) := ⟨hI2, by rw [← hpb]; exact BW1.out.size, BW1.out.trans (hb2.mono BW1.out.size)⟩
  clear hI2 hb2 hpb
  go_wp2_with fail
  refine (HD.out _).mono ?_
  rintro e w3 ⟨kb, ib, rfl, hRM, hkb, hib, hb3⟩
  obtain ⟨mb, hmb⟩ : ∃ mb, w3.heap.size = mb := ⟨_, rfl⟩
  obtain ⟨W4, hW4⟩ : ∃ W4, (w3.alloc (.cells #[.slice (some ⟨kb, 0, none⟩) n n, .slice (some ⟨ib, 0, none⟩) n n] 33)).alloc (.cells #[.int .i64 0, .slice none 0 0] 36) = W4 := ⟨_, rfl⟩
  obtain ⟨k0, k1, hB4⟩ := two_new w3 (.cells #[.slice (some ⟨kb, 0, none⟩) n n, .slice (some ⟨ib, 0, none⟩) n n] 33) (.cells #[.int .i64 0, .slice none 0 0] 36)
  rw [hW4] at k0 k1 hB4
  rw [hmb] at k0 k1
  have HPI : Hid (∀ wx, Below W4.heap.size W4 wx → PI w wx (pb + 1) pb kb ib mb n (List.replicate n none) (List.replicate n 0)) := by
    have h4 : PI w W4 (pb + 1) pb kb ib mb n (List.replicate n none) (List.replicate n 0) := by
      rw [← hW4, ← hmb]
      exact PI.new I2.out.1 hRM hkb hib hb3 I2.out.2.2 (by have := I2.out.2.1; omega) I2.out.2.1
    exact fun wx h => h4.later h
  have HW4 : Hid ((w3.alloc (.cells #[.slice (some ⟨kb, 0, none⟩) n n, .slice (some ⟨ib, 0, none⟩) n n] 33)).alloc (.cells #[.int .i64 0, .slice none 0 0] 36) = W4) := hW4
  have HMB : Hid (w3.heap.size = mb) := hmb
  have HF : Hid (∀ wx, Below W4.heap.size W4 wx → wx.cell? ⟨mb + 1, 0, none⟩ = some (.int .i64 0) ∧ wx.cell? ⟨mb + 1, 1, none⟩ = some (.slice none 0 0) ∧ mb + 1 < wx.heap.size ∧ wx.cell? ⟨mb, 0, none⟩ = some (.slice (some ⟨kb, 0, none⟩) n n) ∧ wx.cell? ⟨mb, 1, none⟩ = some (.slice (some ⟨ib, 0, none⟩) n n)) := fun wx h => by
    have g := (h.block _ (lt_of_get k1)).trans k1
    have g0 := (h.block _ (lt_of_get k0)).trans k0
    exact ⟨(pair_cells g).1, (pair_cells g).2, lt_of_get g, (pair_cells g0).1, (pair_cells g0).2⟩
  obtain ⟨f0, f1, fs, _, _⟩ := HF.out W4 (Below.refl _ _)
  clear k0 k1 hB4 hW4 hmb hRM hkb hib hb3
  go_upto_region 5 with fail
  rw [HW4.out, HMB.out]
  go_wp2_with fail
  refine (HS0.out _).mono ?_
  rintro e w5 ⟨rfl, hb5⟩
  have B5 : Hid (Below W4.heap.size W4 w5) := hb5
  clear f0 f1 fs
  obtain ⟨f0, f1, fs, _, _⟩ := HF.out w5 hb5
  clear hb5
  go_wp2_with fail
  refine (HBN.out _).mono ?_
  rintro e w6 ⟨rfl, hb6⟩
  have B6 : Hid (Below W4.heap.size W4 w6) := B5.out.trans (hb6.mono B5.out.size)
  clear f0 f1 fs hb6
  obtain ⟨f0, f1, fs, _, _⟩ := HF.out w6 B6.out
  go_wp2_with fail
  refine (HBN.out _).mono ?_
  rintro e w7 ⟨rfl, hb7⟩
  have B7 : Hid (Below W4.heap.size W4 w7) := B6.out.trans (hb7.mono B6.out.size)
  clear f0 f1 fs hb7
  obtain ⟨f0, f1, fs, f2, f3⟩ := HF.out w7 B7.out
  rcases hcond with ⟨hc, _⟩ | ⟨hc, hc2, _⟩ | ⟨hc, hc2, b, off, rfl⟩
  · have S1 : Hid (type_of% (play_calls (HPI.out w7 B7.out) HO.out.2.2.1 hn so m sc L HO.out.1 HO.out.2.1 HO.out.2.2.2)) := play_calls (HPI.out w7 B7.out) HO.out.2.2.1 hn so m sc L HO.out.1 HO.out.2.1 HO.out.2.2.2
    go_wp2_with fail
    refine S1.out.mono ?_
    rintro e w8 ⟨rfl, h8⟩
    have I8 : Hid (Below w.heap.size w w8) := h8
    clear h8
    go_wp2
    go_ret
    exact ⟨rfl, I8.out⟩
  · have S1 : Hid (type_of% (play_calls (HPI.out w7 B7.out) HO.out.2.2.1 hn so m sc L HO.out.1 HO.out.2.1 HO.out.2.2.2)) := play_calls (HPI.out w7 B7.out) HO.out.2.2.1 hn so m sc L HO.out.1 HO.out.2.1 HO.out.2.2.2
    go_wp2_with fail
    refine S1.out.mono ?_
    rintro e w8 ⟨rfl, h8⟩
    have I8 : Hid (Below w.heap.size w w8) := h8
    clear h8
    go_wp2
    go_ret
    exact ⟨rfl, I8.out⟩
  · have hO50 : HasOps w (.slice (some ⟨b, off, none⟩) 50 sc) (L.take 50) := by
      have h := HO.out.1
      rw [← HO.out.2.1] at h
      exact h.front (by have := HO.out.2.1; omega)
    have S1 : Hid (Calls Tryd.prog 10 #[.pointer (some ⟨pb + 1, 0, none⟩), .agg #[.slice (some ⟨kb, 0, none⟩) n n, .slice (some ⟨ib, 0, none⟩) n n], .slice (some ⟨b, off, none⟩) 50 sc] w7 fun e w' => e = .returned (.bool true) ∧ Below w.heap.size w w') := play_calls (HPI.out w7 B7.out) HO.out.2.2.1 hn (some ⟨b, off, none⟩) 50 sc (L.take 50) hO50 (by rw [List.length_take]; have := HO.out.2.1; omega) (by unfold maxLen; omega)
    have hsl := fun wx => slice_some wx b off m sc (by omega)
    clear hO50
    go_wp2_with fail
    refine S1.out.mono ?_
    rintro e w8 ⟨rfl, h8⟩
    have I8 : Hid (Below w.heap.size w w8) := h8
    clear h8
    go_wp2
    go_ret
    exact ⟨rfl, I8.out⟩
end Go.Proofs.YtlgdhoemjllfdaaDoor
