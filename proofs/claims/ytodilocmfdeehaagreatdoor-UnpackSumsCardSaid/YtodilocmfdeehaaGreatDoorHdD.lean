/- viaductref01.First: the first of a row of errors that is one. -/
import Derived.Test.YtodilocmfdeehaaGreatDoorHdC
namespace Go.Proofs.YtodilocmfdeehaaGreatDoor.Hi
open Go.RowKit Go.Extern Go.Shelf

attribute [local go_sem] Oper.semAt_some

theorem first_res {W : World} {z : Nat} {x0 x1 : Value} {tmps : Array Value} (h1 : W.heap[z]? = some (.cells #[x0, x1] 36)) (t2 : tmps[2]?.getD undef = .pointer (some ⟨z, 0, none⟩)) :
    (results Tryz.f47 tmps).run Tryz.prog W = .ok (.agg #[x0, x1]) W := by
  have c0 : W.cell? ⟨z, 0, none⟩ = some x0 := by simp [World.cell?, h1]
  have c1 : W.cell? ⟨z, 1, none⟩ = some x1 := by simp [World.cell?, h1]
  simp [results, Tryz.results47, go_sem, t2, c0, c1]
theorem bad_iff {E : Int × List (Int × Int)} : (decide (E.1 ≠ 0) || decide (0 < E.2.length)) = !decide (E = (0, [])) := by
  obtain ⟨a, l⟩ := E
  cases l <;> simp

set_option maxRecDepth 100000 in
set_option maxHeartbeats 4000000 in
theorem rFirst_calls (g n c : Nat) (E : Nat → Int × List (Int × Int)) (lo : Nat → Option Addr) (lc : Nat → Nat) (w : World) (hn : n ≤ 65536) (hg : g < w.heap.size)
    (hc : ∀ k, k < n → w.cell? ⟨g, k * 2, none⟩ = some (.int .i64 (E k).1) ∧ w.cell? ⟨g, k * 2 + 1, none⟩ = some (.slice (lo k) (E k).2.length (lc k)) ∧ HasPlaces w (.slice (lo k) (E k).2.length (lc k)) (E k).2) :
    Calls Tryz.prog 47 #[.slice (some ⟨g, 0, none⟩) n c] w fun e w' => ∃ R, RA w R e w' ∧ ((∃ k, k < n ∧ (∀ j, j < k → E j = (0, [])) ∧ E k ≠ (0, []) ∧ R = E k) ∨ ((∀ j, j < n → E j = (0, [])) ∧ R = (0, []))) := by
  obtain ⟨z, hz⟩ : ∃ z, w.heap.size = z := ⟨_, rfl⟩
  obtain ⟨W0, hW0⟩ : ∃ W0, w.alloc (.cells #[.int .i64 0, .slice none 0 0] 36) = W0 := ⟨_, rfl⟩
  have hB0 : Below w.heap.size w W0 := by rw [← hW0]; exact (Below.refl _ w).alloc (Nat.le_refl _) _
  have h0 : W0.heap[z]? = some (.cells #[.int .i64 0, .slice none 0 0] 36) := by rw [← hW0, ← hz]; exact heap_newW _ _
  have HQ : Hid (∀ wx, Below W0.heap.size W0 wx → wx.heap[z]? = some (.cells #[.int .i64 0, .slice none 0 0] 36) ∧ Below w.heap.size w wx) := fun wx hx => by
    have q := hB0.trans (hx.mono hB0.size)
    exact ⟨(hx.block _ (some_lt h0)).trans h0, q⟩
  have HC : Hid (∀ wx, Below W0.heap.size W0 wx → ∀ k, k < n → wx.cell? ⟨g, k * 2, none⟩ = some (.int .i64 (E k).1) ∧ wx.cell? ⟨g, k * 2 + 1, none⟩ = some (.slice (lo k) (E k).2.length (lc k)) ∧ HasPlaces wx (.slice (lo k) (E k).2.length (lc k)) (E k).2 ∧ g ≠ z ∧ g < wx.heap.size) := fun wx hx k hk => by
    obtain ⟨a1, a2, a3⟩ := hc k hk
    have q := (HQ.out wx hx).2
    have hb := q.block g hg
    exact ⟨by rw [← a1]; simp [World.cell?, hb], by rw [← a2]; simp [World.cell?, hb], pl_far a3 q.size (fun j hj _ => q.block j hj), by omega, Nat.lt_of_lt_of_le hg q.size⟩
  have HEND : Hid (∀ wx, Below W0.heap.size W0 wx → ∀ (F : Int × List (Int × Int)) (fo : Option Addr) (fc : Nat), HasPlaces w (.slice fo F.2.length fc) F.2 → RA w F (.returned (.agg #[.int .i64 F.1, .slice fo F.2.length fc])) ((wx.setCell ⟨z, 0, none⟩ (.int .i64 F.1)).setCell ⟨z, 1, none⟩ (.slice fo F.2.length fc)) ∧ ((wx.setCell ⟨z, 0, none⟩ (.int .i64 F.1)).setCell ⟨z, 1, none⟩ (.slice fo F.2.length fc)).heap[z]? = some (.cells #[.int .i64 F.1, .slice fo F.2.length fc] 36)) := fun wx hx F fo fc hp => by
    have hb : Below w.heap.size w ((wx.setCell ⟨z, 0, none⟩ (.int .i64 F.1)).setCell ⟨z, 1, none⟩ (.slice fo F.2.length fc)) := ((HQ.out wx hx).2.setCell (p := ⟨z, 0, none⟩) (by show w.heap.size ≤ z; omega) _).setCell (p := ⟨z, 1, none⟩) (by show w.heap.size ≤ z; omega) _
    exact ⟨⟨fo, fc, rfl, hp.keep hb, hb⟩, set_err (HQ.out wx hx).1 _ _⟩
  have HW0 : Hid (w.alloc (.cells #[.int .i64 0, .slice none 0 0] 36) = W0) := hW0
  have HB0 : Hid (Below W0.heap.size W0 W0) := Below.refl _ _
  have HPW : Hid (∀ k, k < n → HasPlaces w (.slice (lo k) (E k).2.length (lc k)) (E k).2) := fun k hk => (hc k hk).2.2
  clear hW0 hB0 h0 hc
  go_enter Tryz.func47, Tryz.ntmps47
  go_upto_region 1 with fail
  rw [HW0.out]
  go_wp2_with fail
  go_loopw [7] (fun iv wr => ∃ k : Nat, k ≤ n ∧ iv = .int .i64 k ∧ Hid (Below W0.heap.size W0 wr) ∧ Hid (∀ j, j < k → E j = (0, []))) (fun iv _ => n - (intOf iv).toNat)
  case atStart => exact ⟨0, Nat.zero_le _, rfl, HB0.out, fun j hj => absurd hj (Nat.not_lt_zero _)⟩
  case round =>
    obtain ⟨k, hk, rfl, HB, HZ⟩ := hrel
    rcases Nat.lt_or_eq_of_le hk with h1 | h1
    · obtain ⟨ca, cb, hp, hgz, hgs⟩ := HC.out wr HB.out k h1
      have HP : Hid (HasPlaces wr (.slice (lo k) (E k).2.length (lc k)) (E k).2) := hp
      have q6 : decide ((k : Int) < (n : Int)) = true := by simp; omega
      have i2 : (0 : Int) ≤ (k : Int) := by omega
      have i3 : (k : Int) < (n : Int) := by omega
      clear hp
      obtain ⟨s, hs⟩ : ∃ s, wr.heap.size = s := ⟨_, rfl⟩
      obtain ⟨W1, hW1⟩ : ∃ W1, wr.alloc (.cells #[.int .i64 (E k).1, .slice (lo k) (E k).2.length (lc k)] 36) = W1 := ⟨_, rfl⟩
      have HW1 : Hid (wr.alloc (.cells #[.int .i64 (E k).1, .slice (lo k) (E k).2.length (lc k)] 36) = W1) := hW1
      have HB1 : Hid (Below W0.heap.size W0 W1) := by show Below _ _ _; rw [← hW1]; exact HB.out.alloc HB.out.size _
      have HS : Hid (∀ wx, Below W1.heap.size W1 wx → wx.heap[s]? = some (.cells #[.int .i64 (E k).1, .slice (lo k) (E k).2.length (lc k)] 36) ∧ Below W0.heap.size W0 wx) := fun wx hx => by
        have q : W1.heap[s]? = some (.cells #[.int .i64 (E k).1, .slice (lo k) (E k).2.length (lc k)] 36) := by rw [← hW1, ← hs]; exact heap_newW _ _
        exact ⟨(hx.block _ (some_lt q)).trans q, HB1.out.trans (hx.mono HB1.out.size)⟩
      clear hW1
      go_upto_region 4 with fail
      rw [HW1.out]
      obtain ⟨c0, c1, _, _⟩ := cell_two (HS.out W1 (Below.refl _ _)).1
      go_wp2_with fail
      refine (bad_calls (E k).1 (lo k) (E k).2.length (lc k) W1).mono ?_
      rintro e w2 ⟨rfl, hb2⟩
      rw [bad_iff]
      have HB2 : Hid (Below W1.heap.size W1 w2) := hb2
      clear hb2 c0 c1
      obtain ⟨c0, c1, _, _⟩ := cell_two (HS.out w2 HB2.out).1
      by_cases hE : E k = (0, [])
      · have j1 : decide (E k = (0, [])) = true := by simpa using hE
        go_wp2
        go_roundw
        case rel => exact ⟨k + 1, by omega, by go_num, (HS.out w2 HB2.out).2, fun j hj => (Nat.lt_succ_iff_lt_or_eq.mp hj).elim (HZ.out j) (fun e => e ▸ hE)⟩
        case measure => simp [intOf]; omega
      · have j1 : decide (E k = (0, [])) = false := by simpa using hE
        obtain ⟨d0, d1, f0, f1⟩ := cell_two (HQ.out w2 (HS.out w2 HB2.out).2).1
        go_wp2
        obtain ⟨r1, r2⟩ := HEND.out w2 (HS.out w2 HB2.out).2 (E k) (lo k) (lc k) (HPW.out k h1)
        exact bodyPost_ret (first_res r2 rfl) rfl ⟨_, r1, .inl ⟨k, h1, HZ.out, hE, rfl⟩⟩
    · subst h1
      obtain ⟨d0, d1, f0, f1⟩ := cell_two (HQ.out wr HB.out).1
      have q6 : decide ((k : Int) < (k : Int)) = false := by simp
      go_wp2
      obtain ⟨r1, r2⟩ := HEND.out wr HB.out (0, []) none 0 (pl_nil _)
      exact bodyPost_ret (first_res r2 rfl) rfl ⟨_, r1, .inr ⟨HZ.out, rfl⟩⟩
end Go.Proofs.YtodilocmfdeehaaGreatDoor.Hi
