/- check sums: the law's own sanity (awake); new bytes in memory. -/
import Derived.Test.YtjjfnioplddppaaDoorCrF
import Derived.Lib.SlBytesConst
namespace Go.Proofs.YtjjfnioplddppaaDoor
open Go.RowKit Go.Extern Cr

attribute [local go_sem] Oper.semAt_some u32_signed u32_max

theorem hasB_new (w : World) (xs : List Nat) (cap : Nat) (fr : Nat × Nat) : HasB (w.alloc (.cells (bv xs).toArray 5 fr)) (.slice (some ⟨w.heap.size, 0, none⟩) xs.length cap) xs := by
  have h : (w.alloc (.cells (bv xs).toArray 5 fr)).heap[w.heap.size]? = some (.cells (bv xs).toArray 5 fr) := by show (w.heap.push _)[w.heap.size]? = _; simp
  generalize w.alloc (.cells (bv xs).toArray 5 fr) = W at h
  refine ⟨_, cap, rfl, fun j x hj => ⟨w.heap.size, 0, rfl, b_lt_get h, ?_⟩⟩
  rw [Nat.zero_add]
  simp only [World.cell?, h]
  simp [bv, hj]
theorem conv_const (w : World) (C : Array Value) (n c : Nat) : (convert 25 25 (.slice (some ⟨w.heap.size, 0, none⟩) n c)).run Tryd.prog (w.alloc (.cells C 5)) = .ok (.slice (some ⟨w.heap.size, 0, none⟩) n c) (w.alloc (.cells C 5 (C.size, C.size + 1))) := Lib.run_convert_bytes_const w 25 5 C n c Tryd.underlying25 Tryd.underlying5
theorem sum_nine : upd 0 [49, 50, 51, 52, 53, 54, 55, 56, 57] = 3421780262 := by kernel_rfl
theorem bts_of {l : List Nat} (h : l.all (· < 256) = true) : Bts l := fun v hv => by
  have := List.all_eq_true.1 h v hv
  simpa using this
theorem own_cap {w : World} {B n cap : Nat} {ao : Option Addr} {xs : List Value} (h : w.ownsRow B 5 1 (.slice ao n cap) n xs) : n ≤ cap ∧ (ao = none → cap = 0) := by
  rcases h.2 with ⟨e, h0⟩ | ⟨g, c, cur, e, _, _, hn, _⟩
  · injection e with e1 e2 e3
    subst e1 e3
    exact ⟨by omega, fun _ => rfl⟩
  · injection e with e1 e2 e3
    subst e1 e3
    exact ⟨hn, fun h => by cases h⟩

/-- what is sealed, with no word on its bytes but that it fits. -/
theorem cSeal_fits (lo : Option Addr) (lc n : Nat) (l : List Nat) (hn : l.length = n) (w : World) (hf : HasFours w) (hg : 0 < w.heap.size) (hl : HasB w (.slice lo l.length lc) l) (hb : Bts l) (hm : l.length + 4 ≤ 140737488355328) (hc : lo = none → lc = 0) :
    Calls Tryd.prog 7 #[.slice lo n lc] w fun e w' => ∃ mo mc S, e = .returned (.slice mo (n + 4) mc) ∧ S = sealOf l ∧ w'.ownsRow w.heap.size 5 1 (.slice mo (n + 4) mc) (n + 4) (bv S) ∧ HasB w' (.slice mo S.length mc) S ∧ S.length = n + 4 ∧ Bts S ∧ fits S = true ∧ Below w.heap.size w w' := by
  subst hn
  refine (cSeal_calls lo lc l w hf hg hl hb hm hc).mono ?_
  rintro e w' ⟨mo, mc, rfl, hown, hb'⟩
  refine ⟨mo, mc, sealOf l, rfl, rfl, hown, ?_, seal_len l, seal_bts hb, seal_fits hb, hb'⟩
  rw [← seal_len l] at hown
  exact hasB_own hown

set_option maxRecDepth 100000 in
set_option maxHeartbeats 1000000 in
theorem nine_calls (w : World) (hf : HasFours (w.alloc (.cells #[.int .u8 49, .int .u8 50, .int .u8 51, .int .u8 52, .int .u8 53, .int .u8 54, .int .u8 55, .int .u8 56, .int .u8 57] 5 (9, 10)))) : Calls Tryd.prog 5 #[.slice (some ⟨w.heap.size, 0, none⟩) 9 9] (w.alloc (.cells #[.int .u8 49, .int .u8 50, .int .u8 51, .int .u8 52, .int .u8 53, .int .u8 54, .int .u8 55, .int .u8 56, .int .u8 57] 5 (9, 10))) fun e w' => e = .returned (.int .u32 3421780262) ∧ w' = w.alloc (.cells #[.int .u8 49, .int .u8 50, .int .u8 51, .int .u8 52, .int .u8 53, .int .u8 54, .int .u8 55, .int .u8 56, .int .u8 57] 5 (9, 10)) := by
  have h := cSum_calls (some ⟨w.heap.size, 0, none⟩) 9 [49, 50, 51, 52, 53, 54, 55, 56, 57] _ hf (hasB_new w [49, 50, 51, 52, 53, 54, 55, 56, 57] 9 (9, 10)) (bts_of rfl) (by decide)
  rw [sum_nine] at h
  exact h
set_option maxRecDepth 100000 in
set_option maxHeartbeats 400000 in
theorem awake17_calls (w : World) (hf : HasFours w) (hg : 0 < w.heap.size) : Calls Tryd.prog 4 #[] w fun e w' => e = .returned (.bool true) ∧ Below w.heap.size w w' := by
  have HF : Hid (∀ wx, Below w.heap.size w wx → HasFours wx ∧ 0 < wx.heap.size) := fun wx hx => ⟨fours_keep hf hg hx, Nat.lt_of_lt_of_le hg hx.size⟩
  have kc := fun (w : World) (C : Array Value) (n c : Nat) => conv_const w C n c
  clear hf
  go_enter Tryd.func4, Tryd.ntmps4
  go_wp2_with (first
    | (go_at_call 5; refine (nine_calls w (HF.out _ ((Below.refl _ w).alloc (Nat.le_refl _) _)).1).mono ?_; rintro e w1 ⟨rfl, hw1⟩; have H1 : Hid (Below w.heap.size w w1) := (by rw [hw1]; exact (Below.refl _ w).alloc (Nat.le_refl _) _); clear hw1)
    | (go_at_call 7; refine (cSeal_fits (some ⟨w1.heap.size, 0, none⟩) 1 1 [97] rfl _ (HF.out _ (H1.out.alloc H1.out.size _)).1 (HF.out _ (H1.out.alloc H1.out.size _)).2 (hasB_new w1 [97] 1 (1, 2)) (bts_of rfl) (by show 1 + 4 ≤ _; omega) (fun e => by cases e)).mono ?_; rintro e w2 ⟨mo, mc, S, rfl, _, hown2, hB2, hS, hbt, hft, hb2⟩; have H2 : Hid (HasB w2 (.slice mo S.length mc) S ∧ 5 ≤ mc ∧ Below w.heap.size w w2) := ⟨hB2, (own_cap hown2).1, (H1.out.alloc H1.out.size _).trans (hb2.mono (by have := H1.out.size; simp; omega))⟩; clear hown2 hb2 hB2)
    | fail)
  have hF := cFits_calls mo mc S w2 (HF.out _ H2.out.2.2).1 (HF.out _ H2.out.2.2).2 H2.out.1 hbt (by omega) (by have := H2.out.2.1; omega)
  rw [hS, hft] at hF
  refine hF.mono ?_
  rintro e w3 ⟨rfl, hb3⟩
  have H3 : Hid (Below w.heap.size w w3) := H2.out.2.2.trans (hb3.mono H2.out.2.2.size)
  clear hb3 hF hbt hft
  go_wp2_with fail
  have hF := cFits_calls (some ⟨w3.heap.size, 0, none⟩) 3 [0, 0, 0] _ (HF.out _ (H3.out.alloc H3.out.size _)).1 (HF.out _ (H3.out.alloc H3.out.size _)).2 (hasB_new w3 [0, 0, 0] 3 (0, 0)) (bts_of rfl) (by show 3 ≤ _; omega) (by show 3 ≤ 3; omega)
  rw [fits_short (by show 3 < 4; omega)] at hF
  refine hF.mono ?_
  rintro e w4 ⟨rfl, hb4⟩
  have H4 : Hid (Below w.heap.size w w4) := (H3.out.alloc H3.out.size _).trans (hb4.mono (by have := H3.out.size; simp; omega))
  clear hb4 hF
  go_wp2_with fail
  go_ret
  exact ⟨rfl, H4.out⟩
end Go.Proofs.YtjjfnioplddppaaDoor
