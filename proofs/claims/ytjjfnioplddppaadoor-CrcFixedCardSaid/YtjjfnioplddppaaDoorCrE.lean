/- check sums: Seal, by both texts. -/
import Derived.Test.YtjjfnioplddppaaDoorCrD
namespace Go.Proofs.YtjjfnioplddppaaDoor
open Go.RowKit Go.Extern Cr

attribute [local go_sem] Oper.semAt_some u32_signed u32_max

/-- the four bytes of a word. -/
def le4 (s : Nat) : List Nat := [s % 256, s / 256 % 256, s / 65536 % 256, s / 16777216 % 256]
def sealOf (l : List Nat) : List Nat := l ++ le4 (upd 0 l)
theorem le4_bts (s : Nat) : Bts (le4 s) := by
  intro v hv
  simp [le4] at hv
  omega
theorem le4_num {s : Nat} (h : s < 4294967296) : num (le4 s) = s := by
  simp only [le4, num]
  omega
theorem seal_len (l : List Nat) : (sealOf l).length = l.length + 4 := by simp [sealOf, le4]
theorem seal_bts {l : List Nat} (h : Bts l) : Bts (sealOf l) := h.app (le4_bts _)
theorem seal_fits {l : List Nat} (h : Bts l) : fits (sealOf l) = true := by
  have hl := seal_len l
  have e1 : (sealOf l).drop l.length = le4 (upd 0 l) := by simp [sealOf]
  have e2 : (sealOf l).take l.length = l := by simp [sealOf]
  unfold fits
  rw [hl, show l.length + 4 - 4 = l.length by omega, e1, e2, le4_num (upd_lt (by omega) h)]
  simp
theorem hasB_four (w : World) (a b c d : Nat) : HasB (w.alloc (.cells #[.int .u8 (a : Int), .int .u8 (b : Int), .int .u8 (c : Int), .int .u8 (d : Int)] 5)) (.slice (some ⟨w.heap.size, 0, none⟩) 4 4) [a, b, c, d] := by
  have h : (w.alloc (.cells #[.int .u8 (a : Int), .int .u8 (b : Int), .int .u8 (c : Int), .int .u8 (d : Int)] 5)).heap[w.heap.size]? = some (.cells #[.int .u8 (a : Int), .int .u8 (b : Int), .int .u8 (c : Int), .int .u8 (d : Int)] 5) := by show (w.heap.push _)[w.heap.size]? = _; simp
  generalize w.alloc (.cells #[.int .u8 (a : Int), .int .u8 (b : Int), .int .u8 (c : Int), .int .u8 (d : Int)] 5) = W at h
  refine ⟨_, 4, rfl, fun j x hj => ⟨w.heap.size, 0, rfl, b_lt_get h, ?_⟩⟩
  rw [Nat.zero_add]
  simp only [World.cell?, h]
  rcases j with _ | _ | _ | _ | j
  all_goals first | (simp at hj; done) | (simp at hj; subst hj; simp)
theorem hasB_le4 (w : World) {s : Nat} (hs : s < 4294967296) : HasB (w.alloc (.cells #[.int .u8 ((s : Int) % 256), .int .u8 ((s : Int) / 256 % 256), .int .u8 ((s : Int) / 65536 % 256), .int .u8 ((s : Int) / 16777216)] 5)) (.slice (some ⟨w.heap.size, 0, none⟩) (le4 s).length 4) (le4 s) := by
  have h := hasB_four w (s % 256) (s / 256 % 256) (s / 65536 % 256) (s / 16777216 % 256)
  have e0 : ((s % 256 : Nat) : Int) = (s : Int) % 256 := by omega
  have e1 : ((s / 256 % 256 : Nat) : Int) = (s : Int) / 256 % 256 := by omega
  have e2 : ((s / 65536 % 256 : Nat) : Int) = (s : Int) / 65536 % 256 := by omega
  have e3 : ((s / 16777216 % 256 : Nat) : Int) = (s : Int) / 16777216 := by omega
  rw [e0, e1, e2, e3] at h
  exact h

set_option maxRecDepth 100000 in
set_option maxHeartbeats 1000000 in
theorem cSeal_calls (lo : Option Addr) (lc : Nat) (l : List Nat) (w : World) (hf : HasFours w) (hg : 0 < w.heap.size) (hl : HasB w (.slice lo l.length lc) l) (hb : Bts l) (hm : l.length + 4 ≤ 140737488355328) (hc : lo = none → lc = 0) :
    Calls Tryd.prog 7 #[.slice lo l.length lc] w fun e w' => ∃ mo mc, e = .returned (.slice mo (l.length + 4) mc) ∧ w'.ownsRow w.heap.size 5 1 (.slice mo (l.length + 4) mc) (l.length + 4) (bv (sealOf l)) ∧ Below w.heap.size w w' := by
  obtain ⟨i0, hi, hz0, hz1, hz2⟩ := infoB
  have HL : Hid (HasB w (.slice lo l.length lc) l) := hl
  have HC : Hid (lo = none → lc = 0) := hc
  have HS : Hid (sealOf l = l ++ le4 (upd 0 l)) := (rfl : sealOf l = l ++ le4 (upd 0 l))
  have hs : upd 0 l < 4294967296 := upd_lt (by omega) hb
  have ES : Hid (∀ wx, Below w.heap.size w wx → Calls Tryd.prog 5 #[.slice lo l.length lc] wx fun e w' => e = .returned (.int .u32 ((upd 0 l : Nat) : Int)) ∧ w' = wx) := fun wx hx => cSum_calls lo lc l wx (fours_keep hf hg hx) (hl.keep hx) hb (by omega)
  clear hl hc hf
  generalize upd 0 l = s at *
  go_enter Tryd.func7, Tryd.ntmps7
  go_wp2_with (first
    | (refine wpList_make_own _ rfl _ _ 25 rfl w.heap.size 5 i0 (.int .u8 0) 1 Tryd.underlying25 hi hz0 hz1 .i64 .i64 ((l.length : Int) + 4) (l.length + 4) rfl rfl rfl ?hby ?h63 ?hbase ?_; (case hby => rw [hz2]; omega); (case h63 => unfold maxLen; omega); (case hbase => exact Nat.le_refl _); intro w2 hown2 hgrow2; have H2 : Hid (w2.ownsRow w.heap.size 5 1 (.slice (some ⟨w.heap.size, 0, none⟩) 0 (l.length + 4)) 0 [] ∧ Below w.heap.size w w2) := ⟨hown2, hgrow2.os, hgrow2.tape, hgrow2.output, hgrow2.size, fun k hk => hgrow2.block k hk (by simp)⟩; clear hown2 hgrow2)
    | (go_at_call 5; refine (ES.out _ H5.out.2).mono ?_; rintro e w' ⟨rfl, rfl⟩)
    | (at_builtin; refine wpList_append_B rfl _ _ rfl w.heap.size (.slice (some ⟨w.heap.size, 0, none⟩) 0 (l.length + 4)) [] rfl H2.out.1 lo lc l rfl (HL.out.keep H2.out.2) HC.out (by simp only [List.length_nil]; omega) H2.out.2.size ?_; intro v5 w5 hown5 hgr5; have H5 : Hid (w5.ownsRow w.heap.size 5 1 v5 l.length (bv l) ∧ Below w.heap.size w w5) := (by refine ⟨?_, bbelow_grown H2.out.2 H2.out.1 hgr5 H2.out.2.size⟩; simpa using hown5); clear hown5 hgr5; obtain ⟨po, pc, hv5⟩ := bown_slice H5.out.1; subst hv5)
    | (at_builtin; refine wpList_append_B rfl _ _ rfl w.heap.size (.slice po l.length pc) l rfl (bown_below H5.out.1 ((Below.refl _ w').alloc (Nat.le_refl _) _)) (some ⟨w'.heap.size, 0, none⟩) 4 (le4 s) rfl (hasB_le4 w' hs) (fun e => by cases e) (by show l.length + 4 ≤ _; omega) (by have := H5.out.2.size; simp; omega) ?_; intro v6 w6 hown6 hgr6; have H6 : Hid (w6.ownsRow w.heap.size 5 1 v6 (l.length + 4) (bv (sealOf l)) ∧ Below w.heap.size w w6) := (by refine ⟨?_, bbelow_grown (H5.out.2.alloc H5.out.2.size _) (bown_below H5.out.1 ((Below.refl _ w').alloc (Nat.le_refl _) _)) hgr6 (by have := H5.out.2.size; simp; omega)⟩; rw [HS.out]; rw [List.length_append] at hown6; exact hown6); clear hown6 hgr6; obtain ⟨ro, rc, hv6⟩ := bown_slice H6.out.1; subst hv6))
  go_ret
  exact ⟨ro, rc, rfl, H6.out.1, H6.out.2⟩
end Go.Proofs.YtjjfnioplddppaaDoor
