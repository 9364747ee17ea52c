/- check sums: the laws CrcSums, CrcSeals, CrcJoins, walked. -/
import Derived.Test.YtemdocnhdnhliaaDoorCrH
import Derived.Test.YtemdocnhdnhliaaDoorCrJ
namespace Go.Proofs.YtemdocnhdnhliaaDoor
open Go.RowKit Go.Extern Cr

attribute [local go_sem] Oper.semAt_some u32_signed u32_max

/-- what a law knows of its bytes, at every world above the one in which it began. -/
def Held (w : World) (lo : Option Addr) (lc : Nat) (l : List Nat) : Prop := ∀ wx, Below w.heap.size w wx → HasFours wx ∧ 0 < wx.heap.size ∧ HasB wx (.slice lo l.length lc) l
theorem held_of {w : World} {lo : Option Addr} {lc : Nat} {l : List Nat} (hf : HasFours w) (hg : 0 < w.heap.size) (hl : HasB w (.slice lo l.length lc) l) : Held w lo lc l := fun _ hx => ⟨fours_keep hf hg hx, Nat.lt_of_lt_of_le hg hx.size, hl.keep hx⟩
/-- a copy, told above the world in which the law began. -/
theorem twin_above {w wx : World} {lo : Option Addr} {lc : Nat} {l : List Nat} (h : Held w lo lc l) (hx : Below w.heap.size w wx) (hm : l.length ≤ 140737488355328) (hc : lo = none → lc = 0) :
    Calls Tryd.prog 11 #[.slice lo l.length lc] wx fun e w' => ∃ mo mc, e = .returned (.slice mo l.length mc) ∧ (w'.ownsRow wx.heap.size 5 1 (.slice mo l.length mc) l.length (bv l) ∧ HasB w' (.slice mo l.length mc) l ∧ l.length ≤ mc ∧ (mo = none → mc = 0)) ∧ Below w.heap.size w w' := by
  refine (kTwin_calls lo lc l wx (h wx hx).2.2 hm hc).mono ?_
  rintro e w' ⟨mo, mc, rfl, ho, hb⟩
  exact ⟨mo, mc, rfl, ⟨ho, hasB_own ho, own_cap ho⟩, hx.trans (hb.mono hx.size)⟩

set_option maxRecDepth 100000 in
set_option maxHeartbeats 1000000 in
theorem sums_calls (c : Nat) (hc : c < 4294967296) (lo : Option Addr) (lc : Nat) (l : List Nat) (w : World) (hf : HasFours w) (hg : 0 < w.heap.size) (hl : HasB w (.slice lo l.length lc) l) (hb : Bts l) (hm : l.length ≤ 140737488351232) (hcn : lo = none → lc = 0) :
    Calls Tryd.prog 3 #[.int .u32 (c : Int), .slice lo l.length lc] w fun e w' => e = .returned (.bool true) ∧ Below w.heap.size w w' := by
  have H0 : Hid (Held w lo lc l) := held_of hf hg hl
  have HA := awake17_calls w hf hg
  have HC : Hid ((lo = none → lc = 0) ∧ Bts l) := ⟨hcn, hb⟩
  clear hl hf hcn hb
  go_enter Tryd.func3, Tryd.ntmps3
  go_wp2_with (go_at_call 9; refine HA.mono ?_; rintro e w1 ⟨rfl, hb1⟩; have H1 : Hid (Below w.heap.size w w1) := hb1; clear hb1)
  refine (twin_above H0.out H1.out (by omega) HC.out.1).mono ?_
  rintro e w2 ⟨mo, mc, rfl, ho2, hb2⟩
  have H2 : Hid (HasB w2 (.slice mo l.length mc) l ∧ Below w.heap.size w w2) := ⟨ho2.2.1, hb2⟩
  clear ho2 hb2
  go_wp2_with fail
  refine (cUpdate_calls c hc mo mc l w2 (H0.out w2 H2.out.2).1 H2.out.1 HC.out.2 (by omega)).mono ?_
  rintro e w3 ⟨rfl, rfl⟩
  go_wp2_with fail
  refine (kUpdate_calls c hc lo lc l w3 (H0.out w3 H2.out.2).2.2 HC.out.2 (by omega)).mono ?_
  rintro e w4 ⟨rfl, rfl⟩
  generalize upd c l = s1
  go_wp2_with fail
  refine (twin_above H0.out H2.out.2 (by omega) HC.out.1).mono ?_
  rintro e w5 ⟨no, nc, rfl, ho5, hb5⟩
  have H5 : Hid (HasB w5 (.slice no l.length nc) l ∧ Below w.heap.size w w5) := ⟨ho5.2.1, hb5⟩
  clear ho5 hb5
  go_wp2_with fail
  refine (cSum_calls no nc l w5 (H0.out w5 H5.out.2).1 H5.out.1 HC.out.2 (by omega)).mono ?_
  rintro e w6 ⟨rfl, rfl⟩
  go_wp2_with fail
  refine (kSum_calls lo lc l w6 (H0.out w6 H5.out.2).2.2 HC.out.2 (by omega)).mono ?_
  rintro e w7 ⟨rfl, rfl⟩
  generalize upd 0 l = s2
  go_wp2_with fail
  go_ret
  exact ⟨rfl, H5.out.2⟩

set_option maxRecDepth 100000 in
set_option maxHeartbeats 1000000 in
theorem seals_calls (lo : Option Addr) (lc : Nat) (l : List Nat) (w : World) (hf : HasFours w) (hg : 0 < w.heap.size) (hl : HasB w (.slice lo l.length lc) l) (hb : Bts l) (hm : l.length ≤ 140737488351232) (hcn : lo = none → lc = 0) (hcap : l.length ≤ lc) :
    Calls Tryd.prog 6 #[.slice lo l.length lc] w fun e w' => e = .returned (.bool true) ∧ Below w.heap.size w w' := by
  have H0 : Hid (Held w lo lc l) := held_of hf hg hl
  have HA := awake17_calls w hf hg
  have HC : Hid ((lo = none → lc = 0) ∧ Bts l) := ⟨hcn, hb⟩
  clear hl hf hcn hb
  go_enter Tryd.func6, Tryd.ntmps6
  go_wp2_with (go_at_call 9; refine HA.mono ?_; rintro e w1 ⟨rfl, hb1⟩; have H1 : Hid (Below w.heap.size w w1) := hb1; clear hb1)
  refine (twin_above H0.out H1.out (by omega) HC.out.1).mono ?_
  rintro e w2 ⟨mo, mc, rfl, ho2, hb2⟩
  have H2 : Hid ((HasB w2 (.slice mo l.length mc) l ∧ (mo = none → mc = 0)) ∧ Below w.heap.size w w2) := ⟨⟨ho2.2.1, ho2.2.2.2⟩, hb2⟩
  clear ho2 hb2
  go_wp2_with fail
  refine (cSeal_fits mo mc l.length l rfl w2 (H0.out w2 H2.out.2).1 (H0.out w2 H2.out.2).2.1 H2.out.1.1 HC.out.2 (by omega) H2.out.1.2).mono ?_
  rintro e w3 ⟨so, sc, S, rfl, hS, hown3, hB3, hSl, hSb, hSf, hb3⟩
  have H3 : Hid ((HasB w3 (.slice so S.length sc) S ∧ l.length + 4 ≤ sc) ∧ Below w.heap.size w w3) := ⟨⟨hB3, (own_cap hown3).1⟩, H2.out.2.trans (hb3.mono H2.out.2.size)⟩
  have HS : Hid (S = sealOf l ∧ S.length = l.length + 4 ∧ Bts S ∧ fits S = true) := ⟨hS, hSl, hSb, hSf⟩
  clear hS hown3 hB3 hSl hSb hSf hb3
  go_wp2_with fail
  refine (kSeal_calls lo lc l w3 (H0.out w3 H3.out.2).2.2 HC.out.2 (by omega) HC.out.1).mono ?_
  rintro e w4 ⟨to, tc, rfl, hown4, hb4⟩
  have hB4 : HasB w4 (.slice to S.length tc) S := by
    have h := hown4
    rw [← HS.out.1, ← HS.out.2.1] at h
    exact hasB_own h
  have H4 : Hid ((HasB w4 (.slice so S.length sc) S ∧ HasB w4 (.slice to S.length tc) S) ∧ Below w.heap.size w w4) := ⟨⟨H3.out.1.1.keep hb4, hB4⟩, H3.out.2.trans (hb4.mono H3.out.2.size)⟩
  clear hown4 hb4 hB4
  have hSm := kSame_calls so to sc tc S w4 H4.out.1.1 H4.out.1.2
  rw [HS.out.2.1] at hSm
  go_wp2_with fail
  refine hSm.mono ?_
  rintro e w5 ⟨rfl, rfl⟩
  have hFi := cFits_calls so sc S w5 (H0.out w5 H4.out.2).1 (H0.out w5 H4.out.2).2.1 H4.out.1.1 HS.out.2.2.1 (by have := HS.out.2.1; omega) (by have := H3.out.1.2; have := HS.out.2.1; omega)
  rw [HS.out.2.1, HS.out.2.2.2] at hFi
  go_wp2_with fail
  refine hFi.mono ?_
  rintro e w6 ⟨rfl, hb6⟩
  have H6 : Hid (Below w.heap.size w w6) := H4.out.2.trans (hb6.mono H4.out.2.size)
  clear hb6 hSm hFi
  go_wp2_with fail
  refine (twin_above H0.out H6.out (by omega) HC.out.1).mono ?_
  rintro e w7 ⟨no, nc, rfl, ho7, hb7⟩
  have H7 : Hid ((HasB w7 (.slice no l.length nc) l ∧ l.length ≤ nc) ∧ Below w.heap.size w w7) := ⟨⟨ho7.2.1, ho7.2.2.1⟩, hb7⟩
  clear ho7 hb7
  go_wp2_with fail
  refine (cFits_calls no nc l w7 (H0.out w7 H7.out.2).1 (H0.out w7 H7.out.2).2.1 H7.out.1.1 HC.out.2 (by omega) H7.out.1.2).mono ?_
  rintro e w8 ⟨rfl, hb8⟩
  have H8 : Hid (Below w.heap.size w w8) := H7.out.2.trans (hb8.mono H7.out.2.size)
  clear hb8
  go_wp2_with fail
  refine (kFits_calls lo lc l w8 (H0.out w8 H8.out).2.2 HC.out.2 (by omega) hcap).mono ?_
  rintro e w9 ⟨rfl, hb9⟩
  have H9 : Hid (Below w.heap.size w w9) := H8.out.trans (hb9.mono H8.out.size)
  clear hb9
  generalize fits l = fl
  go_wp2_with fail
  go_ret
  exact ⟨by cases fl <;> rfl, H9.out⟩
end Go.Proofs.YtemdocnhdnhliaaDoor
