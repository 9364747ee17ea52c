/- the law WireMemory, walked, where both lists together are no longer than memory bears. -/
import Derived.Test.YtemdocnhdnhliacWrJ
namespace Go.Proofs.Ytemdocnhdnhliac
open Go.RowKit Go.Extern Cr

attribute [local go_sem] Oper.semAt_some

/-- what is written into, and what stays. -/
structure SW (R : Nat → Prop) (W wx : World) : Prop where
  os : wx.os = W.os
  tape : wx.tape = W.tape
  output : wx.output = W.output
  size : W.heap.size ≤ wx.heap.size
  block : ∀ k, k < W.heap.size → ¬ R k → wx.heap[k]? = W.heap[k]?
  shape : ∀ (k : Nat) (c : Array Value), W.heap[k]? = some (.cells c 5) → ∃ c', wx.heap[k]? = some (.cells c' 5) ∧ c'.size = c.size
theorem SW.refl (R : Nat → Prop) (W : World) : SW R W W := ⟨rfl, rfl, rfl, Nat.le_refl _, fun _ _ _ => rfl, fun _ c h => ⟨c, h, rfl⟩⟩
theorem SW.set {R : Nat → Prop} {W wx : World} (h : SW R W wx) {g : Nat} (hg : R g) (i : Nat) (v : Value) : SW R W (wx.setCell ⟨g, i, none⟩ v) := by
  refine ⟨h.os, h.tape, h.output, by simpa [World.setCell] using h.size, fun k hk hn => (Below.heap_setCell _ _ _ _ (show k ≠ g from fun e => hn (by rw [e]; exact hg))).trans (h.block k hk hn), fun k c hc => ?_⟩
  obtain ⟨c', h1, h2⟩ := h.shape k c hc
  by_cases e : k = g
  · subst e
    refine ⟨c'.setIfInBounds i v, ?_, by simpa using h2⟩
    simp only [World.setCell, Array.getElem?_modify]
    rw [if_pos trivial, h1]
    rfl
  · exact ⟨c', (Below.heap_setCell _ _ _ _ e).trans h1, h2⟩
/-- a row that may be written into. -/
def WR (R : Nat → Prop) (W : World) (g n : Nat) : Prop := R g ∧ ∃ c, W.heap[g]? = some (.cells c 5) ∧ n ≤ c.size
theorem wr_of {R : Nat → Prop} {W : World} {B n sc g : Nat} {xs : List Value} (h : W.ownsRow B 5 1 (.slice (some ⟨g, 0, none⟩) n sc) n xs) (hR : R g) : WR R W g n := by
  rcases h.2 with ⟨e, _⟩ | ⟨g', cap, cur, e, _, hh, hle, _, hsz, _⟩
  · cases e
  · injection e with e1 e2 e3
    injection e1 with e1
    injection e1 with e1
    subst e1
    exact ⟨hR, cur, hh, by omega⟩
theorem WR.at {R : Nat → Prop} {W wx : World} {g n i : Nat} (h : WR R W g n) (hs : SW R W wx) (hi : i < n) : ∃ v, wx.cell? ⟨g, i, none⟩ = some v ∧ wx.frozen? ⟨g, i, none⟩ = false ∧ g < wx.heap.size := by
  obtain ⟨_, c, hh, hl⟩ := h
  obtain ⟨c', h1, h2⟩ := hs.shape g c hh
  have hic : i < c'.size := by omega
  exact ⟨c'[i], by simp [World.cell?, h1, hic], by simp [World.frozen?, h1], b_lt_get h1⟩
/-- Put where it is right, told as rows. -/
theorem put77 {lo : Option Addr} {lc : Nat} {l : List Nat} {w : World} (hl : HasB w (.slice lo l.length lc) l) (hm : l.length ≤ 140737488351232) (hc : lo = none → lc = 0) :
    Calls Try.prog 5 #[.slice lo l.length lc, .int .u64 77, .int .i64 2] w fun e w' => ∃ g, e = .returned (.tuple #[.slice (some ⟨g, 0, none⟩) (l.length + 2) (l.length + 2), .nilIface]) ∧ w'.ownsRow w.heap.size 5 1 (.slice (some ⟨g, 0, none⟩) (l.length + 2) (l.length + 2)) (l.length + 2) (bv (l ++ leN 77 2)) ∧ w.heap.size ≤ g ∧ g < w'.heap.size ∧ Below w.heap.size w w' := by
  refine (put_calls lo lc l 77 (by omega) 2 w hl (by omega) hc).mono ?_
  rintro e w' (⟨_, _, _, g, he, hr⟩ | ⟨h, _⟩ | ⟨_, _, h, _⟩)
  · have hr' : Room w w' g (l.length + 2) (l ++ leN 77 2) := hr
    have ho := hr'.own
    rw [List.length_append, leN_len] at ho
    exact ⟨g, he, ho, hr'.base.1, hr'.base.2, hr'.below⟩
  · omega
  · exact absurd h (by decide)

set_option maxRecDepth 100000 in
set_option maxHeartbeats 2000000 in
theorem memory18_calls (lo ro : Option Addr) (lc rc : Nat) (l ws : List Nat) (w : World) (hl : HasB w (.slice lo l.length lc) l) (hr : HasW w (.slice ro ws.length rc) ws) (hb : Bts l) (hm : l.length ≤ 1048576) (hwm : ws.length ≤ 1048576) (hcn : lo = none → lc = 0) (hw : ∀ x ∈ ws, x < 4294967296) :
    Calls Try.prog 3 #[.slice lo l.length lc, .slice ro ws.length rc] w fun e w' => e = .returned (.bool true) ∧ Below w.heap.size w w' := by
  obtain ⟨i0, hi, hz0, hz1, hz2⟩ := infoB
  have hsz : (Try.prog.info? 5).map (·.size) = some 1 := by rw [hi]; simp [hz1]
  obtain ⟨LX, hLX, hmx⟩ := make_roomB l.length 8 (by omega)
  have hmx' : ∀ w : World, (Instr.makeSlice 22 (.int .i64 (l.length : Int)) (.int .i64 ((l.length : Int) + 8))).run Try.prog w = .ok (.slice (some ⟨w.heap.size, 0, none⟩) l.length (l.length + 8)) (w.alloc (.cells LX.toArray 5)) := hmx
  have HF : Hid (∀ wx, Below w.heap.size w wx → HasB wx (.slice lo l.length lc) l ∧ HasW wx (.slice ro ws.length rc) ws) := fun wx hx => ⟨hl.keep hx, hr.keep hx⟩
  have HC : Hid ((lo = none → lc = 0) ∧ Bts l ∧ ∀ x ∈ ws, x < 4294967296) := ⟨hcn, hb, hw⟩
  have HA := awake18_calls w
  have a1 : IntKind.i64.wrap ((l.length : Int) + 8) = (l.length : Int) + 8 := by rw [IntKind.wrap_i64] <;> omega
  clear hl hb hcn hmx hr hw
  go_enter Try.func3, Try.ntmps3
  go_wp2_with (first
    | (go_at_call 4; refine HA.mono ?_; rintro e w1 ⟨rfl, hb1⟩; have H1 : Hid (Below w.heap.size w w1) := hb1; have hs1 := hb1.size; clear hb1)
    | (refine wpList_copy_splice rfl _ _ 22 22 rfl 5 Try.underlying22 hsz (some ⟨w1.heap.size, 0, none⟩) lo l.length (l.length + 8) l.length lc rfl rfl w1.heap.size 0 LX 5 (by show (w1.heap.push _)[w1.heap.size]? = _; simp) (bv l) (by rw [bv_len1]; exact (Nat.min_self _).symm) (fun h0 => ⟨rfl, hasB_src ((Below.refl _ w1).alloc (Nat.le_refl _) _) (HF.out w1 H1.out).1 h0⟩) (by rw [bv_len1, hLX]; omega) (bv_one l) w.heap.size w (H1.out.alloc hs1 _) hs1 ?_; intro w2 hX hb2; have H2 : Hid (w2.heap[w1.heap.size]? = some (.cells (splice LX 0 (bv l)).toArray 5) ∧ Below w.heap.size w w2) := ⟨hX.out, hb2⟩; clear hX hb2)
    | (at_builtin; refine wpList_append_own_spare _ rfl _ _ 22 rfl w.heap.size 5 i0 1 Try.underlying22 hi hz1 w1.heap.size l.length (l.length + 8) (bv l) rfl (bown_alloc (bown_copied H2.out.1 hLX (by omega) hs1) _) ⟨w2.heap.size, 0, none⟩ 8 8 (bv [1, 2, 3, 4, 5, 6, 7, 8]) rfl rfl (hasB_cells (hasB_new' w2 [1, 2, 3, 4, 5, 6, 7, 8] 8 (0, 0))) (bv_one _) (Nat.le_refl _) ?_; intro w3 hX hgr; have H3 : Hid (w3.ownsRow w.heap.size 5 1 (.slice (some ⟨w1.heap.size, 0, none⟩) (l.length + 8) (l.length + 8)) (l.length + 8) (bv (l ++ [1, 2, 3, 4, 5, 6, 7, 8])) ∧ Below w.heap.size w w3) := ⟨by rw [bv_append]; exact hX, bbelow_g (H2.out.2.alloc H2.out.2.size _) hgr (fun k e => by cases e; exact hs1)⟩; clear hX hgr))
  generalize hXe : w1.heap.size = X at *
  have HXB : Hid (∀ wx : World, wx.ownsRow w.heap.size 5 1 (.slice (some ⟨X, 0, none⟩) (l.length + 8) (l.length + 8)) (l.length + 8) (bv (l ++ [1, 2, 3, 4, 5, 6, 7, 8])) → HasB wx (.slice (some ⟨X, 0, none⟩) l.length (l.length + 8)) l) := fun wx h => by
    have h1 := bown_cut h (m := l.length) (by omega)
    rw [List.take_left] at h1
    exact hasB_own h1
  have hXl : X < w3.heap.size := (H3.out.1.lt X rfl).2
  clear hmx' hLX hsz a1
  refine (put77 (HXB.out w3 H3.out.1) (by omega) (fun e => by cases e)).mono ?_
  rintro e w4 ⟨ga, rfl, hoa, hga, hgal, hb4⟩
  have H4 : Hid ((w4.ownsRow w.heap.size 5 1 (.slice (some ⟨X, 0, none⟩) (l.length + 8) (l.length + 8)) (l.length + 8) (bv (l ++ [1, 2, 3, 4, 5, 6, 7, 8])) ∧ w4.ownsRow w.heap.size 5 1 (.slice (some ⟨ga, 0, none⟩) (l.length + 2) (l.length + 2)) (l.length + 2) (bv (l ++ leN 77 2))) ∧ Below w.heap.size w w4) := ⟨⟨bown_below H3.out.1 hb4, bown_base hoa H3.out.2.size⟩, H3.out.2.trans (hb4.mono H3.out.2.size)⟩
  have hs4 := hb4.size
  clear hoa hb4 H3
  go_wp2_with fail
  refine (put77 (HXB.out w4 H4.out.1.1) (by omega) (fun e => by cases e)).mono ?_
  rintro e w5 ⟨gb, rfl, hob, hgb, hgbl, hb5⟩
  have H5 : Hid ((w5.ownsRow w.heap.size 5 1 (.slice (some ⟨X, 0, none⟩) (l.length + 8) (l.length + 8)) (l.length + 8) (bv (l ++ [1, 2, 3, 4, 5, 6, 7, 8])) ∧ w5.ownsRow w.heap.size 5 1 (.slice (some ⟨ga, 0, none⟩) (l.length + 2) (l.length + 2)) (l.length + 2) (bv (l ++ leN 77 2)) ∧ w5.ownsRow w.heap.size 5 1 (.slice (some ⟨gb, 0, none⟩) (l.length + 2) (l.length + 2)) (l.length + 2) (bv (l ++ leN 77 2))) ∧ Below w.heap.size w w5) := ⟨⟨bown_below H4.out.1.1 hb5, bown_below H4.out.1.2 hb5, bown_base hob H4.out.2.size⟩, H4.out.2.trans (hb5.mono H4.out.2.size)⟩
  have hs5 := hb5.size
  clear hob hb5 H4
  go_wp2_with fail
  refine (putWords_calls (some ⟨X, 0, none⟩) ro (l.length + 8) rc l ws w5 (HXB.out w5 H5.out.1.1) (HF.out w5 H5.out.2).2 (by omega) (by omega) (fun e => by cases e) HC.out.2.2).mono ?_
  rintro e w6 ⟨gc, rfl, hr6⟩
  have hlen : (l ++ bytesOf ws).length = l.length + 4 * ws.length := by rw [List.length_append, bytesOf_len]
  have hoc := hr6.own
  rw [hlen] at hoc
  have hgc := hr6.base
  have hb6 := hr6.below
  have H6 : Hid ((w6.ownsRow w.heap.size 5 1 (.slice (some ⟨X, 0, none⟩) (l.length + 8) (l.length + 8)) (l.length + 8) (bv (l ++ [1, 2, 3, 4, 5, 6, 7, 8])) ∧ w6.ownsRow w.heap.size 5 1 (.slice (some ⟨ga, 0, none⟩) (l.length + 2) (l.length + 2)) (l.length + 2) (bv (l ++ leN 77 2)) ∧ w6.ownsRow w.heap.size 5 1 (.slice (some ⟨gb, 0, none⟩) (l.length + 2) (l.length + 2)) (l.length + 2) (bv (l ++ leN 77 2)) ∧ w6.ownsRow w.heap.size 5 1 (.slice (some ⟨gc, 0, none⟩) (l.length + 4 * ws.length) (l.length + 4 * ws.length)) (l.length + 4 * ws.length) (bv (l ++ bytesOf ws))) ∧ Below w.heap.size w w6) := ⟨⟨bown_below H5.out.1.1 hb6, bown_below H5.out.1.2.1 hb6, bown_below H5.out.1.2.2 hb6, bown_base hoc H5.out.2.size⟩, H5.out.2.trans (hb6.mono H5.out.2.size)⟩
  have hs6 := hb6.size
  clear hoc hb6 hr6 H5
  go_wp2_with fail
  refine (putWords_calls (some ⟨X, 0, none⟩) ro (l.length + 8) rc l ws w6 (HXB.out w6 H6.out.1.1) (HF.out w6 H6.out.2).2 (by omega) (by omega) (fun e => by cases e) HC.out.2.2).mono ?_
  rintro e w7 ⟨gd, rfl, hr7⟩
  have hod := hr7.own
  rw [hlen] at hod
  have hgd := hr7.base
  have hb7 := hr7.below
  have H7 : Hid ((w7.ownsRow w.heap.size 5 1 (.slice (some ⟨X, 0, none⟩) (l.length + 8) (l.length + 8)) (l.length + 8) (bv (l ++ [1, 2, 3, 4, 5, 6, 7, 8])) ∧ w7.ownsRow w.heap.size 5 1 (.slice (some ⟨ga, 0, none⟩) (l.length + 2) (l.length + 2)) (l.length + 2) (bv (l ++ leN 77 2)) ∧ w7.ownsRow w.heap.size 5 1 (.slice (some ⟨gb, 0, none⟩) (l.length + 2) (l.length + 2)) (l.length + 2) (bv (l ++ leN 77 2)) ∧ w7.ownsRow w.heap.size 5 1 (.slice (some ⟨gc, 0, none⟩) (l.length + 4 * ws.length) (l.length + 4 * ws.length)) (l.length + 4 * ws.length) (bv (l ++ bytesOf ws)) ∧ w7.ownsRow w.heap.size 5 1 (.slice (some ⟨gd, 0, none⟩) (l.length + 4 * ws.length) (l.length + 4 * ws.length)) (l.length + 4 * ws.length) (bv (l ++ bytesOf ws))) ∧ Below w.heap.size w w7) := ⟨⟨bown_below H6.out.1.1 hb7, bown_below H6.out.1.2.1 hb7, bown_below H6.out.1.2.2.1 hb7, bown_below H6.out.1.2.2.2 hb7, bown_base hod H6.out.2.size⟩, H6.out.2.trans (hb7.mono H6.out.2.size)⟩
  clear hod hb7 hr7 H6 hlen
  have hs1' : ∀ wx, (Instr.slice 22 (.slice (some ⟨X, 0, none⟩) (l.length + 8) (l.length + 8)) none (some (.int .i64 (l.length : Int))) none).run Try.prog wx = .ok (.slice (some ⟨X, 0, none⟩) l.length (l.length + 8)) wx := fun wx => slice_upB X 0 (l.length + 8) (l.length + 8) l.length (by omega) (by omega) wx
  have hs2' : ∀ wx, (Instr.slice 22 (.slice (some ⟨X, 0, none⟩) (l.length + 8) (l.length + 8)) (some (.int .i64 (l.length : Int))) none none).run Try.prog wx = .ok (.slice (some ⟨X, l.length, none⟩) 8 8) wx := fun wx => by
    have h := slice_fromB X (l.length + 8) (l.length + 8) l.length (by omega) (by omega) wx
    rw [show l.length + 8 - l.length = 8 by omega] at h
    exact h
  go_wp2_with fail
  refine (kSame_calls (some ⟨X, 0, none⟩) lo (l.length + 8) lc l w7 (HXB.out w7 H7.out.1.1) (HF.out w7 H7.out.2).1).mono ?_
  rintro e w8 ⟨rfl, rfl⟩
  go_wp2_with fail
  have hE : HasB (w8.alloc (.cells #[.int .u8 1, .int .u8 2, .int .u8 3, .int .u8 4, .int .u8 5, .int .u8 6, .int .u8 7, .int .u8 8] 5)) (.slice (some ⟨X, l.length, none⟩) 8 8) [1, 2, 3, 4, 5, 6, 7, 8] := by
    have h := hasB_end (m := l.length) (bown_alloc H7.out.1.1 (.cells #[.int .u8 1, .int .u8 2, .int .u8 3, .int .u8 4, .int .u8 5, .int .u8 6, .int .u8 7, .int .u8 8] 5)) 8
    rw [List.drop_left] at h
    exact h
  refine (kSame_calls (some ⟨X, l.length, none⟩) (some ⟨w8.heap.size, 0, none⟩) 8 8 [1, 2, 3, 4, 5, 6, 7, 8] _ hE (hasB_new' w8 [1, 2, 3, 4, 5, 6, 7, 8] 8 (0, 0))).mono ?_
  rintro e w9 ⟨rfl, hw9⟩
  have hb9 : Below w8.heap.size w8 w9 := by rw [hw9]; exact (Below.refl _ w8).alloc (Nat.le_refl _) _
  clear hw9 hE hs1' hs2'
  go_wp2_with fail
  have hN : (w9.alloc (.cells #[.slice (some ⟨X, 0, none⟩) (l.length + 8) (l.length + 8), .slice (some ⟨ga, 0, none⟩) (l.length + 2) (l.length + 2), .slice (some ⟨gc, 0, none⟩) (l.length + 4 * ws.length) (l.length + 4 * ws.length)] 22)).heap[w9.heap.size]? = some (.cells #[.slice (some ⟨X, 0, none⟩) (l.length + 8) (l.length + 8), .slice (some ⟨ga, 0, none⟩) (l.length + 2) (l.length + 2), .slice (some ⟨gc, 0, none⟩) (l.length + 4 * ws.length) (l.length + 4 * ws.length)] 22) := by show (w9.heap.push _)[w9.heap.size]? = _; simp
  have hb : Below w8.heap.size w8 (w9.alloc (.cells #[.slice (some ⟨X, 0, none⟩) (l.length + 8) (l.length + 8), .slice (some ⟨ga, 0, none⟩) (l.length + 2) (l.length + 2), .slice (some ⟨gc, 0, none⟩) (l.length + 4 * ws.length) (l.length + 4 * ws.length)] 22)) := hb9.alloc hb9.size _
  have hs9 := hb9.size
  generalize w9.alloc (.cells #[.slice (some ⟨X, 0, none⟩) (l.length + 8) (l.length + 8), .slice (some ⟨ga, 0, none⟩) (l.length + 2) (l.length + 2), .slice (some ⟨gc, 0, none⟩) (l.length + 4 * ws.length) (l.length + 4 * ws.length)] 22) = W at *
  have H9 : Hid ((W.ownsRow w.heap.size 5 1 (.slice (some ⟨X, 0, none⟩) (l.length + 8) (l.length + 8)) (l.length + 8) (bv (l ++ [1, 2, 3, 4, 5, 6, 7, 8])) ∧ W.ownsRow w.heap.size 5 1 (.slice (some ⟨ga, 0, none⟩) (l.length + 2) (l.length + 2)) (l.length + 2) (bv (l ++ leN 77 2)) ∧ W.ownsRow w.heap.size 5 1 (.slice (some ⟨gb, 0, none⟩) (l.length + 2) (l.length + 2)) (l.length + 2) (bv (l ++ leN 77 2)) ∧ W.ownsRow w.heap.size 5 1 (.slice (some ⟨gc, 0, none⟩) (l.length + 4 * ws.length) (l.length + 4 * ws.length)) (l.length + 4 * ws.length) (bv (l ++ bytesOf ws)) ∧ W.ownsRow w.heap.size 5 1 (.slice (some ⟨gd, 0, none⟩) (l.length + 4 * ws.length) (l.length + 4 * ws.length)) (l.length + 4 * ws.length) (bv (l ++ bytesOf ws))) ∧ Below w.heap.size w W) := ⟨⟨bown_below H7.out.1.1 hb, bown_below H7.out.1.2.1 hb, bown_below H7.out.1.2.2.1 hb, bown_below H7.out.1.2.2.2.1 hb, bown_below H7.out.1.2.2.2.2 hb⟩, H7.out.2.trans (hb.mono H7.out.2.size)⟩
  have b1 := (H9.out.1.1.lt X rfl).1
  have b2 := (H9.out.1.2.1.lt ga rfl).1
  have b3 := (H9.out.1.2.2.2.1.lt gc rfl).1
  obtain ⟨Q, hQ⟩ : ∃ Q : Nat → Prop, Q = fun k => k = X ∨ k = ga ∨ k = gc := ⟨_, rfl⟩
  have HQ : Hid (∀ k, Q k ↔ (k = X ∨ k = ga ∨ k = gc)) := fun k => by rw [hQ]
  have HWR : Hid (∀ k, k < 3 → ∃ g nl, (#[.slice (some ⟨X, 0, none⟩) (l.length + 8) (l.length + 8), .slice (some ⟨ga, 0, none⟩) (l.length + 2) (l.length + 2), .slice (some ⟨gc, 0, none⟩) (l.length + 4 * ws.length) (l.length + 4 * ws.length)] : Array Value)[k]? = some (.slice (some ⟨g, 0, none⟩) nl nl) ∧ nl ≤ 9223372036854775807 ∧ WR Q W g nl) := fun k hk => by
    rcases k with _ | _ | _ | k
    · exact ⟨_, _, rfl, by omega, wr_of H9.out.1.1 ((HQ.out X).2 (Or.inl rfl))⟩
    · exact ⟨_, _, rfl, by omega, wr_of H9.out.1.2.1 ((HQ.out ga).2 (Or.inr (Or.inl rfl)))⟩
    · exact ⟨_, _, rfl, by omega, wr_of H9.out.1.2.2.2.1 ((HQ.out gc).2 (Or.inr (Or.inr rfl)))⟩
    · omega
  have HT : Hid (∀ wx, SW Q W wx → wx.heap[w9.heap.size]? = some (.cells #[.slice (some ⟨X, 0, none⟩) (l.length + 8) (l.length + 8), .slice (some ⟨ga, 0, none⟩) (l.length + 2) (l.length + 2), .slice (some ⟨gc, 0, none⟩) (l.length + 4 * ws.length) (l.length + 4 * ws.length)] 22) ∧ w9.heap.size < wx.heap.size) := fun wx hx => by
    have hq : ¬ Q w9.heap.size := fun h => by
      rcases (HQ.out _).1 h with h | h | h <;> omega
    have h := (hx.block _ (b_lt_get hN) hq).trans hN
    exact ⟨h, b_lt_get h⟩
  have HSV : Hid (∀ wx, SW Q W wx → HasB wx (.slice (some ⟨gb, 0, none⟩) (l ++ leN 77 2).length (l.length + 2)) (l ++ leN 77 2) ∧ HasB wx (.slice (some ⟨gd, 0, none⟩) (l ++ bytesOf ws).length (l.length + 4 * ws.length)) (l ++ bytesOf ws) ∧ Below w.heap.size w wx) := fun wx hx => by
    have st : ∀ {g n c : Nat} {xs : List Nat}, xs.length = n → W.ownsRow w.heap.size 5 1 (.slice (some ⟨g, 0, none⟩) n c) n (bv xs) → ¬ Q g → HasB wx (.slice (some ⟨g, 0, none⟩) xs.length c) xs := fun {g n c xs} hn h hq => by
      subst hn
      exact hasB_own (bown_keep h fun k hk => by
        obtain rfl : k = g := (Option.some.inj hk).symm
        exact hx.block k (h.lt k rfl).2 hq)
    refine ⟨st (by rw [List.length_append, leN_len]) H9.out.1.2.2.1 (fun h => ?_), st (by rw [List.length_append, bytesOf_len]) H9.out.1.2.2.2.2 (fun h => ?_), ?_⟩
    · rcases (HQ.out _).1 h with h | h | h <;> omega
    · rcases (HQ.out _).1 h with h | h | h <;> omega
    · have hbW := H9.out.2
      refine ⟨hx.os.trans hbW.os, hx.tape.trans hbW.tape, hx.output.trans hbW.output, Nat.le_trans hbW.size hx.size, fun k hk => (hx.block k (Nat.lt_of_lt_of_le hk hbW.size) fun e => ?_).trans (hbW.block k hk)⟩
      rcases (HQ.out _).1 e with h | h | h <;> omega
  clear hN hb hQ hb9 H7 hXl hga hgal hgb hgbl hgc hgd hs4 hs5 hs6 hs9 b1 b2 b3
  generalize w9.heap.size = sb at *
  go_loopw [67] (fun iv wr => ∃ k : Nat, k ≤ 3 ∧ iv = .int .i64 k ∧ SW Q W wr) (fun iv _ => 3 - (intOf iv).toNat)
  case atStart => exact ⟨0, by omega, rfl, SW.refl _ _⟩
  case round =>
    obtain ⟨k, hk, rfl, hS⟩ := hrel
    by_cases hlt : k < 3
    · obtain ⟨g, nl, hc, hnl, hW⟩ := HWR.out k hlt
      obtain ⟨cs, cl⟩ := HT.out wr hS
      have ck : wr.cell? ⟨sb, k, none⟩ = some (.slice (some ⟨g, 0, none⟩) nl nl) := by rw [← hc]; simp [World.cell?, cs]
      have b0 : (0 : Int) ≤ (k : Int) := by omega
      have b1 : (k : Int) < 3 := by omega
      have HWW : Hid (WR Q W g nl) := hW
      have HS : Hid (SW Q W wr) := hS
      clear hS hc cs hW
      go_wp2_with fail
      go_loopw [73] (fun iv wx => ∃ i : Nat, i ≤ nl ∧ iv = .int .i64 i ∧ SW Q W wx) (fun iv _ => nl - (intOf iv).toNat)
      case atStart => exact ⟨0, by omega, rfl, HS.out⟩
      case round =>
        obtain ⟨i, hi1, rfl, hs⟩ := hrel
        have HS1 : Hid (SW Q W wr) := hs
        by_cases hil : i < nl
        · obtain ⟨v, c0, c1, c2⟩ := HWW.out.at hs hil
          have d0 : (0 : Int) ≤ (i : Int) := by omega
          have d1 : (i : Int) < (nl : Int) := by omega
          clear hs
          go_wp2
          go_roundw
          case rel => exact ⟨i + 1, by omega, by go_num, HS1.out.set HWW.out.1 _ _⟩
          case measure => simp [intOf]; omega
        · clear hs
          go_wp2
          exact ⟨⟨k + 1, by omega, by go_num, HS1.out⟩, by simp [intOf]; omega⟩
    · obtain rfl : k = 3 := by omega
      obtain ⟨v1, v2, v3⟩ := HSV.out wr hS
      have HV : Hid ((HasB wr (.slice (some ⟨gb, 0, none⟩) (l ++ leN 77 2).length (l.length + 2)) (l ++ leN 77 2) ∧ HasB wr (.slice (some ⟨gd, 0, none⟩) (l ++ bytesOf ws).length (l.length + 4 * ws.length)) (l ++ bytesOf ws)) ∧ Below w.heap.size w wr) := ⟨⟨v1, v2⟩, v3⟩
      clear v1 v2 v3 hS
      have l1 : (l ++ leN 77 2).length = l.length + 2 := by rw [List.length_append, leN_len]
      have l2 : (l ++ bytesOf ws).length = l.length + 4 * ws.length := by rw [List.length_append, bytesOf_len]
      have HLN : Hid ((l ++ leN 77 2).length = l.length + 2 ∧ (l ++ bytesOf ws).length = l.length + 4 * ws.length) := ⟨l1, l2⟩
      clear l1 l2
      go_wp2_with fail
      refine (vPut_calls lo lc l 77 2 (by omega) wr (HF.out wr HV.out.2).1 (by omega) HC.out.1 (by omega)).mono ?_
      rintro e w20 ⟨mo, mc, rfl, ho, hb⟩
      have hB1 : HasB w20 (.slice mo (l ++ leN 77 2).length mc) (l ++ leN 77 2) := by rw [← HLN.out.1] at ho; exact hasB_own ho
      have HV2 : Hid ((HasB w20 (.slice (some ⟨gb, 0, none⟩) (l ++ leN 77 2).length (l.length + 2)) (l ++ leN 77 2) ∧ HasB w20 (.slice (some ⟨gd, 0, none⟩) (l ++ bytesOf ws).length (l.length + 4 * ws.length)) (l ++ bytesOf ws) ∧ HasB w20 (.slice mo (l ++ leN 77 2).length mc) (l ++ leN 77 2)) ∧ Below w.heap.size w w20) := ⟨⟨HV.out.1.1.keep hb, HV.out.1.2.keep hb, hB1⟩, HV.out.2.trans (hb.mono HV.out.2.size)⟩
      clear ho hb hB1 HV
      have hS1 := kSame_calls (some ⟨gb, 0, none⟩) mo (l.length + 2) mc (l ++ leN 77 2) w20 HV2.out.1.1 HV2.out.1.2.2
      rw [HLN.out.1] at hS1
      go_wp2_with fail
      refine hS1.mono ?_
      rintro e w21 ⟨rfl, rfl⟩
      clear hS1
      go_wp2_with fail
      refine (vPutWords_calls lo ro lc rc l ws w21 (HF.out w21 HV2.out.2).1 (HF.out w21 HV2.out.2).2 (by omega) HC.out.1 HC.out.2.2).mono ?_
      rintro e w22 ⟨no, nc, rfl, ho, hb⟩
      have hB1 : HasB w22 (.slice no (l ++ bytesOf ws).length nc) (l ++ bytesOf ws) := by rw [← HLN.out.2] at ho; exact hasB_own ho
      have HV3 : Hid ((HasB w22 (.slice (some ⟨gd, 0, none⟩) (l ++ bytesOf ws).length (l.length + 4 * ws.length)) (l ++ bytesOf ws) ∧ HasB w22 (.slice no (l ++ bytesOf ws).length nc) (l ++ bytesOf ws)) ∧ Below w.heap.size w w22) := ⟨⟨HV2.out.1.2.1.keep hb, hB1⟩, HV2.out.2.trans (hb.mono HV2.out.2.size)⟩
      clear ho hb hB1 HV2
      have hS1 := kSame_calls (some ⟨gd, 0, none⟩) no (l.length + 4 * ws.length) nc (l ++ bytesOf ws) w22 HV3.out.1.1 HV3.out.1.2
      rw [HLN.out.2] at hS1
      go_wp2_with fail
      refine hS1.mono ?_
      rintro e w23 ⟨rfl, rfl⟩
      clear hS1
      go_wp2_with fail
      go_ret
      exact ⟨rfl, HV3.out.2⟩
end Go.Proofs.Ytemdocnhdnhliac
