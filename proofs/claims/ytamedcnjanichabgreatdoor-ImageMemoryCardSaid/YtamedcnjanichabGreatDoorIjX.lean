/- image's reader where it gives up. (Printed by geniip.py.) viaductref18's Take where there are bytes enough. (Printed by geniiq.py.) what was thrown is caught: image's reason and the closure that Decode defers. (Printed by geniis.py.) image's reader.sign where it gives up, and where it does not. (Printed by geniiu.py.) image's reader.count and end where they give up. (Printed by geniiv.py.) the error of bytes by their frame; image's hierOf where it gives up. (Printed by geniiw.py.) image's Decode where the reading gives up. (Printed by geniiz.py.) the hierarchy that bytes hold; bytes without an error of their frame are its image. image's Decode where the hierarchy read is not in form. what Decode answers, told in one. viaductref19's at, words and read where there are bytes enough. viaductref19's frame. (Printed by genijd.py.) viaductref19's DocDecode where the frame is refused. (Printed by genije.py.) viaductref19's DocDecode where the frame is right. (Printed by genijf.py.) what Decode and DocDecode answer, told in one; the law ImageDecodes. (Printed by genijg.py.) -/
import Derived.Test.YtamedcnjanichabGreatDoorIiY
import Derived.WalkLawsBesides
import Derived.Test.YtamedcnjanichabGreatDoorErrF
import Derived.Test.YtamedcnjanichabGreatDoorErrI
import Derived.Deep.QuietTactic
import Derived.BigQuiet
import Derived.Test.YtamedcnjanichabGreatDoorDocCheck
import Derived.Deep.RegionHeld3
namespace Go.Proofs.YtamedcnjanichabGreatDoor
open Go.RowKit Go.Extern Cr

attribute [local go_sem] Oper.semAt_some

/-- an error that was thrown. -/
def Thrown (w : World) (E : Int × List (Int × Int)) (e : Ending) : Prop := ∃ T x, e = .panicked [{ v := .iface T x, recovered := false }] ∧ IsTold w E (.iface T x)
theorem giveUp_calls (i c : Int) (hc : c ≠ 0) (w : World) : Calls Tryz.prog 69 #[.int .i64 i, .int .i64 c] w fun e w' => Thrown w' (c, [(2, i)]) e ∧ Below w.heap.size w w' := by
  have HA : Hid (Calls Tryz.prog 72 #[.int .i64 2, .int .i64 i, .iface 76 (.int .i64 c)] w fun e w' => ∃ T x, e = .returned (.iface T x) ∧ IsTold w' (c, [(2, i)]) (.iface T x) ∧ Below w.heap.size w w') := by
    refine (at_some 2 i 76 (.int .i64 c) w).mono ?_
    rintro e w' ⟨rfl, rfl⟩
    exact ⟨_, _, rfl, Or.inr ⟨hc, _, _, rfl, heap_new _ _, rfl⟩, (Below.refl _ _).alloc (Nat.le_refl _) _⟩
  go_enter Tryz.func69, Tryz.ntmps69
  go_wp2_with (go_at_call 72; refine HA.out.mono ?_; rintro e w1 ⟨T, x, rfl, ht, hb⟩; have Y : Hid (IsTold w1 (c, [(2, i)]) (.iface T x) ∧ Below w.heap.size w w1) := ⟨ht, hb⟩; clear ht hb)
  exact ⟨rfl, ⟨T, x, rfl, Y.out.1⟩, Y.out.2⟩
theorem reach_bad (rb : Nat) (lo : Option Addr) (lc n : Nat) (m a : Int) (w : World) (hr : w.heap[rb]? = some (.cells #[.slice lo n lc, .int .i64 a] 79 (0, 0))) (hn : (n : Int) < m) :
    Calls Tryz.prog 37 #[.pointer (some ⟨rb, 0, none⟩), .int .i64 m] w fun e w' => Thrown w' (10, [(2, (n : Int))]) e ∧ Below w.heap.size w w' := by
  obtain ⟨c0, c1, _, _⟩ := cell2I hr
  have l1 := w_lt_get hr
  have HG : Hid (Calls Tryz.prog 69 #[.int .i64 (n : Int), .int .i64 10] w fun e w' => Thrown w' (10, [(2, (n : Int))]) e ∧ Below w.heap.size w w') := giveUp_calls n 10 (by decide) w
  clear hr
  go_enter Tryz.func37, Tryz.ntmps37
  go_wp2_with (go_at_call 69; refine HG.out.mono ?_; rintro e w1 ⟨⟨T, x, rfl, ht⟩, hb⟩; have Y : Hid (IsTold w1 (10, [(2, (n : Int))]) (.iface T x) ∧ Below w.heap.size w w1) := ⟨ht, hb⟩; clear ht hb)
  exact ⟨rfl, ⟨T, x, rfl, Y.out.1⟩, Y.out.2⟩
end Go.Proofs.YtamedcnjanichabGreatDoor

namespace Go.Proofs.YtamedcnjanichabGreatDoor
open Go.RowKit Go.Extern Cr

attribute [local go_sem] Oper.semAt_some

theorem piece_consI {l : List Nat} {i n x : Nat} (h : l[i]? = some x) : piece l i (n + 1) = x :: piece l (i + 1) n := by
  obtain ⟨hi, hx⟩ := List.getElem?_eq_some_iff.1 h
  unfold piece
  rw [List.drop_eq_getElem_cons hi, hx, List.take_succ_cons]
theorem num_consI (x : Nat) (l : List Nat) : num (x :: l) = x + 256 * num l := by
  first | rfl | (simp only [num]; omega) | (simp [num]; omega)

set_option maxRecDepth 100000 in
set_option maxHeartbeats 2000000 in
theorem vTake_calls (lo : Option Addr) (lc : Nat) (l : List Nat) (a k : Nat) (w : World) (hl : HasB w (.slice lo l.length lc) l) (hb : Bts l) (hm : l.length ≤ 1073741824) (hk : k ≤ 8) (hak : a + k ≤ l.length) :
    Calls Tryz.prog 53 #[.slice lo l.length lc, .int .i64 (a : Int), .int .i64 (k : Int)] w fun e w' => e = .returned (.int .u64 ((num (piece l a k) : Nat) : Int)) ∧ Below w.heap.size w w' := by
  have HL : Hid (HasB w (.slice lo l.length lc) l ∧ Bts l) := ⟨hl, hb⟩
  clear hl hb
  have hwk : IntKind.i64.wrap ((k : Int) - 1) = (k : Int) - 1 := by rw [IntKind.wrap_i64]; omega
  go_enter Tryz.func53, Tryz.ntmps53
  go_wp2_with fail
  go_loopw [7, 8] (fun vv iv wr => ∃ j : Nat, j ≤ k ∧ iv = .int .i64 ((j : Int) - 1) ∧ vv = .int .u64 ((num (piece l (a + j) (k - j)) : Nat) : Int) ∧ Below w.heap.size w wr) (fun _ iv _ => (intOf iv + 1).toNat)
  case atStart => exact ⟨k, Nat.le_refl _, rfl, by rw [Nat.sub_self]; simp [piece, num], Below.refl _ _⟩
  case round =>
    obtain ⟨j, hj, rfl, rfl, hB⟩ := hrel
    have HB : Hid (Below w.heap.size w wr) := hB
    cases j with
    | zero =>
      clear hB
      go_wp2_with fail
      go_ret
      exact ⟨rfl, HB.out⟩
    | succ j =>
      rw [show ((j + 1 : Nat) : Int) - 1 = (j : Int) by omega]
      obtain ⟨x, hx⟩ : ∃ x, l[a + j]? = some x := ⟨l[a + j]'(by omega), List.getElem?_eq_getElem (by omega)⟩
      obtain ⟨b, off, rfl, bl, p0⟩ := (HL.out.1.keep hB).at hx
      have hx8 := HL.out.2 x (List.mem_of_getElem? hx)
      have hn : num (piece l (a + j) (k - j)) = x + 256 * num (piece l (a + (j + 1)) (k - (j + 1))) := by
        rw [show k - j = (k - (j + 1)) + 1 by omega, piece_consI hx, num_consI]
        rfl
      have hV : num (piece l (a + (j + 1)) (k - (j + 1))) < 72057594037927936 := by
        have h1 := num_lt (piece_bts HL.out.2 (a + (j + 1)) (k - (j + 1)))
        have h2 : (piece l (a + (j + 1)) (k - (j + 1))).length ≤ 7 := by unfold piece; rw [List.length_take]; omega
        have h3 : 2 ^ (8 * (piece l (a + (j + 1)) (k - (j + 1))).length) ≤ 2 ^ 56 := Nat.pow_le_pow_right (by omega) (by omega)
        have e : (2 : Nat) ^ 56 = 72057594037927936 := by decide
        omega
      have HN : Hid (num (piece l (a + j) (k - j)) = x + 256 * num (piece l (a + (j + 1)) (k - (j + 1)))) := hn
      clear hn hB hx
      generalize num (piece l (a + (j + 1)) (k - (j + 1))) = V at *
      have w1 : IntKind.i64.wrap ((a : Int) + (j : Int)) = (a : Int) + (j : Int) := by rw [IntKind.wrap_i64]; omega
      have w2 : IntKind.u64.wrap ((V : Int) * 256) = (V : Int) * 256 := by rw [IntKind.wrap_u64]; omega
      have w3 : IntKind.u64.wrap (x : Int) = (x : Int) := by rw [IntKind.wrap_u64]; omega
      have w4 : IntKind.u64.wrap ((V : Int) * 256 + (x : Int)) = (V : Int) * 256 + (x : Int) := by rw [IntKind.wrap_u64]; omega
      have w5 : IntKind.i64.wrap ((j : Int) - 1) = (j : Int) - 1 := by rw [IntKind.wrap_i64]; omega
      have i1 : (a : Int) + (j : Int) < (l.length : Int) := by omega
      have i2 : (0 : Int) ≤ (a : Int) + (j : Int) := by omega
      have i3 : (0 : Int) ≤ (j : Int) := by omega
      have p1 : wr.cell? ⟨b, off + ((a : Int) + (j : Int)).toNat, none⟩ = some (.int .u8 (x : Int)) := by rw [show ((a : Int) + (j : Int)).toNat = a + j by omega]; exact p0
      go_wp2_with fail
      go_roundw
      case rel => exact ⟨j, by omega, by go_num, by rw [HN.out]; congr 1; omega, HB.out⟩
      case measure => simp [intOf]
theorem wordsOf_lenI (l : List Nat) (a c : Nat) : (wordsOf l a c).length = c := by unfold wordsOf; simp
theorem wordsOf_take (l : List Nat) (a k : Nat) : wordsOf l a (k + 1) = wordsOf l a k ++ [num (piece l (a + 4 * k) 4)] := by
  unfold wordsOf
  rw [List.range_succ, List.map_append]
  rfl
set_option maxRecDepth 100000 in
set_option maxHeartbeats 2000000 in
theorem docWords_good (lo : Option Addr) (lc : Nat) (l : List Nat) (a c : Nat) (w : World) (hl : HasB w (.slice lo l.length lc) l) (hb : Bts l) (hm : l.length ≤ 1073741824) (hak : a + 4 * c ≤ l.length) :
    Calls Tryz.prog 56 #[.slice lo l.length lc, .int .i64 (a : Int), .int .i64 (c : Int)] w fun e w' => ∃ mo mc, e = .returned (.tuple #[.slice mo c mc, .agg #[.int .i64 0, .slice none 0 0]]) ∧ w'.ownsRow (w.heap.size + 1) 39 1 (.slice mo c mc) c (wv (wordsOf l a c)) ∧ Below w.heap.size w w' := by
  obtain ⟨W0, hW0⟩ : ∃ W0, w.alloc (.cells #[.int .i64 0, .slice none 0 0] 46) = W0 := ⟨_, rfl⟩
  have HW0 : Hid (w.alloc (.cells #[.int .i64 0, .slice none 0 0] 46) = W0 ∧ W0.heap.size = w.heap.size + 1) := ⟨hW0, by rw [← hW0]; simp⟩
  have hB0 : Below w.heap.size w W0 := by rw [← hW0]; exact (Below.refl _ _).alloc (Nat.le_refl _) _
  have hbx : W0.heap[w.heap.size]? = some (.cells #[.int .i64 0, .slice none 0 0] 46) := by rw [← hW0]; exact heap_new _ _
  have HX : Hid (∀ wx, Below W0.heap.size W0 wx → wx.heap[w.heap.size]? = some (.cells #[.int .i64 0, .slice none 0 0] 46) ∧ Below w.heap.size w wx) := fun wx hx => ⟨(hx.block _ (w_lt_get hbx)).trans hbx, hB0.trans (hx.mono hB0.size)⟩
  have HT : Hid (∀ wx k, k < c → Below W0.heap.size W0 wx → Calls Tryz.prog 53 #[.slice lo l.length lc, .int .i64 ((a : Int) + 4 * (k : Int)), .int .i64 4] wx fun e w' => e = .returned (.int .u64 ((num (piece l (a + 4 * k) 4) : Nat) : Int)) ∧ Below wx.heap.size wx w') := fun wx k hk hx => by
    have q := vTake_calls lo lc l (a + 4 * k) 4 wx (hl.keep (HX.out wx hx).2) hb hm (by omega) (by omega)
    rw [show ((a + 4 * k : Nat) : Int) = (a : Int) + 4 * (k : Int) by omega] at q
    exact q
  have HN : Hid (∀ k, k < c → num (piece l (a + 4 * k) 4) < 4294967296) := fun k hk => num_4 (piece_bts hb (a + 4 * k) 4) (piece_len (by omega))
  obtain ⟨st, hst⟩ : ∃ st : Int, (l.length : Int) - (a : Int) = st := ⟨_, rfl⟩
  have w0 : IntKind.i64.wrap ((l.length : Int) - (a : Int)) = st := by rw [IntKind.wrap_i64] <;> omega
  have i0 : ¬ (st / 4 < (c : Int)) := by omega
  have i9 : ¬ ((a : Int) > (l.length : Int)) := by omega
  have i8 : 0 ≤ st ∧ st ≤ 1073741824 := by omega
  obtain ⟨i8a, i8b⟩ := i8
  have hc1 : c ≤ 1073741824 ∧ a ≤ 1073741824 := by omega
  obtain ⟨hc1, ha1⟩ := hc1
  clear hW0 hB0 hbx hl hb hak
  go_enter Tryz.func56, Tryz.ntmps56
  go_upto_region 1 with fail
  rw [HW0.out.1]
  go_wp2_with fail
  go_loopw [8, 9] (fun mv iv wr => ∃ (k : Nat) (qo : Option Addr) (qc : Nat), k ≤ c ∧ iv = .int .i64 (k : Nat) ∧ mv = .slice qo k qc ∧ wr.ownsRow W0.heap.size 39 1 (.slice qo k qc) k (wv (wordsOf l a k)) ∧ Below W0.heap.size W0 wr) (fun _ iv _ => c - (intOf iv).toNat)
  case atStart => exact ⟨0, none, 0, Nat.zero_le _, rfl, rfl, World.ownsRow_nil _ _ _ _, Below.refl _ _⟩
  case round =>
    obtain ⟨k, qo, qc, hk, rfl, rfl, hO, hB⟩ := hrel
    have HO : Hid (wr.ownsRow W0.heap.size 39 1 (.slice qo k qc) k (wv (wordsOf l a k)) ∧ Below W0.heap.size W0 wr) := ⟨hO, hB⟩
    clear hO hB
    by_cases hlt : k < c
    · have i1 : (k : Int) < (c : Int) := by omega
      have w1 : IntKind.i64.wrap ((a : Int) + 4 * (k : Int)) = (a : Int) + 4 * (k : Int) := by rw [IntKind.wrap_i64]; omega
      go_wp2_with fail
      refine (HT.out wr k hlt HO.out.2).mono ?_
      rintro e y ⟨rfl, hb⟩
      have hX := HN.out k hlt
      have HTK : Hid (wordsOf l a (k + 1) = wordsOf l a k ++ [num (piece l (a + 4 * k) 4)]) := wordsOf_take l a k
      generalize num (piece l (a + 4 * k) 4) = X at *
      have w2 : IntKind.u32.wrap (X : Int) = (X : Int) := by rw [IntKind.wrap_u32]; omega
      have YO : Hid (y.ownsRow W0.heap.size 39 1 (.slice qo k qc) k (wv (wordsOf l a k)) ∧ Below W0.heap.size W0 y) := ⟨wown_below HO.out.1 hb, btrI HO.out.2 hb⟩
      have HOA : Hid ((y.alloc (.cells #[.int .u32 (X : Int)] 39)).ownsRow W0.heap.size 39 1 (.slice qo k qc) (wordsOf l a k).length (wv (wordsOf l a k)) ∧ W0.heap.size ≤ (y.alloc (.cells #[.int .u32 (X : Int)] 39)).heap.size ∧ Below W0.heap.size W0 (y.alloc (.cells #[.int .u32 (X : Int)] 39))) := by
        have b2 : Below y.heap.size y (y.alloc (.cells #[.int .u32 (X : Int)] 39)) := (Below.refl _ _).alloc (Nat.le_refl _) _
        rw [wordsOf_lenI]
        exact ⟨wown_below YO.out.1 b2, Nat.le_trans YO.out.2.size b2.size, btrI YO.out.2 b2⟩
      have HON : Hid (HasW (y.alloc (.cells #[.int .u32 (X : Int)] 39)) (.slice (some ⟨y.heap.size, 0, none⟩) 1 1) [X]) := hasW_lit y [X] 39
      clear hb hX
      go_wp2_with (at_builtin; refine wpList_append_W rfl _ _ rfl W0.heap.size (.slice qo k qc) (wordsOf l a k) rfl HOA.out.1 (some ⟨y.heap.size, 0, none⟩) 1 [X] rfl HON.out (fun e => by cases e) (by rw [wordsOf_lenI]; simp only [List.length_cons, List.length_nil]; omega) HOA.out.2.1 ?_; intro v' w' hown hgr; have Z : Hid (w'.ownsRow W0.heap.size 39 1 v' (k + 1) (wv (wordsOf l a (k + 1))) ∧ Below W0.heap.size W0 w') := ⟨by rw [HTK.out]; have q := hown; rw [List.length_append, wordsOf_lenI] at q; exact q, wbelow_grown HOA.out.2.2 HOA.out.1 hgr HOA.out.2.1⟩; obtain ⟨ro, rc, hv⟩ := wown_slice Z.out.1; subst hv; clear hown hgr)
      go_roundw
      case rel => exact ⟨k + 1, ro, rc, by omega, by go_num, rfl, Z.out.1, Z.out.2⟩
      case measure => simp [intOf]; omega
    · obtain rfl : k = c := by omega
      obtain ⟨hz, hb9⟩ := HX.out wr HO.out.2
      obtain ⟨r0, r1, f0, f1⟩ := cell2I hz
      have rs := w_lt_get hz
      have HZ : Hid (wr.heap[w.heap.size]? = some (.cells #[.int .i64 0, .slice none 0 0] 46) ∧ Below w.heap.size w wr) := ⟨hz, hb9⟩
      clear hz hb9
      go_wp2
      obtain ⟨z1, z2⟩ := HZ.out
      have y1 := set2I (v0 := .int .i64 0) (v1 := .slice none 0 0) z1
      have y2 : Below w.heap.size w ((wr.setCell ⟨w.heap.size, 0, none⟩ (.int .i64 0)).setCell ⟨w.heap.size, 1, none⟩ (.slice none 0 0)) := z2.trans (below2I (Nat.le_refl _))
      have y3 : ((wr.setCell ⟨w.heap.size, 0, none⟩ (.int .i64 0)).setCell ⟨w.heap.size, 1, none⟩ (.slice none 0 0)).ownsRow (w.heap.size + 1) 39 1 (.slice qo k qc) k (wv (wordsOf l a k)) := by
        rw [← HW0.out.2]
        exact wown_keep HO.out.1 (fun j hj => other2I (by have := (HO.out.1.lt j hj).1; have := HW0.out.2; omega))
      generalize ((wr.setCell ⟨w.heap.size, 0, none⟩ (.int .i64 0)).setCell ⟨w.heap.size, 1, none⟩ (.slice none 0 0)) = Wf at *
      obtain ⟨u0, u1, _, _⟩ := cell2I y1
      exact bodyPost_ret (v := .tuple #[.slice qo k qc, .agg #[.int .i64 0, .slice none 0 0]]) (by simp [results, Tryz.results56, go_sem, u0, u1]) rfl ⟨qo, qc, rfl, y3, y2⟩
end Go.Proofs.YtamedcnjanichabGreatDoor

namespace Go.Proofs.YtamedcnjanichabGreatDoor
open Go.RowKit Go.Extern Cr

attribute [local go_sem] Oper.semAt_some

theorem assert_fault (v : Value) (xT : TypeId) (w : World) : (Instr.typeAssert (.iface 73 v) xT 30 true).run Tryz.prog w = .ok (.tuple #[.iface 73 v, .bool true]) w := by
  first | kernel_rfl | rfl

set_option maxRecDepth 100000 in
set_option maxHeartbeats 2000000 in
theorem reason_calls (b : Nat) (w : World) (hty : HasType w) :
    Calls Tryz.prog 17 #[.iface 73 (.pointer (some ⟨b, 0, none⟩))] w fun e w' => e = .returned (.iface 73 (.pointer (some ⟨b, 0, none⟩))) ∧ Below w.heap.size w w' := by
  have HA := fun (v : Value) (xT : TypeId) (w : World) => assert_fault v xT w
  obtain ⟨W0, hW0⟩ : ∃ W0, w.alloc (.cells #[.pointer none] 73) = W0 := ⟨_, rfl⟩
  have HW0 : Hid (w.alloc (.cells #[.pointer none] 73) = W0) := hW0
  have hB0 : Below w.heap.size w W0 := by rw [← hW0]; exact (Below.refl _ _).alloc (Nat.le_refl _) _
  have hbx : W0.heap[w.heap.size]? = some (.cells #[.pointer none] 73) := by rw [← hW0]; exact heap_new _ _
  have hlt := w_lt_get hbx
  have HAS : Hid (Calls Tryz.prog 36 #[.iface 73 (.pointer (some ⟨b, 0, none⟩)), .iface 75 (.pointer (some ⟨w.heap.size, 0, none⟩))] W0 fun ev w' => ev = .returned (.bool true) ∧ w'.heap[w.heap.size]? = some (.cells #[.pointer (some ⟨b, 0, none⟩)] 73) ∧ Below w.heap.size w w') := by
    refine (as_fault ⟨b, 0, none⟩ w.heap.size (.pointer none) W0 (hty.keep hB0 hty.pos) hbx).mono ?_
    rintro ev w' ⟨rfl, h1, h2⟩
    exact ⟨rfl, h1, hB0.trans ⟨h2.os, h2.tape, h2.output, h2.size, fun k hk => h2.block k (by omega) (by omega)⟩⟩
  clear hW0 hB0 hbx hlt hty
  go_enter Tryz.func17, Tryz.ntmps17
  go_upto_region 4 with fail
  try rw [HW0.out]
  go_wp2_with fail
  refine HAS.out.mono ?_
  rintro e y ⟨rfl, h1, h2⟩
  have Y : Hid (Below w.heap.size w y) := h2
  have c0 : y.cell? ⟨w.heap.size, 0, none⟩ = some (.pointer (some ⟨b, 0, none⟩)) := by simp [World.cell?, h1]
  have l0 := w_lt_get h1
  clear h1 h2
  go_wp2
  go_ret
  exact ⟨rfl, Y.out⟩

set_option maxRecDepth 100000 in
set_option maxHeartbeats 2000000 in
theorem decode1_catch (z b : Nat) (w : World) (hty : HasType w) (hz : w.heap[z]? = some (.cells #[.slice none 0 0, .slice none 0 0, .slice none 0 0, .slice none 0 0, .slice none 0 0] 25 (0, 0))) (hz1 : w.heap[z + 1]? = some (.cells #[.nilIface] 30 (0, 0))) :
    CallsD Tryz.prog 16 #[.pointer (some ⟨z, 0, none⟩), .pointer (some ⟨z + 1, 0, none⟩)] (.panicking [{ v := .iface 73 (.pointer (some ⟨b, 0, none⟩)), recovered := false }]) w fun e u' w' =>
      e = .returned (.tuple #[]) ∧ u' = .panicking [{ v := .iface 73 (.pointer (some ⟨b, 0, none⟩)), recovered := true }] ∧ w'.heap[z]? = some (.cells #[.slice none 0 0, .slice none 0 0, .slice none 0 0, .slice none 0 0, .slice none 0 0] 25 (0, 0)) ∧ w'.heap[z + 1]? = some (.cells #[.iface 73 (.pointer (some ⟨b, 0, none⟩))] 30 (0, 0)) ∧ Below z w w' ∧ Keeps w w' := by
  have HR : Hid (Calls Tryz.prog 17 #[.iface 73 (.pointer (some ⟨b, 0, none⟩))] w fun e w' => e = .returned (.iface 73 (.pointer (some ⟨b, 0, none⟩))) ∧ Below w.heap.size w w') := reason_calls b w hty
  refine callsD_of_wpS Tryz.func16 rfl fun c₀ cs hu => ?_
  apply wpS_seq
  apply wpS_region
  simp [wpOpsS, go_sem, recoverD, hu, Tryz.ntmps16, Exit.thenS]
  apply wpS_seq
  apply wpS_region
  simp [wpOpsS, go_sem, Exit.thenS]
  refine wpS_cond (t := true) (by simp [Act.eval, Array.replicate]) ?_
  simp only [if_true]
  refine wpS_of_wp ?_
  show Code.wp _ _ _ { tmps := #[.pointer (some ⟨z, 0, none⟩), .pointer (some ⟨z + 1, 0, none⟩), .iface 73 (.pointer (some ⟨b, 0, none⟩)), .iface 73 (.pointer (some ⟨b, 0, none⟩)), .iface 73 (.pointer (some ⟨b, 0, none⟩)), .bool true, undef, undef, undef], defers := [] } w
  go_wp2_with fail
  refine HR.out.mono ?_
  rintro e y ⟨rfl, hb⟩
  have x1 := (hb.block _ (w_lt_get hz)).trans hz
  have x2 := (hb.block _ (w_lt_get hz1)).trans hz1
  have hlt := w_lt_get hz
  obtain ⟨z0, z1, z2, z3, z4⟩ := Hi.five_cells x1
  have lz := w_lt_get x1
  have le := w_lt_get x2
  have ez : y.cell? ⟨z + 1, 0, none⟩ = some .nilIface := by simp [World.cell?, x2]
  have ef : y.frozen? ⟨z + 1, 0, none⟩ = false := by simp [World.frozen?, x2]
  have fz : ∀ i, y.frozen? ⟨z, i, none⟩ = false := fun i => by simp [World.frozen?, x1]
  have fz0 := fz 0
  have fz1 := fz 1
  have fz2 := fz 2
  have fz3 := fz 3
  have fz4 := fz 4
  have XH : Hid (y.heap[z]? = some (.cells #[.slice none 0 0, .slice none 0 0, .slice none 0 0, .slice none 0 0, .slice none 0 0] 25 (0, 0)) ∧ y.heap[z + 1]? = some (.cells #[.nilIface] 30 (0, 0)) ∧ Below w.heap.size w y ∧ z < w.heap.size) := ⟨x1, x2, hb, hlt⟩
  clear fz x1 x2 hb hlt hz hz1
  go_wp2
  obtain ⟨x1, x2, x3, x4⟩ := XH.out
  have hS := Hi.set_five x1 (.slice none 0 0) (.slice none 0 0) (.slice none 0 0) (.slice none 0 0) (.slice none 0 0)
  obtain ⟨hf1, hf2⟩ := Hi.five_far y z (.slice none 0 0) (.slice none 0 0) (.slice none 0 0) (.slice none 0 0) (.slice none 0 0)
  have hbb : Below z y (((((y.setCell ⟨z, 0, none⟩ (.slice none 0 0)).setCell ⟨z, 1, none⟩ (.slice none 0 0)).setCell ⟨z, 2, none⟩ (.slice none 0 0)).setCell ⟨z, 3, none⟩ (.slice none 0 0)).setCell ⟨z, 4, none⟩ (.slice none 0 0)) := (((((Below.refl z y).setCell (p := ⟨z, 0, none⟩) (Nat.le_refl _) _).setCell (p := ⟨z, 1, none⟩) (Nat.le_refl _) _).setCell (p := ⟨z, 2, none⟩) (Nat.le_refl _) _).setCell (p := ⟨z, 3, none⟩) (Nat.le_refl _) _).setCell (p := ⟨z, 4, none⟩) (Nat.le_refl _) _
  have hE : (((((y.setCell ⟨z, 0, none⟩ (.slice none 0 0)).setCell ⟨z, 1, none⟩ (.slice none 0 0)).setCell ⟨z, 2, none⟩ (.slice none 0 0)).setCell ⟨z, 3, none⟩ (.slice none 0 0)).setCell ⟨z, 4, none⟩ (.slice none 0 0)).heap[z + 1]? = some (.cells #[.nilIface] 30 (0, 0)) := (hf1 _ (by omega)).trans x2
  have hK : Keeps y (((((y.setCell ⟨z, 0, none⟩ (.slice none 0 0)).setCell ⟨z, 1, none⟩ (.slice none 0 0)).setCell ⟨z, 2, none⟩ (.slice none 0 0)).setCell ⟨z, 3, none⟩ (.slice none 0 0)).setCell ⟨z, 4, none⟩ (.slice none 0 0)) := fun k c hk => by
    have hne : k ≠ z := fun e => by
      subst e
      rw [x1] at hk
      simp at hk
    exact (hf1 k hne).trans hk
  clear z0 z1 z2 z3 z4 fz0 fz1 fz2 fz3 fz4 ez ef lz le hf1 hf2
  generalize (((((y.setCell ⟨z, 0, none⟩ (.slice none 0 0)).setCell ⟨z, 1, none⟩ (.slice none 0 0)).setCell ⟨z, 2, none⟩ (.slice none 0 0)).setCell ⟨z, 3, none⟩ (.slice none 0 0)).setCell ⟨z, 4, none⟩ (.slice none 0 0)) = WE at *
  have fin : ∀ WF : World, WF = WE.setCell ⟨z + 1, 0, none⟩ (.iface 73 (.pointer (some ⟨b, 0, none⟩))) → WF.heap[z]? = some (.cells #[.slice none 0 0, .slice none 0 0, .slice none 0 0, .slice none 0 0, .slice none 0 0] 25 (0, 0)) ∧ WF.heap[z + 1]? = some (.cells #[.iface 73 (.pointer (some ⟨b, 0, none⟩))] 30 (0, 0)) ∧ Below z w WF ∧ Keeps w WF := by
    rintro WF rfl
    have o : ∀ k, k ≠ z + 1 → (WE.setCell ⟨z + 1, 0, none⟩ (.iface 73 (.pointer (some ⟨b, 0, none⟩)))).heap[k]? = WE.heap[k]? := fun k hk => by first | exact heap_setCell_other _ _ _ _ hk | exact heap_setCell_other _ _ _ _ hk.symm
    refine ⟨(o z (by omega)).trans hS, ?_, ((x3.mono (Nat.le_of_lt x4)).trans hbb).setCell (p := ⟨z + 1, 0, none⟩) (show z ≤ z + 1 by omega) _, (Below.keeps x3).trans (hK.trans fun k c hk => ?_)⟩
    · rw [heap_setCell_same WE (z + 1) 0 _ 30 _ hE]
      rfl
    · have hne : k ≠ z + 1 := fun e => by
        subst e
        rw [hE] at hk
        simp at hk
      exact (o k hne).trans hk
  obtain ⟨p1, p2, p3, p4⟩ := fin _ rfl
  clear fin hS hbb hE hK x1 x2 x3
  generalize WE.setCell ⟨z + 1, 0, none⟩ (.iface 73 (.pointer (some ⟨b, 0, none⟩))) = WF at *
  simp [bodyPostS, results, Tryz.results16, p1, p2]
  exact ⟨p3, p4⟩
end Go.Proofs.YtamedcnjanichabGreatDoor

namespace Go.Proofs.YtamedcnjanichabGreatDoor
open Go.RowKit Go.Extern Cr

attribute [local go_sem] Oper.semAt_some

set_option maxRecDepth 100000 in
set_option maxHeartbeats 4000000 in
theorem sign_0_0 (rb : Nat) (lo : Option Addr) (lc : Nat) (l : List Nat) (ec : Int) (hec : ec ≠ 0) (w : World) (hr : w.heap[rb]? = some (.cells #[.slice lo l.length lc, .int .i64 0] 79 (0, 0))) (hl : HasB w (.slice lo l.length lc) l) (hlen : 8 ≤ l.length)  (x : Nat) (hx : l[0]? = some x) (hxn : x ≠ 86) :
    Calls Tryz.prog 38 #[.pointer (some ⟨rb, 0, none⟩), .string { data := #[86, 68, 67, 84] }, .int .i64 ec] w fun e w' => Thrown w' (ec, [(2, 0)]) e ∧ Below w.heap.size w w' := by
  have HRR : Hid (w.heap[rb]? = some (.cells #[.slice lo l.length lc, .int .i64 0] 79 (0, 0))) := hr
  have HR : Hid (∀ wx, Below w.heap.size w wx → (wx.cell? ⟨rb, 0, none⟩ = some (.slice lo l.length lc) ∧ wx.cell? ⟨rb, 1, none⟩ = some (.int .i64 0)) ∧ wx.frozen? ⟨rb, 1, none⟩ = false ∧ rb < wx.heap.size ∧ HasB wx (.slice lo l.length lc) l) := fun wx hx => by
    have q := (hx.block _ (w_lt_get hr)).trans hr
    obtain ⟨q0, q1, q2, q3⟩ := cell2I q
    exact ⟨⟨q0, q1⟩, q3, w_lt_get q, hl.keep hx⟩
  have HG : Hid (∀ (i : Int) wx, Calls Tryz.prog 69 #[.int .i64 i, .int .i64 ec] wx fun e w' => Thrown w' (ec, [(2, i)]) e ∧ Below wx.heap.size wx w') := fun i wx => giveUp_calls i ec hec wx
  have KX : Hid (l[0]? = some x) := hx
  clear hr hl hx
  go_enter Tryz.func38, Tryz.ntmps38
  go_wp2_with fail
  go_loopw [9] (fun iv wr => ∃ k : Nat, k ≤ 0 ∧ iv = .int .i64 (k : Nat) ∧ Below w.heap.size w wr) (fun iv _ => 4 - (intOf iv).toNat)
  case atStart => exact ⟨0, by omega, rfl, Below.refl _ _⟩
  case round =>
    obtain ⟨k, hk, rfl, hbw⟩ := hrel
    have HB : Hid (Below w.heap.size w wr) := hbw
    obtain ⟨⟨c0, c1⟩, f1, l1, hlx⟩ := HR.out wr hbw
    clear hbw
    obtain rfl : k = 0 := by omega
    · obtain ⟨b, off, rfl, bl, p0⟩ := hlx.at KX.out
      obtain ⟨a0, ha0⟩ : ∃ a0 : Nat, 0 = a0 := ⟨0, rfl⟩
      have c1' : wr.cell? ⟨rb, 1, none⟩ = some (.int .i64 (a0 : Int)) := by rw [← ha0]; exact c1
      have p0' : wr.cell? ⟨b, off + a0, none⟩ = some (.int .u8 (x : Int)) := by rw [← ha0]; exact p0
      have i1 : (a0 : Int) < (l.length : Int) := by omega
      have i2 : a0 ≤ 4 := by omega
      have HA0 : Hid ((a0 : Int) = 0) := by show (a0 : Int) = 0; omega
      clear hlx c1 p0 ha0
      have n1 : ¬ ((x : Int) = 86) := by omega
      have n2 : decide ((x : Int) = 86) = false := decide_eq_false n1
      go_wp2_with fail
      go_quiet (fail)
      have HBQ : Hid (Below w.heap.size w (wr.drewN nq)) := HB.out.trans ⟨rfl, rfl, rfl, Nat.le_refl _, fun _ _ => rfl⟩
      go_wp2_with (go_at_call 69; refine (HG.out _ _).mono ?_; rintro e w1 ⟨⟨T, z, rfl, ht⟩, hb⟩; have Y : Hid (IsTold w1 (ec, [(2, (a0 : Int))]) (.iface T z) ∧ Below w.heap.size w w1) := ⟨ht, btrI HBQ.out hb⟩; clear ht hb)
      case roundEnd =>
        exfalso
        rename_i hq
        simp only [bne_eq_false_iff_eq] at hq
        exact n1 (hq.trans rfl)
      rw [HA0.out] at Y
      exact ⟨rfl, ⟨T, z, rfl, Y.out.1⟩, Y.out.2⟩

set_option maxRecDepth 100000 in
set_option maxHeartbeats 4000000 in
theorem sign_0_1 (rb : Nat) (lo : Option Addr) (lc : Nat) (l : List Nat) (ec : Int) (hec : ec ≠ 0) (w : World) (hr : w.heap[rb]? = some (.cells #[.slice lo l.length lc, .int .i64 0] 79 (0, 0))) (hl : HasB w (.slice lo l.length lc) l) (hlen : 8 ≤ l.length) (h0 : l[0]? = some 86) (x : Nat) (hx : l[1]? = some x) (hxn : x ≠ 68) :
    Calls Tryz.prog 38 #[.pointer (some ⟨rb, 0, none⟩), .string { data := #[86, 68, 67, 84] }, .int .i64 ec] w fun e w' => Thrown w' (ec, [(2, 1)]) e ∧ Below w.heap.size w w' := by
  have HRR : Hid (w.heap[rb]? = some (.cells #[.slice lo l.length lc, .int .i64 0] 79 (0, 0))) := hr
  have HR : Hid (∀ wx, Below w.heap.size w wx → (wx.cell? ⟨rb, 0, none⟩ = some (.slice lo l.length lc) ∧ wx.cell? ⟨rb, 1, none⟩ = some (.int .i64 0)) ∧ wx.frozen? ⟨rb, 1, none⟩ = false ∧ rb < wx.heap.size ∧ HasB wx (.slice lo l.length lc) l) := fun wx hx => by
    have q := (hx.block _ (w_lt_get hr)).trans hr
    obtain ⟨q0, q1, q2, q3⟩ := cell2I q
    exact ⟨⟨q0, q1⟩, q3, w_lt_get q, hl.keep hx⟩
  have HG : Hid (∀ (i : Int) wx, Calls Tryz.prog 69 #[.int .i64 i, .int .i64 ec] wx fun e w' => Thrown w' (ec, [(2, i)]) e ∧ Below wx.heap.size wx w') := fun i wx => giveUp_calls i ec hec wx
  have K0 : Hid (l[0]? = some 86) := h0
  have KX : Hid (l[1]? = some x) := hx
  clear hr hl h0 hx
  go_enter Tryz.func38, Tryz.ntmps38
  go_wp2_with fail
  go_loopw [9] (fun iv wr => ∃ k : Nat, k ≤ 1 ∧ iv = .int .i64 (k : Nat) ∧ Below w.heap.size w wr) (fun iv _ => 4 - (intOf iv).toNat)
  case atStart => exact ⟨0, by omega, rfl, Below.refl _ _⟩
  case round =>
    obtain ⟨k, hk, rfl, hbw⟩ := hrel
    have HB : Hid (Below w.heap.size w wr) := hbw
    obtain ⟨⟨c0, c1⟩, f1, l1, hlx⟩ := HR.out wr hbw
    clear hbw
    rcases (show k = 0 ∨ k = 1 by omega) with rfl | rfl
    · obtain ⟨b, off, rfl, bl, p0⟩ := hlx.at K0.out
      obtain ⟨a0, ha0⟩ : ∃ a0 : Nat, 0 = a0 := ⟨0, rfl⟩
      have c1' : wr.cell? ⟨rb, 1, none⟩ = some (.int .i64 (a0 : Int)) := by rw [← ha0]; exact c1
      have p0' : wr.cell? ⟨b, off + a0, none⟩ = some (.int .u8 86) := by rw [← ha0]; exact p0
      have i1 : (a0 : Int) < (l.length : Int) := by omega
      have i2 : a0 ≤ 4 := by omega
      have HA0 : Hid ((a0 : Int) = 0) := by show (a0 : Int) = 0; omega
      clear hlx c1 p0 ha0
      go_wp2_with fail
      go_quiet (fail)
      have HBQ : Hid (Below w.heap.size w (wr.drewN nq)) := HB.out.trans ⟨rfl, rfl, rfl, Nat.le_refl _, fun _ _ => rfl⟩
      go_wp2
      go_roundw
      case rel => exact ⟨1, by omega, by go_num, HBQ.out⟩
      case measure => simp [intOf]
    · obtain ⟨b, off, rfl, bl, p0⟩ := hlx.at KX.out
      have i1 : (1 : Int) < (l.length : Int) := by omega
      clear hlx
      have n1 : ¬ ((x : Int) = 68) := by omega
      have n2 : decide ((x : Int) = 68) = false := decide_eq_false n1
      go_wp2_with fail
      go_quiet (fail)
      have HBQ : Hid (Below w.heap.size w (wr.drewN nq)) := HB.out.trans ⟨rfl, rfl, rfl, Nat.le_refl _, fun _ _ => rfl⟩
      go_wp2_with (go_at_call 69; refine (HG.out _ _).mono ?_; rintro e w1 ⟨⟨T, z, rfl, ht⟩, hb⟩; have Y : Hid (IsTold w1 (ec, [(2, 1)]) (.iface T z) ∧ Below w.heap.size w w1) := ⟨ht, btrI HBQ.out hb⟩; clear ht hb)
      case roundEnd =>
        exfalso
        rename_i hq
        simp only [bne_eq_false_iff_eq] at hq
        exact n1 (hq.trans rfl)
      skip
      exact ⟨rfl, ⟨T, z, rfl, Y.out.1⟩, Y.out.2⟩

set_option maxRecDepth 100000 in
set_option maxHeartbeats 4000000 in
theorem sign_0_2 (rb : Nat) (lo : Option Addr) (lc : Nat) (l : List Nat) (ec : Int) (hec : ec ≠ 0) (w : World) (hr : w.heap[rb]? = some (.cells #[.slice lo l.length lc, .int .i64 0] 79 (0, 0))) (hl : HasB w (.slice lo l.length lc) l) (hlen : 8 ≤ l.length) (h0 : l[0]? = some 86) (h1 : l[1]? = some 68) (x : Nat) (hx : l[2]? = some x) (hxn : x ≠ 67) :
    Calls Tryz.prog 38 #[.pointer (some ⟨rb, 0, none⟩), .string { data := #[86, 68, 67, 84] }, .int .i64 ec] w fun e w' => Thrown w' (ec, [(2, 2)]) e ∧ Below w.heap.size w w' := by
  have HRR : Hid (w.heap[rb]? = some (.cells #[.slice lo l.length lc, .int .i64 0] 79 (0, 0))) := hr
  have HR : Hid (∀ wx, Below w.heap.size w wx → (wx.cell? ⟨rb, 0, none⟩ = some (.slice lo l.length lc) ∧ wx.cell? ⟨rb, 1, none⟩ = some (.int .i64 0)) ∧ wx.frozen? ⟨rb, 1, none⟩ = false ∧ rb < wx.heap.size ∧ HasB wx (.slice lo l.length lc) l) := fun wx hx => by
    have q := (hx.block _ (w_lt_get hr)).trans hr
    obtain ⟨q0, q1, q2, q3⟩ := cell2I q
    exact ⟨⟨q0, q1⟩, q3, w_lt_get q, hl.keep hx⟩
  have HG : Hid (∀ (i : Int) wx, Calls Tryz.prog 69 #[.int .i64 i, .int .i64 ec] wx fun e w' => Thrown w' (ec, [(2, i)]) e ∧ Below wx.heap.size wx w') := fun i wx => giveUp_calls i ec hec wx
  have K0 : Hid (l[0]? = some 86) := h0
  have K1 : Hid (l[1]? = some 68) := h1
  have KX : Hid (l[2]? = some x) := hx
  clear hr hl h0 h1 hx
  go_enter Tryz.func38, Tryz.ntmps38
  go_wp2_with fail
  go_loopw [9] (fun iv wr => ∃ k : Nat, k ≤ 2 ∧ iv = .int .i64 (k : Nat) ∧ Below w.heap.size w wr) (fun iv _ => 4 - (intOf iv).toNat)
  case atStart => exact ⟨0, by omega, rfl, Below.refl _ _⟩
  case round =>
    obtain ⟨k, hk, rfl, hbw⟩ := hrel
    have HB : Hid (Below w.heap.size w wr) := hbw
    obtain ⟨⟨c0, c1⟩, f1, l1, hlx⟩ := HR.out wr hbw
    clear hbw
    rcases (show k = 0 ∨ k = 1 ∨ k = 2 by omega) with rfl | rfl | rfl
    · obtain ⟨b, off, rfl, bl, p0⟩ := hlx.at K0.out
      obtain ⟨a0, ha0⟩ : ∃ a0 : Nat, 0 = a0 := ⟨0, rfl⟩
      have c1' : wr.cell? ⟨rb, 1, none⟩ = some (.int .i64 (a0 : Int)) := by rw [← ha0]; exact c1
      have p0' : wr.cell? ⟨b, off + a0, none⟩ = some (.int .u8 86) := by rw [← ha0]; exact p0
      have i1 : (a0 : Int) < (l.length : Int) := by omega
      have i2 : a0 ≤ 4 := by omega
      have HA0 : Hid ((a0 : Int) = 0) := by show (a0 : Int) = 0; omega
      clear hlx c1 p0 ha0
      go_wp2_with fail
      go_quiet (fail)
      have HBQ : Hid (Below w.heap.size w (wr.drewN nq)) := HB.out.trans ⟨rfl, rfl, rfl, Nat.le_refl _, fun _ _ => rfl⟩
      go_wp2
      go_roundw
      case rel => exact ⟨1, by omega, by go_num, HBQ.out⟩
      case measure => simp [intOf]
    · obtain ⟨b, off, rfl, bl, p0⟩ := hlx.at K1.out
      have i1 : (1 : Int) < (l.length : Int) := by omega
      clear hlx
      go_wp2_with fail
      go_quiet (fail)
      have HBQ : Hid (Below w.heap.size w (wr.drewN nq)) := HB.out.trans ⟨rfl, rfl, rfl, Nat.le_refl _, fun _ _ => rfl⟩
      go_wp2
      go_roundw
      case rel => exact ⟨2, by omega, by go_num, HBQ.out⟩
      case measure => simp [intOf]
    · obtain ⟨b, off, rfl, bl, p0⟩ := hlx.at KX.out
      have i1 : (2 : Int) < (l.length : Int) := by omega
      clear hlx
      have n1 : ¬ ((x : Int) = 67) := by omega
      have n2 : decide ((x : Int) = 67) = false := decide_eq_false n1
      go_wp2_with fail
      go_quiet (fail)
      have HBQ : Hid (Below w.heap.size w (wr.drewN nq)) := HB.out.trans ⟨rfl, rfl, rfl, Nat.le_refl _, fun _ _ => rfl⟩
      go_wp2_with (go_at_call 69; refine (HG.out _ _).mono ?_; rintro e w1 ⟨⟨T, z, rfl, ht⟩, hb⟩; have Y : Hid (IsTold w1 (ec, [(2, 2)]) (.iface T z) ∧ Below w.heap.size w w1) := ⟨ht, btrI HBQ.out hb⟩; clear ht hb)
      case roundEnd =>
        exfalso
        rename_i hq
        simp only [bne_eq_false_iff_eq] at hq
        exact n1 (hq.trans rfl)
      skip
      exact ⟨rfl, ⟨T, z, rfl, Y.out.1⟩, Y.out.2⟩

set_option maxRecDepth 100000 in
set_option maxHeartbeats 4000000 in
theorem sign_0_3 (rb : Nat) (lo : Option Addr) (lc : Nat) (l : List Nat) (ec : Int) (hec : ec ≠ 0) (w : World) (hr : w.heap[rb]? = some (.cells #[.slice lo l.length lc, .int .i64 0] 79 (0, 0))) (hl : HasB w (.slice lo l.length lc) l) (hlen : 8 ≤ l.length) (h0 : l[0]? = some 86) (h1 : l[1]? = some 68) (h2 : l[2]? = some 67) (x : Nat) (hx : l[3]? = some x) (hxn : x ≠ 84) :
    Calls Tryz.prog 38 #[.pointer (some ⟨rb, 0, none⟩), .string { data := #[86, 68, 67, 84] }, .int .i64 ec] w fun e w' => Thrown w' (ec, [(2, 3)]) e ∧ Below w.heap.size w w' := by
  have HRR : Hid (w.heap[rb]? = some (.cells #[.slice lo l.length lc, .int .i64 0] 79 (0, 0))) := hr
  have HR : Hid (∀ wx, Below w.heap.size w wx → (wx.cell? ⟨rb, 0, none⟩ = some (.slice lo l.length lc) ∧ wx.cell? ⟨rb, 1, none⟩ = some (.int .i64 0)) ∧ wx.frozen? ⟨rb, 1, none⟩ = false ∧ rb < wx.heap.size ∧ HasB wx (.slice lo l.length lc) l) := fun wx hx => by
    have q := (hx.block _ (w_lt_get hr)).trans hr
    obtain ⟨q0, q1, q2, q3⟩ := cell2I q
    exact ⟨⟨q0, q1⟩, q3, w_lt_get q, hl.keep hx⟩
  have HG : Hid (∀ (i : Int) wx, Calls Tryz.prog 69 #[.int .i64 i, .int .i64 ec] wx fun e w' => Thrown w' (ec, [(2, i)]) e ∧ Below wx.heap.size wx w') := fun i wx => giveUp_calls i ec hec wx
  have K0 : Hid (l[0]? = some 86) := h0
  have K1 : Hid (l[1]? = some 68) := h1
  have K2 : Hid (l[2]? = some 67) := h2
  have KX : Hid (l[3]? = some x) := hx
  clear hr hl h0 h1 h2 hx
  go_enter Tryz.func38, Tryz.ntmps38
  go_wp2_with fail
  go_loopw [9] (fun iv wr => ∃ k : Nat, k ≤ 3 ∧ iv = .int .i64 (k : Nat) ∧ Below w.heap.size w wr) (fun iv _ => 4 - (intOf iv).toNat)
  case atStart => exact ⟨0, by omega, rfl, Below.refl _ _⟩
  case round =>
    obtain ⟨k, hk, rfl, hbw⟩ := hrel
    have HB : Hid (Below w.heap.size w wr) := hbw
    obtain ⟨⟨c0, c1⟩, f1, l1, hlx⟩ := HR.out wr hbw
    clear hbw
    rcases (show k = 0 ∨ k = 1 ∨ k = 2 ∨ k = 3 by omega) with rfl | rfl | rfl | rfl
    · obtain ⟨b, off, rfl, bl, p0⟩ := hlx.at K0.out
      obtain ⟨a0, ha0⟩ : ∃ a0 : Nat, 0 = a0 := ⟨0, rfl⟩
      have c1' : wr.cell? ⟨rb, 1, none⟩ = some (.int .i64 (a0 : Int)) := by rw [← ha0]; exact c1
      have p0' : wr.cell? ⟨b, off + a0, none⟩ = some (.int .u8 86) := by rw [← ha0]; exact p0
      have i1 : (a0 : Int) < (l.length : Int) := by omega
      have i2 : a0 ≤ 4 := by omega
      have HA0 : Hid ((a0 : Int) = 0) := by show (a0 : Int) = 0; omega
      clear hlx c1 p0 ha0
      go_wp2_with fail
      go_quiet (fail)
      have HBQ : Hid (Below w.heap.size w (wr.drewN nq)) := HB.out.trans ⟨rfl, rfl, rfl, Nat.le_refl _, fun _ _ => rfl⟩
      go_wp2
      go_roundw
      case rel => exact ⟨1, by omega, by go_num, HBQ.out⟩
      case measure => simp [intOf]
    · obtain ⟨b, off, rfl, bl, p0⟩ := hlx.at K1.out
      have i1 : (1 : Int) < (l.length : Int) := by omega
      clear hlx
      go_wp2_with fail
      go_quiet (fail)
      have HBQ : Hid (Below w.heap.size w (wr.drewN nq)) := HB.out.trans ⟨rfl, rfl, rfl, Nat.le_refl _, fun _ _ => rfl⟩
      go_wp2
      go_roundw
      case rel => exact ⟨2, by omega, by go_num, HBQ.out⟩
      case measure => simp [intOf]
    · obtain ⟨b, off, rfl, bl, p0⟩ := hlx.at K2.out
      have i1 : (2 : Int) < (l.length : Int) := by omega
      clear hlx
      go_wp2_with fail
      go_quiet (fail)
      have HBQ : Hid (Below w.heap.size w (wr.drewN nq)) := HB.out.trans ⟨rfl, rfl, rfl, Nat.le_refl _, fun _ _ => rfl⟩
      go_wp2
      go_roundw
      case rel => exact ⟨3, by omega, by go_num, HBQ.out⟩
      case measure => simp [intOf]
    · obtain ⟨b, off, rfl, bl, p0⟩ := hlx.at KX.out
      have i1 : (3 : Int) < (l.length : Int) := by omega
      clear hlx
      have n1 : ¬ ((x : Int) = 84) := by omega
      have n2 : decide ((x : Int) = 84) = false := decide_eq_false n1
      go_wp2_with fail
      go_quiet (fail)
      have HBQ : Hid (Below w.heap.size w (wr.drewN nq)) := HB.out.trans ⟨rfl, rfl, rfl, Nat.le_refl _, fun _ _ => rfl⟩
      go_wp2_with (go_at_call 69; refine (HG.out _ _).mono ?_; rintro e w1 ⟨⟨T, z, rfl, ht⟩, hb⟩; have Y : Hid (IsTold w1 (ec, [(2, 3)]) (.iface T z) ∧ Below w.heap.size w w1) := ⟨ht, btrI HBQ.out hb⟩; clear ht hb)
      case roundEnd =>
        exfalso
        rename_i hq
        simp only [bne_eq_false_iff_eq] at hq
        exact n1 (hq.trans rfl)
      skip
      exact ⟨rfl, ⟨T, z, rfl, Y.out.1⟩, Y.out.2⟩

set_option maxRecDepth 100000 in
set_option maxHeartbeats 4000000 in
theorem sign_0_4 (rb : Nat) (lo : Option Addr) (lc : Nat) (l : List Nat) (ec : Int) (hec : ec ≠ 0) (w : World) (hr : w.heap[rb]? = some (.cells #[.slice lo l.length lc, .int .i64 0] 79 (0, 0))) (hl : HasB w (.slice lo l.length lc) l) (hlen : 8 ≤ l.length) (h0 : l[0]? = some 86) (h1 : l[1]? = some 68) (h2 : l[2]? = some 67) (h3 : l[3]? = some 84) :
    Calls Tryz.prog 38 #[.pointer (some ⟨rb, 0, none⟩), .string { data := #[86, 68, 67, 84] }, .int .i64 ec] w fun e w' => e = .returned (.tuple #[]) ∧ RdTo w w' rb lo l.length lc 4 := by
  have HRR : Hid (w.heap[rb]? = some (.cells #[.slice lo l.length lc, .int .i64 0] 79 (0, 0))) := hr
  have HR : Hid (∀ wx, Below w.heap.size w wx → (wx.cell? ⟨rb, 0, none⟩ = some (.slice lo l.length lc) ∧ wx.cell? ⟨rb, 1, none⟩ = some (.int .i64 0)) ∧ wx.frozen? ⟨rb, 1, none⟩ = false ∧ rb < wx.heap.size ∧ HasB wx (.slice lo l.length lc) l) := fun wx hx => by
    have q := (hx.block _ (w_lt_get hr)).trans hr
    obtain ⟨q0, q1, q2, q3⟩ := cell2I q
    exact ⟨⟨q0, q1⟩, q3, w_lt_get q, hl.keep hx⟩
  have HG : Hid (∀ (i : Int) wx, Calls Tryz.prog 69 #[.int .i64 i, .int .i64 ec] wx fun e w' => Thrown w' (ec, [(2, i)]) e ∧ Below wx.heap.size wx w') := fun i wx => giveUp_calls i ec hec wx
  have K0 : Hid (l[0]? = some 86) := h0
  have K1 : Hid (l[1]? = some 68) := h1
  have K2 : Hid (l[2]? = some 67) := h2
  have K3 : Hid (l[3]? = some 84) := h3
  clear hr hl h0 h1 h2 h3
  go_enter Tryz.func38, Tryz.ntmps38
  go_wp2_with fail
  go_loopw [9] (fun iv wr => ∃ k : Nat, k ≤ 4 ∧ iv = .int .i64 (k : Nat) ∧ Below w.heap.size w wr) (fun iv _ => 4 - (intOf iv).toNat)
  case atStart => exact ⟨0, by omega, rfl, Below.refl _ _⟩
  case round =>
    obtain ⟨k, hk, rfl, hbw⟩ := hrel
    have HB : Hid (Below w.heap.size w wr) := hbw
    obtain ⟨⟨c0, c1⟩, f1, l1, hlx⟩ := HR.out wr hbw
    clear hbw
    rcases (show k = 0 ∨ k = 1 ∨ k = 2 ∨ k = 3 ∨ k = 4 by omega) with rfl | rfl | rfl | rfl | rfl
    · obtain ⟨b, off, rfl, bl, p0⟩ := hlx.at K0.out
      obtain ⟨a0, ha0⟩ : ∃ a0 : Nat, 0 = a0 := ⟨0, rfl⟩
      have c1' : wr.cell? ⟨rb, 1, none⟩ = some (.int .i64 (a0 : Int)) := by rw [← ha0]; exact c1
      have p0' : wr.cell? ⟨b, off + a0, none⟩ = some (.int .u8 86) := by rw [← ha0]; exact p0
      have i1 : (a0 : Int) < (l.length : Int) := by omega
      have i2 : a0 ≤ 4 := by omega
      have HA0 : Hid ((a0 : Int) = 0) := by show (a0 : Int) = 0; omega
      clear hlx c1 p0 ha0
      go_wp2_with fail
      go_quiet (fail)
      have HBQ : Hid (Below w.heap.size w (wr.drewN nq)) := HB.out.trans ⟨rfl, rfl, rfl, Nat.le_refl _, fun _ _ => rfl⟩
      go_wp2
      go_roundw
      case rel => exact ⟨1, by omega, by go_num, HBQ.out⟩
      case measure => simp [intOf]
    · obtain ⟨b, off, rfl, bl, p0⟩ := hlx.at K1.out
      have i1 : (1 : Int) < (l.length : Int) := by omega
      clear hlx
      go_wp2_with fail
      go_quiet (fail)
      have HBQ : Hid (Below w.heap.size w (wr.drewN nq)) := HB.out.trans ⟨rfl, rfl, rfl, Nat.le_refl _, fun _ _ => rfl⟩
      go_wp2
      go_roundw
      case rel => exact ⟨2, by omega, by go_num, HBQ.out⟩
      case measure => simp [intOf]
    · obtain ⟨b, off, rfl, bl, p0⟩ := hlx.at K2.out
      have i1 : (2 : Int) < (l.length : Int) := by omega
      clear hlx
      go_wp2_with fail
      go_quiet (fail)
      have HBQ : Hid (Below w.heap.size w (wr.drewN nq)) := HB.out.trans ⟨rfl, rfl, rfl, Nat.le_refl _, fun _ _ => rfl⟩
      go_wp2
      go_roundw
      case rel => exact ⟨3, by omega, by go_num, HBQ.out⟩
      case measure => simp [intOf]
    · obtain ⟨b, off, rfl, bl, p0⟩ := hlx.at K3.out
      have i1 : (3 : Int) < (l.length : Int) := by omega
      clear hlx
      go_wp2_with fail
      go_quiet (fail)
      have HBQ : Hid (Below w.heap.size w (wr.drewN nq)) := HB.out.trans ⟨rfl, rfl, rfl, Nat.le_refl _, fun _ _ => rfl⟩
      go_wp2
      go_roundw
      case rel => exact ⟨4, by omega, by go_num, HBQ.out⟩
      case measure => simp [intOf]
    · clear hlx
      have HQ : Hid (RdTo w (wr.setCell ⟨rb, 1, none⟩ (.int .i64 4)) rb lo l.length lc 4) := rdTo_set HRR.out HB.out
      go_wp2
      go_end0
      exact ⟨rfl, HQ.out⟩

set_option maxRecDepth 100000 in
set_option maxHeartbeats 4000000 in
theorem sign_4_0 (rb : Nat) (lo : Option Addr) (lc : Nat) (l : List Nat) (ec : Int) (hec : ec ≠ 0) (w : World) (hr : w.heap[rb]? = some (.cells #[.slice lo l.length lc, .int .i64 4] 79 (0, 0))) (hl : HasB w (.slice lo l.length lc) l) (hlen : 8 ≤ l.length)  (x : Nat) (hx : l[4]? = some x) (hxn : x ≠ 1) :
    Calls Tryz.prog 38 #[.pointer (some ⟨rb, 0, none⟩), .string { data := #[1, 0, 0, 0] }, .int .i64 ec] w fun e w' => Thrown w' (ec, [(2, 4)]) e ∧ Below w.heap.size w w' := by
  have HRR : Hid (w.heap[rb]? = some (.cells #[.slice lo l.length lc, .int .i64 4] 79 (0, 0))) := hr
  have HR : Hid (∀ wx, Below w.heap.size w wx → (wx.cell? ⟨rb, 0, none⟩ = some (.slice lo l.length lc) ∧ wx.cell? ⟨rb, 1, none⟩ = some (.int .i64 4)) ∧ wx.frozen? ⟨rb, 1, none⟩ = false ∧ rb < wx.heap.size ∧ HasB wx (.slice lo l.length lc) l) := fun wx hx => by
    have q := (hx.block _ (w_lt_get hr)).trans hr
    obtain ⟨q0, q1, q2, q3⟩ := cell2I q
    exact ⟨⟨q0, q1⟩, q3, w_lt_get q, hl.keep hx⟩
  have HG : Hid (∀ (i : Int) wx, Calls Tryz.prog 69 #[.int .i64 i, .int .i64 ec] wx fun e w' => Thrown w' (ec, [(2, i)]) e ∧ Below wx.heap.size wx w') := fun i wx => giveUp_calls i ec hec wx
  have KX : Hid (l[4]? = some x) := hx
  clear hr hl hx
  go_enter Tryz.func38, Tryz.ntmps38
  go_wp2_with fail
  go_loopw [9] (fun iv wr => ∃ k : Nat, k ≤ 0 ∧ iv = .int .i64 (k : Nat) ∧ Below w.heap.size w wr) (fun iv _ => 4 - (intOf iv).toNat)
  case atStart => exact ⟨0, by omega, rfl, Below.refl _ _⟩
  case round =>
    obtain ⟨k, hk, rfl, hbw⟩ := hrel
    have HB : Hid (Below w.heap.size w wr) := hbw
    obtain ⟨⟨c0, c1⟩, f1, l1, hlx⟩ := HR.out wr hbw
    clear hbw
    obtain rfl : k = 0 := by omega
    · obtain ⟨b, off, rfl, bl, p0⟩ := hlx.at KX.out
      have i1 : (4 : Int) < (l.length : Int) := by omega
      clear hlx
      have n1 : ¬ ((x : Int) = 1) := by omega
      have n2 : decide ((x : Int) = 1) = false := decide_eq_false n1
      go_wp2_with fail
      go_quiet (fail)
      have HBQ : Hid (Below w.heap.size w (wr.drewN nq)) := HB.out.trans ⟨rfl, rfl, rfl, Nat.le_refl _, fun _ _ => rfl⟩
      go_wp2_with (go_at_call 69; refine (HG.out _ _).mono ?_; rintro e w1 ⟨⟨T, z, rfl, ht⟩, hb⟩; have Y : Hid (IsTold w1 (ec, [(2, 4)]) (.iface T z) ∧ Below w.heap.size w w1) := ⟨ht, btrI HBQ.out hb⟩; clear ht hb)
      case roundEnd =>
        exfalso
        rename_i hq
        simp only [bne_eq_false_iff_eq] at hq
        exact n1 (hq.trans rfl)
      skip
      exact ⟨rfl, ⟨T, z, rfl, Y.out.1⟩, Y.out.2⟩

set_option maxRecDepth 100000 in
set_option maxHeartbeats 4000000 in
theorem sign_4_1 (rb : Nat) (lo : Option Addr) (lc : Nat) (l : List Nat) (ec : Int) (hec : ec ≠ 0) (w : World) (hr : w.heap[rb]? = some (.cells #[.slice lo l.length lc, .int .i64 4] 79 (0, 0))) (hl : HasB w (.slice lo l.length lc) l) (hlen : 8 ≤ l.length) (h0 : l[4]? = some 1) (x : Nat) (hx : l[5]? = some x) (hxn : x ≠ 0) :
    Calls Tryz.prog 38 #[.pointer (some ⟨rb, 0, none⟩), .string { data := #[1, 0, 0, 0] }, .int .i64 ec] w fun e w' => Thrown w' (ec, [(2, 5)]) e ∧ Below w.heap.size w w' := by
  have HRR : Hid (w.heap[rb]? = some (.cells #[.slice lo l.length lc, .int .i64 4] 79 (0, 0))) := hr
  have HR : Hid (∀ wx, Below w.heap.size w wx → (wx.cell? ⟨rb, 0, none⟩ = some (.slice lo l.length lc) ∧ wx.cell? ⟨rb, 1, none⟩ = some (.int .i64 4)) ∧ wx.frozen? ⟨rb, 1, none⟩ = false ∧ rb < wx.heap.size ∧ HasB wx (.slice lo l.length lc) l) := fun wx hx => by
    have q := (hx.block _ (w_lt_get hr)).trans hr
    obtain ⟨q0, q1, q2, q3⟩ := cell2I q
    exact ⟨⟨q0, q1⟩, q3, w_lt_get q, hl.keep hx⟩
  have HG : Hid (∀ (i : Int) wx, Calls Tryz.prog 69 #[.int .i64 i, .int .i64 ec] wx fun e w' => Thrown w' (ec, [(2, i)]) e ∧ Below wx.heap.size wx w') := fun i wx => giveUp_calls i ec hec wx
  have K0 : Hid (l[4]? = some 1) := h0
  have KX : Hid (l[5]? = some x) := hx
  clear hr hl h0 hx
  go_enter Tryz.func38, Tryz.ntmps38
  go_wp2_with fail
  go_loopw [9] (fun iv wr => ∃ k : Nat, k ≤ 1 ∧ iv = .int .i64 (k : Nat) ∧ Below w.heap.size w wr) (fun iv _ => 4 - (intOf iv).toNat)
  case atStart => exact ⟨0, by omega, rfl, Below.refl _ _⟩
  case round =>
    obtain ⟨k, hk, rfl, hbw⟩ := hrel
    have HB : Hid (Below w.heap.size w wr) := hbw
    obtain ⟨⟨c0, c1⟩, f1, l1, hlx⟩ := HR.out wr hbw
    clear hbw
    rcases (show k = 0 ∨ k = 1 by omega) with rfl | rfl
    · obtain ⟨b, off, rfl, bl, p0⟩ := hlx.at K0.out
      have i1 : (4 : Int) < (l.length : Int) := by omega
      clear hlx
      go_wp2_with fail
      go_quiet (fail)
      have HBQ : Hid (Below w.heap.size w (wr.drewN nq)) := HB.out.trans ⟨rfl, rfl, rfl, Nat.le_refl _, fun _ _ => rfl⟩
      go_wp2
      go_roundw
      case rel => exact ⟨1, by omega, by go_num, HBQ.out⟩
      case measure => simp [intOf]
    · obtain ⟨b, off, rfl, bl, p0⟩ := hlx.at KX.out
      have i1 : (5 : Int) < (l.length : Int) := by omega
      clear hlx
      have n1 : ¬ ((x : Int) = 0) := by omega
      have n2 : decide ((x : Int) = 0) = false := decide_eq_false n1
      go_wp2_with fail
      go_quiet (fail)
      have HBQ : Hid (Below w.heap.size w (wr.drewN nq)) := HB.out.trans ⟨rfl, rfl, rfl, Nat.le_refl _, fun _ _ => rfl⟩
      go_wp2_with (go_at_call 69; refine (HG.out _ _).mono ?_; rintro e w1 ⟨⟨T, z, rfl, ht⟩, hb⟩; have Y : Hid (IsTold w1 (ec, [(2, 5)]) (.iface T z) ∧ Below w.heap.size w w1) := ⟨ht, btrI HBQ.out hb⟩; clear ht hb)
      case roundEnd =>
        exfalso
        rename_i hq
        simp only [bne_eq_false_iff_eq] at hq
        exact n1 (hq.trans rfl)
      skip
      exact ⟨rfl, ⟨T, z, rfl, Y.out.1⟩, Y.out.2⟩

set_option maxRecDepth 100000 in
set_option maxHeartbeats 4000000 in
theorem sign_4_2 (rb : Nat) (lo : Option Addr) (lc : Nat) (l : List Nat) (ec : Int) (hec : ec ≠ 0) (w : World) (hr : w.heap[rb]? = some (.cells #[.slice lo l.length lc, .int .i64 4] 79 (0, 0))) (hl : HasB w (.slice lo l.length lc) l) (hlen : 8 ≤ l.length) (h0 : l[4]? = some 1) (h1 : l[5]? = some 0) (x : Nat) (hx : l[6]? = some x) (hxn : x ≠ 0) :
    Calls Tryz.prog 38 #[.pointer (some ⟨rb, 0, none⟩), .string { data := #[1, 0, 0, 0] }, .int .i64 ec] w fun e w' => Thrown w' (ec, [(2, 6)]) e ∧ Below w.heap.size w w' := by
  have HRR : Hid (w.heap[rb]? = some (.cells #[.slice lo l.length lc, .int .i64 4] 79 (0, 0))) := hr
  have HR : Hid (∀ wx, Below w.heap.size w wx → (wx.cell? ⟨rb, 0, none⟩ = some (.slice lo l.length lc) ∧ wx.cell? ⟨rb, 1, none⟩ = some (.int .i64 4)) ∧ wx.frozen? ⟨rb, 1, none⟩ = false ∧ rb < wx.heap.size ∧ HasB wx (.slice lo l.length lc) l) := fun wx hx => by
    have q := (hx.block _ (w_lt_get hr)).trans hr
    obtain ⟨q0, q1, q2, q3⟩ := cell2I q
    exact ⟨⟨q0, q1⟩, q3, w_lt_get q, hl.keep hx⟩
  have HG : Hid (∀ (i : Int) wx, Calls Tryz.prog 69 #[.int .i64 i, .int .i64 ec] wx fun e w' => Thrown w' (ec, [(2, i)]) e ∧ Below wx.heap.size wx w') := fun i wx => giveUp_calls i ec hec wx
  have K0 : Hid (l[4]? = some 1) := h0
  have K1 : Hid (l[5]? = some 0) := h1
  have KX : Hid (l[6]? = some x) := hx
  clear hr hl h0 h1 hx
  go_enter Tryz.func38, Tryz.ntmps38
  go_wp2_with fail
  go_loopw [9] (fun iv wr => ∃ k : Nat, k ≤ 2 ∧ iv = .int .i64 (k : Nat) ∧ Below w.heap.size w wr) (fun iv _ => 4 - (intOf iv).toNat)
  case atStart => exact ⟨0, by omega, rfl, Below.refl _ _⟩
  case round =>
    obtain ⟨k, hk, rfl, hbw⟩ := hrel
    have HB : Hid (Below w.heap.size w wr) := hbw
    obtain ⟨⟨c0, c1⟩, f1, l1, hlx⟩ := HR.out wr hbw
    clear hbw
    rcases (show k = 0 ∨ k = 1 ∨ k = 2 by omega) with rfl | rfl | rfl
    · obtain ⟨b, off, rfl, bl, p0⟩ := hlx.at K0.out
      have i1 : (4 : Int) < (l.length : Int) := by omega
      clear hlx
      go_wp2_with fail
      go_quiet (fail)
      have HBQ : Hid (Below w.heap.size w (wr.drewN nq)) := HB.out.trans ⟨rfl, rfl, rfl, Nat.le_refl _, fun _ _ => rfl⟩
      go_wp2
      go_roundw
      case rel => exact ⟨1, by omega, by go_num, HBQ.out⟩
      case measure => simp [intOf]
    · obtain ⟨b, off, rfl, bl, p0⟩ := hlx.at K1.out
      have i1 : (5 : Int) < (l.length : Int) := by omega
      clear hlx
      go_wp2_with fail
      go_quiet (fail)
      have HBQ : Hid (Below w.heap.size w (wr.drewN nq)) := HB.out.trans ⟨rfl, rfl, rfl, Nat.le_refl _, fun _ _ => rfl⟩
      go_wp2
      go_roundw
      case rel => exact ⟨2, by omega, by go_num, HBQ.out⟩
      case measure => simp [intOf]
    · obtain ⟨b, off, rfl, bl, p0⟩ := hlx.at KX.out
      have i1 : (6 : Int) < (l.length : Int) := by omega
      clear hlx
      have n1 : ¬ ((x : Int) = 0) := by omega
      have n2 : decide ((x : Int) = 0) = false := decide_eq_false n1
      go_wp2_with fail
      go_quiet (fail)
      have HBQ : Hid (Below w.heap.size w (wr.drewN nq)) := HB.out.trans ⟨rfl, rfl, rfl, Nat.le_refl _, fun _ _ => rfl⟩
      go_wp2_with (go_at_call 69; refine (HG.out _ _).mono ?_; rintro e w1 ⟨⟨T, z, rfl, ht⟩, hb⟩; have Y : Hid (IsTold w1 (ec, [(2, 6)]) (.iface T z) ∧ Below w.heap.size w w1) := ⟨ht, btrI HBQ.out hb⟩; clear ht hb)
      case roundEnd =>
        exfalso
        rename_i hq
        simp only [bne_eq_false_iff_eq] at hq
        exact n1 (hq.trans rfl)
      skip
      exact ⟨rfl, ⟨T, z, rfl, Y.out.1⟩, Y.out.2⟩

set_option maxRecDepth 100000 in
set_option maxHeartbeats 4000000 in
theorem sign_4_3 (rb : Nat) (lo : Option Addr) (lc : Nat) (l : List Nat) (ec : Int) (hec : ec ≠ 0) (w : World) (hr : w.heap[rb]? = some (.cells #[.slice lo l.length lc, .int .i64 4] 79 (0, 0))) (hl : HasB w (.slice lo l.length lc) l) (hlen : 8 ≤ l.length) (h0 : l[4]? = some 1) (h1 : l[5]? = some 0) (h2 : l[6]? = some 0) (x : Nat) (hx : l[7]? = some x) (hxn : x ≠ 0) :
    Calls Tryz.prog 38 #[.pointer (some ⟨rb, 0, none⟩), .string { data := #[1, 0, 0, 0] }, .int .i64 ec] w fun e w' => Thrown w' (ec, [(2, 7)]) e ∧ Below w.heap.size w w' := by
  have HRR : Hid (w.heap[rb]? = some (.cells #[.slice lo l.length lc, .int .i64 4] 79 (0, 0))) := hr
  have HR : Hid (∀ wx, Below w.heap.size w wx → (wx.cell? ⟨rb, 0, none⟩ = some (.slice lo l.length lc) ∧ wx.cell? ⟨rb, 1, none⟩ = some (.int .i64 4)) ∧ wx.frozen? ⟨rb, 1, none⟩ = false ∧ rb < wx.heap.size ∧ HasB wx (.slice lo l.length lc) l) := fun wx hx => by
    have q := (hx.block _ (w_lt_get hr)).trans hr
    obtain ⟨q0, q1, q2, q3⟩ := cell2I q
    exact ⟨⟨q0, q1⟩, q3, w_lt_get q, hl.keep hx⟩
  have HG : Hid (∀ (i : Int) wx, Calls Tryz.prog 69 #[.int .i64 i, .int .i64 ec] wx fun e w' => Thrown w' (ec, [(2, i)]) e ∧ Below wx.heap.size wx w') := fun i wx => giveUp_calls i ec hec wx
  have K0 : Hid (l[4]? = some 1) := h0
  have K1 : Hid (l[5]? = some 0) := h1
  have K2 : Hid (l[6]? = some 0) := h2
  have KX : Hid (l[7]? = some x) := hx
  clear hr hl h0 h1 h2 hx
  go_enter Tryz.func38, Tryz.ntmps38
  go_wp2_with fail
  go_loopw [9] (fun iv wr => ∃ k : Nat, k ≤ 3 ∧ iv = .int .i64 (k : Nat) ∧ Below w.heap.size w wr) (fun iv _ => 4 - (intOf iv).toNat)
  case atStart => exact ⟨0, by omega, rfl, Below.refl _ _⟩
  case round =>
    obtain ⟨k, hk, rfl, hbw⟩ := hrel
    have HB : Hid (Below w.heap.size w wr) := hbw
    obtain ⟨⟨c0, c1⟩, f1, l1, hlx⟩ := HR.out wr hbw
    clear hbw
    rcases (show k = 0 ∨ k = 1 ∨ k = 2 ∨ k = 3 by omega) with rfl | rfl | rfl | rfl
    · obtain ⟨b, off, rfl, bl, p0⟩ := hlx.at K0.out
      have i1 : (4 : Int) < (l.length : Int) := by omega
      clear hlx
      go_wp2_with fail
      go_quiet (fail)
      have HBQ : Hid (Below w.heap.size w (wr.drewN nq)) := HB.out.trans ⟨rfl, rfl, rfl, Nat.le_refl _, fun _ _ => rfl⟩
      go_wp2
      go_roundw
      case rel => exact ⟨1, by omega, by go_num, HBQ.out⟩
      case measure => simp [intOf]
    · obtain ⟨b, off, rfl, bl, p0⟩ := hlx.at K1.out
      have i1 : (5 : Int) < (l.length : Int) := by omega
      clear hlx
      go_wp2_with fail
      go_quiet (fail)
      have HBQ : Hid (Below w.heap.size w (wr.drewN nq)) := HB.out.trans ⟨rfl, rfl, rfl, Nat.le_refl _, fun _ _ => rfl⟩
      go_wp2
      go_roundw
      case rel => exact ⟨2, by omega, by go_num, HBQ.out⟩
      case measure => simp [intOf]
    · obtain ⟨b, off, rfl, bl, p0⟩ := hlx.at K2.out
      have i1 : (6 : Int) < (l.length : Int) := by omega
      clear hlx
      go_wp2_with fail
      go_quiet (fail)
      have HBQ : Hid (Below w.heap.size w (wr.drewN nq)) := HB.out.trans ⟨rfl, rfl, rfl, Nat.le_refl _, fun _ _ => rfl⟩
      go_wp2
      go_roundw
      case rel => exact ⟨3, by omega, by go_num, HBQ.out⟩
      case measure => simp [intOf]
    · obtain ⟨b, off, rfl, bl, p0⟩ := hlx.at KX.out
      have i1 : (7 : Int) < (l.length : Int) := by omega
      clear hlx
      have n1 : ¬ ((x : Int) = 0) := by omega
      have n2 : decide ((x : Int) = 0) = false := decide_eq_false n1
      go_wp2_with fail
      go_quiet (fail)
      have HBQ : Hid (Below w.heap.size w (wr.drewN nq)) := HB.out.trans ⟨rfl, rfl, rfl, Nat.le_refl _, fun _ _ => rfl⟩
      go_wp2_with (go_at_call 69; refine (HG.out _ _).mono ?_; rintro e w1 ⟨⟨T, z, rfl, ht⟩, hb⟩; have Y : Hid (IsTold w1 (ec, [(2, 7)]) (.iface T z) ∧ Below w.heap.size w w1) := ⟨ht, btrI HBQ.out hb⟩; clear ht hb)
      case roundEnd =>
        exfalso
        rename_i hq
        simp only [bne_eq_false_iff_eq] at hq
        exact n1 (hq.trans rfl)
      skip
      exact ⟨rfl, ⟨T, z, rfl, Y.out.1⟩, Y.out.2⟩

set_option maxRecDepth 100000 in
set_option maxHeartbeats 4000000 in
theorem sign_4_4 (rb : Nat) (lo : Option Addr) (lc : Nat) (l : List Nat) (ec : Int) (hec : ec ≠ 0) (w : World) (hr : w.heap[rb]? = some (.cells #[.slice lo l.length lc, .int .i64 4] 79 (0, 0))) (hl : HasB w (.slice lo l.length lc) l) (hlen : 8 ≤ l.length) (h0 : l[4]? = some 1) (h1 : l[5]? = some 0) (h2 : l[6]? = some 0) (h3 : l[7]? = some 0) :
    Calls Tryz.prog 38 #[.pointer (some ⟨rb, 0, none⟩), .string { data := #[1, 0, 0, 0] }, .int .i64 ec] w fun e w' => e = .returned (.tuple #[]) ∧ RdTo w w' rb lo l.length lc 8 := by
  have HRR : Hid (w.heap[rb]? = some (.cells #[.slice lo l.length lc, .int .i64 4] 79 (0, 0))) := hr
  have HR : Hid (∀ wx, Below w.heap.size w wx → (wx.cell? ⟨rb, 0, none⟩ = some (.slice lo l.length lc) ∧ wx.cell? ⟨rb, 1, none⟩ = some (.int .i64 4)) ∧ wx.frozen? ⟨rb, 1, none⟩ = false ∧ rb < wx.heap.size ∧ HasB wx (.slice lo l.length lc) l) := fun wx hx => by
    have q := (hx.block _ (w_lt_get hr)).trans hr
    obtain ⟨q0, q1, q2, q3⟩ := cell2I q
    exact ⟨⟨q0, q1⟩, q3, w_lt_get q, hl.keep hx⟩
  have HG : Hid (∀ (i : Int) wx, Calls Tryz.prog 69 #[.int .i64 i, .int .i64 ec] wx fun e w' => Thrown w' (ec, [(2, i)]) e ∧ Below wx.heap.size wx w') := fun i wx => giveUp_calls i ec hec wx
  have K0 : Hid (l[4]? = some 1) := h0
  have K1 : Hid (l[5]? = some 0) := h1
  have K2 : Hid (l[6]? = some 0) := h2
  have K3 : Hid (l[7]? = some 0) := h3
  clear hr hl h0 h1 h2 h3
  go_enter Tryz.func38, Tryz.ntmps38
  go_wp2_with fail
  go_loopw [9] (fun iv wr => ∃ k : Nat, k ≤ 4 ∧ iv = .int .i64 (k : Nat) ∧ Below w.heap.size w wr) (fun iv _ => 4 - (intOf iv).toNat)
  case atStart => exact ⟨0, by omega, rfl, Below.refl _ _⟩
  case round =>
    obtain ⟨k, hk, rfl, hbw⟩ := hrel
    have HB : Hid (Below w.heap.size w wr) := hbw
    obtain ⟨⟨c0, c1⟩, f1, l1, hlx⟩ := HR.out wr hbw
    clear hbw
    rcases (show k = 0 ∨ k = 1 ∨ k = 2 ∨ k = 3 ∨ k = 4 by omega) with rfl | rfl | rfl | rfl | rfl
    · obtain ⟨b, off, rfl, bl, p0⟩ := hlx.at K0.out
      have i1 : (4 : Int) < (l.length : Int) := by omega
      clear hlx
      go_wp2_with fail
      go_quiet (fail)
      have HBQ : Hid (Below w.heap.size w (wr.drewN nq)) := HB.out.trans ⟨rfl, rfl, rfl, Nat.le_refl _, fun _ _ => rfl⟩
      go_wp2
      go_roundw
      case rel => exact ⟨1, by omega, by go_num, HBQ.out⟩
      case measure => simp [intOf]
    · obtain ⟨b, off, rfl, bl, p0⟩ := hlx.at K1.out
      have i1 : (5 : Int) < (l.length : Int) := by omega
      clear hlx
      go_wp2_with fail
      go_quiet (fail)
      have HBQ : Hid (Below w.heap.size w (wr.drewN nq)) := HB.out.trans ⟨rfl, rfl, rfl, Nat.le_refl _, fun _ _ => rfl⟩
      go_wp2
      go_roundw
      case rel => exact ⟨2, by omega, by go_num, HBQ.out⟩
      case measure => simp [intOf]
    · obtain ⟨b, off, rfl, bl, p0⟩ := hlx.at K2.out
      have i1 : (6 : Int) < (l.length : Int) := by omega
      clear hlx
      go_wp2_with fail
      go_quiet (fail)
      have HBQ : Hid (Below w.heap.size w (wr.drewN nq)) := HB.out.trans ⟨rfl, rfl, rfl, Nat.le_refl _, fun _ _ => rfl⟩
      go_wp2
      go_roundw
      case rel => exact ⟨3, by omega, by go_num, HBQ.out⟩
      case measure => simp [intOf]
    · obtain ⟨b, off, rfl, bl, p0⟩ := hlx.at K3.out
      have i1 : (7 : Int) < (l.length : Int) := by omega
      clear hlx
      go_wp2_with fail
      go_quiet (fail)
      have HBQ : Hid (Below w.heap.size w (wr.drewN nq)) := HB.out.trans ⟨rfl, rfl, rfl, Nat.le_refl _, fun _ _ => rfl⟩
      go_wp2
      go_roundw
      case rel => exact ⟨4, by omega, by go_num, HBQ.out⟩
      case measure => simp [intOf]
    · clear hlx
      have HQ : Hid (RdTo w (wr.setCell ⟨rb, 1, none⟩ (.int .i64 8)) rb lo l.length lc 8) := rdTo_set HRR.out HB.out
      go_wp2
      go_end0
      exact ⟨rfl, HQ.out⟩
end Go.Proofs.YtamedcnjanichabGreatDoor

namespace Go.Proofs.YtamedcnjanichabGreatDoor
open Go.RowKit Go.Extern Cr

attribute [local go_sem] Oper.semAt_some

set_option maxRecDepth 100000 in
set_option maxHeartbeats 2000000 in
theorem count_bad (rb a x most : Nat) (lo : Option Addr) (lc : Nat) (l : List Nat) (w : World) (hr : w.heap[rb]? = some (.cells #[.slice lo l.length lc, .int .i64 (a : Int)] 79 (0, 0))) (hl : HasB w (.slice lo l.length lc) l) (hb : Bts l) (hm : l.length ≤ 281474976710656) (hcap : l.length ≤ lc) (hfit : a + 4 * 1 ≤ l.length) (hx : wordsOf l a 1 = [x]) (hxm : most < x) (hx4 : x < 4294967296) (ha9 : a ≤ 1073741824) :
    Calls Tryz.prog 39 #[.pointer (some ⟨rb, 0, none⟩), .int .i64 (most : Int)] w fun e w' => Thrown w' (9, [(2, (a : Int))]) e ∧ Below rb w w' := by
  have HW : Hid (Calls Tryz.prog 42 #[.pointer (some ⟨rb, 0, none⟩), .int .i64 1] w fun e w' => ∃ g cap, e = .returned (.slice (some ⟨g, 0, none⟩) 1 cap) ∧ RdTo w w' rb lo l.length lc ((a : Int) + 4 * 1) ∧ g < w'.heap.size ∧ w'.cell? ⟨g, 0, none⟩ = some (.int .u32 (x : Int))) := by
    refine (rWords_far rb a 1 lo lc l w hr hl hb hm hcap hfit ⟨ha9, by decide⟩).mono ?_
    rintro e w' ⟨mo, mc, rfl, h1, h2⟩
    rw [hx] at h2
    obtain ⟨g, cap, e, h3, h4⟩ := row_one h2
    injection e with e1 e2 e3
    subst e1 e3
    exact ⟨g, mc, rfl, h1, h3, h4⟩
  have HG : Hid (∀ wx, Calls Tryz.prog 69 #[.int .i64 (a : Int), .int .i64 9] wx fun e w' => Thrown w' (9, [(2, (a : Int))]) e ∧ Below wx.heap.size wx w') := fun wx => giveUp_calls (a : Int) 9 (by decide) wx
  obtain ⟨c0, c1, _, _⟩ := cell2I hr
  have l1 := w_lt_get hr
  have HL : Hid (rb < w.heap.size) := l1
  have d1 : decide ((most : Int) < (x : Int)) = true := decide_eq_true (by omega)
  have d2 : decide (most < x) = true := decide_eq_true (by omega)
  clear hr hl hb hx
  go_enter Tryz.func39, Tryz.ntmps39
  go_wp2_with fail
  refine HW.out.mono ?_
  rintro e y ⟨g, cap, rfl, hrd, hg, hc⟩
  have Y : Hid (RdTo w y rb lo l.length lc ((a : Int) + 4 * 1)) := hrd
  clear hrd c0 c1 l1
  go_wp2_with (go_at_call 69; refine (HG.out _).mono ?_; rintro e w1 ⟨⟨T, z, rfl, ht⟩, hb⟩; have Z : Hid (IsTold w1 (9, [(2, (a : Int))]) (.iface T z) ∧ Below rb w w1) := ⟨ht, Y.out.bel.trans (hb.mono (by have := w_lt_get Y.out.box; omega))⟩; clear ht hb)
  exact ⟨rfl, ⟨T, z, rfl, Z.out.1⟩, Z.out.2⟩

set_option maxRecDepth 100000 in
set_option maxHeartbeats 2000000 in
theorem end_short (rb : Nat) (lo : Option Addr) (lc n : Nat) (m a : Int) (w : World) (hr : w.heap[rb]? = some (.cells #[.slice lo n lc, .int .i64 a] 79 (0, 0))) (hn : (n : Int) < m) :
    Calls Tryz.prog 40 #[.pointer (some ⟨rb, 0, none⟩), .int .i64 m] w fun e w' => Thrown w' (10, [(2, (n : Int))]) e ∧ Below w.heap.size w w' := by
  have HRE : Hid (type_of% (reach_bad rb lo lc n m a w hr hn)) := reach_bad rb lo lc n m a w hr hn
  clear hr
  go_enter Tryz.func40, Tryz.ntmps40
  go_wp2_with (go_at_call 37; refine HRE.out.mono ?_; rintro e w1 ⟨⟨T, z, rfl, ht⟩, hb⟩; have Z : Hid (IsTold w1 (10, [(2, (n : Int))]) (.iface T z) ∧ Below w.heap.size w w1) := ⟨ht, hb⟩; clear ht hb)
  exact ⟨rfl, ⟨T, z, rfl, Z.out.1⟩, Z.out.2⟩

set_option maxRecDepth 100000 in
set_option maxHeartbeats 2000000 in
theorem end_extra (rb : Nat) (lo : Option Addr) (lc n m : Nat) (a : Int) (w : World) (hr : w.heap[rb]? = some (.cells #[.slice lo n lc, .int .i64 a] 79 (0, 0))) (hn : m < n) :
    Calls Tryz.prog 40 #[.pointer (some ⟨rb, 0, none⟩), .int .i64 (m : Int)] w fun e w' => Thrown w' (6, [(2, (m : Int))]) e ∧ Below w.heap.size w w' := by
  have HRE : Hid (type_of% (reach_good rb lo lc n m a w hr (Nat.le_of_lt hn))) := reach_good rb lo lc n m a w hr (Nat.le_of_lt hn)
  have HG : Hid (∀ wx, Calls Tryz.prog 69 #[.int .i64 (m : Int), .int .i64 6] wx fun e w' => Thrown w' (6, [(2, (m : Int))]) e ∧ Below wx.heap.size wx w') := fun wx => giveUp_calls (m : Int) 6 (by decide) wx
  obtain ⟨c0, c1, _, _⟩ := cell2I hr
  have l1 := w_lt_get hr
  have d1 : (n : Int) > (m : Int) := by omega
  clear hr
  go_enter Tryz.func40, Tryz.ntmps40
  go_wp2_with fail
  refine HRE.out.mono ?_
  rintro e y ⟨rfl, hy⟩
  have hy' := hy.symm
  clear hy
  subst hy'
  go_wp2_with (go_at_call 69; refine (HG.out _).mono ?_; rintro e w1 ⟨⟨T, z, rfl, ht⟩, hb⟩; have Z : Hid (IsTold w1 (6, [(2, (m : Int))]) (.iface T z) ∧ Below w.heap.size w w1) := ⟨ht, hb⟩; clear ht hb)
  exact ⟨rfl, ⟨T, z, rfl, Z.out.1⟩, Z.out.2⟩

set_option maxRecDepth 100000 in
set_option maxHeartbeats 2000000 in
theorem end_sum (rb : Nat) (lo : Option Addr) (lc : Nat) (l : List Nat) (a : Int) (w : World) (hr : w.heap[rb]? = some (.cells #[.slice lo l.length lc, .int .i64 a] 79 (0, 0))) (hl : HasB w (.slice lo l.length lc) l) (hb : Bts l) (hm : l.length ≤ 1073741824) (hcap : l.length ≤ lc) (hfit : fits l = false) (hf : HasFours w) (hg : 1 < w.heap.size) :
    Calls Tryz.prog 40 #[.pointer (some ⟨rb, 0, none⟩), .int .i64 (l.length : Int)] w fun e w' => Thrown w' (13, [(2, (l.length : Int) - 4)]) e ∧ Below w.heap.size w w' := by
  have HRE : Hid (type_of% (reach_good rb lo lc l.length l.length a w hr (Nat.le_refl _))) := reach_good rb lo lc l.length l.length a w hr (Nat.le_refl _)
  have HFT : Hid (Calls Tryz.prog 70 #[.slice lo l.length lc] w fun e w' => e = .returned (.bool false) ∧ Below w.heap.size w w') := by
    have q := cFits_calls lo lc l w hf hg hl hb (by omega) hcap
    rw [hfit] at q
    exact q
  have HG : Hid (∀ wx, Calls Tryz.prog 69 #[.int .i64 ((l.length : Int) - 4), .int .i64 13] wx fun e w' => Thrown w' (13, [(2, (l.length : Int) - 4)]) e ∧ Below wx.heap.size wx w') := fun wx => giveUp_calls ((l.length : Int) - 4) 13 (by decide) wx
  obtain ⟨c0, c1, _, _⟩ := cell2I hr
  have l1 := w_lt_get hr
  generalize l.length = n at *
  have ww : IntKind.i64.wrap ((n : Int) - 4) = (n : Int) - 4 := by rw [IntKind.wrap_i64]; omega
  clear hr hl hb hf
  go_enter Tryz.func40, Tryz.ntmps40
  go_wp2_with fail
  refine HRE.out.mono ?_
  rintro e y ⟨rfl, hy⟩
  have hy' := hy.symm
  clear hy
  subst hy'
  go_wp2_with fail
  refine HFT.out.mono ?_
  rintro e y1 ⟨rfl, hb1⟩
  have Y1 : Hid (Below w.heap.size w y1) := hb1
  clear hb1
  go_wp2_with (go_at_call 69; refine (HG.out _).mono ?_; rintro e w1 ⟨⟨T, z, rfl, ht⟩, hb⟩; have Z : Hid (IsTold w1 (13, [(2, (n : Int) - 4)]) (.iface T z) ∧ Below w.heap.size w w1) := ⟨ht, btrI Y1.out hb⟩; clear ht hb)
  exact ⟨rfl, ⟨T, z, rfl, Z.out.1⟩, Z.out.2⟩
end Go.Proofs.YtamedcnjanichabGreatDoor

namespace Go.Proofs.YtamedcnjanichabGreatDoor
open Go.RowKit Go.Extern Cr

attribute [local go_sem] Oper.semAt_some

def cN (l : List Nat) : Nat := num (piece l 8 4)
def cU (l : List Nat) : Nat := num (piece l 12 4)
def cD (l : List Nat) : Nat := num (piece l 16 4)
def szM (l : List Nat) : Nat := 32 + 12 * cN l + 20 * (cU l + cD l)
/-- the error of bytes by their head, their counts and their sum. -/
def fE (l : List Nat) : Int × List (Int × Int) :=
  if l.length < 32 then (10, [(2, (l.length : Int))]) else
  if l.getD 0 0 ≠ 86 then (11, [(2, 0)]) else
  if l.getD 1 0 ≠ 68 then (11, [(2, 1)]) else
  if l.getD 2 0 ≠ 67 then (11, [(2, 2)]) else
  if l.getD 3 0 ≠ 84 then (11, [(2, 3)]) else
  if l.getD 4 0 ≠ 1 then (12, [(2, 4)]) else
  if l.getD 5 0 ≠ 0 then (12, [(2, 5)]) else
  if l.getD 6 0 ≠ 0 then (12, [(2, 6)]) else
  if l.getD 7 0 ≠ 0 then (12, [(2, 7)]) else
  if 65536 < cN l then (9, [(2, 8)]) else
  if 1048576 < cU l then (9, [(2, 12)]) else
  if 1048576 < cD l then (9, [(2, 16)]) else
  if l.length < szM l then (10, [(2, (l.length : Int))]) else
  if szM l < l.length then (6, [(2, (szM l : Int))]) else
  if fits l = false then (13, [(2, (l.length : Int) - 4)]) else (0, [])
theorem get_of {l : List Nat} {i : Nat} (h : i < l.length) : l[i]? = some (l.getD i 0) := by
  rw [List.getElem?_eq_getElem h, List.getD_eq_getElem?_getD, List.getElem?_eq_getElem h]
  rfl

set_option maxRecDepth 100000 in
set_option maxHeartbeats 4000000 in
theorem hierOf_bad (lo : Option Addr) (lc : Nat) (l : List Nat) (w : World) (hl : HasB w (.slice lo l.length lc) l) (hcap : l.length ≤ lc) (hb : Bts l) (hm : l.length ≤ 281474976710656) (hf : HasFours w) (hg : 1 < w.heap.size) (hne : fE l ≠ (0, [])) :
    Calls Tryz.prog 18 #[.slice lo l.length lc] w fun e w' => Thrown w' (fE l) e ∧ Below w.heap.size w w' := by
  have R1 : Hid (∀ wx, RS w wx lo l.length lc 0 → Calls Tryz.prog 37 #[.pointer (some ⟨w.heap.size + 1, 0, none⟩), .int .i64 32] wx fun e w' => (e = .returned (.tuple #[]) ∧ RS w w' lo l.length lc 0 ∧ 32 ≤ l.length) ∨ (Thrown w' (fE l) e ∧ Below w.heap.size w w')) := fun wx r => by
    by_cases h : l.length < 32
    · have hE : fE l = (10, [(2, (l.length : Int))]) := by unfold fE; rw [if_pos h]
      refine (reach_bad _ lo lc l.length 32 0 wx r.box (by omega)).mono ?_
      rintro e w' ⟨ht, hb2⟩
      rw [hE]
      exact Or.inr ⟨ht, btrI r.bel hb2⟩
    · refine (reach_good _ lo lc l.length 32 0 wx r.box (by omega)).mono ?_
      rintro e w' ⟨rfl, rfl⟩
      exact Or.inl ⟨rfl, r, by omega⟩
  have S1 : Hid (∀ wx, RS w wx lo l.length lc 0 → (32 ≤ l.length) → Calls Tryz.prog 38 #[.pointer (some ⟨w.heap.size + 1, 0, none⟩), .string { data := #[86, 68, 67, 84] }, .int .i64 11] wx fun e w' => (e = .returned (.tuple #[]) ∧ RS w w' lo l.length lc 4 ∧ l.getD 0 0 = 86 ∧ l.getD 1 0 = 68 ∧ l.getD 2 0 = 67 ∧ l.getD 3 0 = 84) ∨ (Thrown w' (fE l) e ∧ Below w.heap.size w w')) := fun wx r h32 => by
    by_cases k0 : l.getD 0 0 = 86
    case neg =>
      have hE : fE l = (11, [(2, 0)]) := by unfold fE; rw [if_neg (by omega), if_pos k0]
      refine (sign_0_0 _ lo lc l 11 (by decide) wx r.box (hl.keep r.bel) (by omega)  (l.getD 0 0) (get_of (by omega)) k0).mono ?_
      rintro e w' ⟨ht, hb2⟩
      rw [hE]
      exact Or.inr ⟨ht, btrI r.bel hb2⟩
    by_cases k1 : l.getD 1 0 = 68
    case neg =>
      have hE : fE l = (11, [(2, 1)]) := by unfold fE; rw [if_neg (by omega), if_neg (by rw [k0]; decide), if_pos k1]
      refine (sign_0_1 _ lo lc l 11 (by decide) wx r.box (hl.keep r.bel) (by omega) (by rw [← k0]; exact get_of (by omega)) (l.getD 1 0) (get_of (by omega)) k1).mono ?_
      rintro e w' ⟨ht, hb2⟩
      rw [hE]
      exact Or.inr ⟨ht, btrI r.bel hb2⟩
    by_cases k2 : l.getD 2 0 = 67
    case neg =>
      have hE : fE l = (11, [(2, 2)]) := by unfold fE; rw [if_neg (by omega), if_neg (by rw [k0]; decide), if_neg (by rw [k1]; decide), if_pos k2]
      refine (sign_0_2 _ lo lc l 11 (by decide) wx r.box (hl.keep r.bel) (by omega) (by rw [← k0]; exact get_of (by omega)) (by rw [← k1]; exact get_of (by omega)) (l.getD 2 0) (get_of (by omega)) k2).mono ?_
      rintro e w' ⟨ht, hb2⟩
      rw [hE]
      exact Or.inr ⟨ht, btrI r.bel hb2⟩
    by_cases k3 : l.getD 3 0 = 84
    case neg =>
      have hE : fE l = (11, [(2, 3)]) := by unfold fE; rw [if_neg (by omega), if_neg (by rw [k0]; decide), if_neg (by rw [k1]; decide), if_neg (by rw [k2]; decide), if_pos k3]
      refine (sign_0_3 _ lo lc l 11 (by decide) wx r.box (hl.keep r.bel) (by omega) (by rw [← k0]; exact get_of (by omega)) (by rw [← k1]; exact get_of (by omega)) (by rw [← k2]; exact get_of (by omega)) (l.getD 3 0) (get_of (by omega)) k3).mono ?_
      rintro e w' ⟨ht, hb2⟩
      rw [hE]
      exact Or.inr ⟨ht, btrI r.bel hb2⟩
    refine (sign_0_4 _ lo lc l 11 (by decide) wx r.box (hl.keep r.bel) (by omega) (by rw [← k0]; exact get_of (by omega)) (by rw [← k1]; exact get_of (by omega)) (by rw [← k2]; exact get_of (by omega)) (by rw [← k3]; exact get_of (by omega))).mono ?_
    rintro e w' ⟨rfl, q⟩
    exact Or.inl ⟨rfl, r.to q rfl, k0, k1, k2, k3⟩
  have S2 : Hid (∀ wx, RS w wx lo l.length lc 4 → (32 ≤ l.length) → l.getD 0 0 = 86 → l.getD 1 0 = 68 → l.getD 2 0 = 67 → l.getD 3 0 = 84 → Calls Tryz.prog 38 #[.pointer (some ⟨w.heap.size + 1, 0, none⟩), .string { data := #[1, 0, 0, 0] }, .int .i64 12] wx fun e w' => (e = .returned (.tuple #[]) ∧ RS w w' lo l.length lc ((8 : Nat) : Int) ∧ l.getD 4 0 = 1 ∧ l.getD 5 0 = 0 ∧ l.getD 6 0 = 0 ∧ l.getD 7 0 = 0) ∨ (Thrown w' (fE l) e ∧ Below w.heap.size w w')) := fun wx r h32 k0 k1 k2 k3 => by
    by_cases k4 : l.getD 4 0 = 1
    case neg =>
      have hE : fE l = (12, [(2, 4)]) := by unfold fE; rw [if_neg (by omega), if_neg (by rw [k0]; decide), if_neg (by rw [k1]; decide), if_neg (by rw [k2]; decide), if_neg (by rw [k3]; decide), if_pos k4]
      refine (sign_4_0 _ lo lc l 12 (by decide) wx r.box (hl.keep r.bel) (by omega)  (l.getD 4 0) (get_of (by omega)) k4).mono ?_
      rintro e w' ⟨ht, hb2⟩
      rw [hE]
      exact Or.inr ⟨ht, btrI r.bel hb2⟩
    by_cases k5 : l.getD 5 0 = 0
    case neg =>
      have hE : fE l = (12, [(2, 5)]) := by unfold fE; rw [if_neg (by omega), if_neg (by rw [k0]; decide), if_neg (by rw [k1]; decide), if_neg (by rw [k2]; decide), if_neg (by rw [k3]; decide), if_neg (by rw [k4]; decide), if_pos k5]
      refine (sign_4_1 _ lo lc l 12 (by decide) wx r.box (hl.keep r.bel) (by omega) (by rw [← k4]; exact get_of (by omega)) (l.getD 5 0) (get_of (by omega)) k5).mono ?_
      rintro e w' ⟨ht, hb2⟩
      rw [hE]
      exact Or.inr ⟨ht, btrI r.bel hb2⟩
    by_cases k6 : l.getD 6 0 = 0
    case neg =>
      have hE : fE l = (12, [(2, 6)]) := by unfold fE; rw [if_neg (by omega), if_neg (by rw [k0]; decide), if_neg (by rw [k1]; decide), if_neg (by rw [k2]; decide), if_neg (by rw [k3]; decide), if_neg (by rw [k4]; decide), if_neg (by rw [k5]; decide), if_pos k6]
      refine (sign_4_2 _ lo lc l 12 (by decide) wx r.box (hl.keep r.bel) (by omega) (by rw [← k4]; exact get_of (by omega)) (by rw [← k5]; exact get_of (by omega)) (l.getD 6 0) (get_of (by omega)) k6).mono ?_
      rintro e w' ⟨ht, hb2⟩
      rw [hE]
      exact Or.inr ⟨ht, btrI r.bel hb2⟩
    by_cases k7 : l.getD 7 0 = 0
    case neg =>
      have hE : fE l = (12, [(2, 7)]) := by unfold fE; rw [if_neg (by omega), if_neg (by rw [k0]; decide), if_neg (by rw [k1]; decide), if_neg (by rw [k2]; decide), if_neg (by rw [k3]; decide), if_neg (by rw [k4]; decide), if_neg (by rw [k5]; decide), if_neg (by rw [k6]; decide), if_pos k7]
      refine (sign_4_3 _ lo lc l 12 (by decide) wx r.box (hl.keep r.bel) (by omega) (by rw [← k4]; exact get_of (by omega)) (by rw [← k5]; exact get_of (by omega)) (by rw [← k6]; exact get_of (by omega)) (l.getD 7 0) (get_of (by omega)) k7).mono ?_
      rintro e w' ⟨ht, hb2⟩
      rw [hE]
      exact Or.inr ⟨ht, btrI r.bel hb2⟩
    refine (sign_4_4 _ lo lc l 12 (by decide) wx r.box (hl.keep r.bel) (by omega) (by rw [← k4]; exact get_of (by omega)) (by rw [← k5]; exact get_of (by omega)) (by rw [← k6]; exact get_of (by omega)) (by rw [← k7]; exact get_of (by omega))).mono ?_
    rintro e w' ⟨rfl, q⟩
    exact Or.inl ⟨rfl, r.to q rfl, k4, k5, k6, k7⟩
  have C1 : Hid (∀ wx, RS w wx lo l.length lc ((8 : Nat) : Int) → (32 ≤ l.length) → l.getD 0 0 = 86 → l.getD 1 0 = 68 → l.getD 2 0 = 67 → l.getD 3 0 = 84 → l.getD 4 0 = 1 → l.getD 5 0 = 0 → l.getD 6 0 = 0 → l.getD 7 0 = 0 → Calls Tryz.prog 39 #[.pointer (some ⟨w.heap.size + 1, 0, none⟩), .int .i64 65536] wx fun e w' => (e = .returned (.int .i64 (cN l : Int)) ∧ RS w w' lo l.length lc ((12 : Nat) : Int) ∧ cN l ≤ 65536) ∨ (Thrown w' (fE l) e ∧ Below w.heap.size w w')) := fun wx r h32 k0 k1 k2 k3 k4 k5 k6 k7 => by
    have hw : wordsOf l 8 1 = [cN l] := rfl
    by_cases hm1 : 65536 < cN l
    · have hE : fE l = (9, [(2, 8)]) := by unfold fE; rw [if_neg (by omega), if_neg (by rw [k0]; decide), if_neg (by rw [k1]; decide), if_neg (by rw [k2]; decide), if_neg (by rw [k3]; decide), if_neg (by rw [k4]; decide), if_neg (by rw [k5]; decide), if_neg (by rw [k6]; decide), if_neg (by rw [k7]; decide), if_pos hm1]
      refine (count_bad _ 8 (cN l) 65536 lo lc l wx r.box (hl.keep r.bel) hb hm hcap (by omega) hw hm1 (num_4 (piece_bts hb 8 4) (piece_len (by omega))) (by decide)).mono ?_
      rintro e w' ⟨ht, hb2⟩
      rw [hE]
      exact Or.inr ⟨ht, r.bel.trans (hb2.mono (by omega))⟩
    · refine (count_good _ 8 (cN l) 65536 lo lc l wx r.box (hl.keep r.bel) hb hm hcap (by omega) hw (by omega) (by omega) (by decide)).mono ?_
      rintro e w' ⟨rfl, q⟩
      exact Or.inl ⟨rfl, r.to q (by omega), by omega⟩
  have C2 : Hid (∀ wx, RS w wx lo l.length lc ((12 : Nat) : Int) → (32 ≤ l.length) → l.getD 0 0 = 86 → l.getD 1 0 = 68 → l.getD 2 0 = 67 → l.getD 3 0 = 84 → l.getD 4 0 = 1 → l.getD 5 0 = 0 → l.getD 6 0 = 0 → l.getD 7 0 = 0 → cN l ≤ 65536 → Calls Tryz.prog 39 #[.pointer (some ⟨w.heap.size + 1, 0, none⟩), .int .i64 1048576] wx fun e w' => (e = .returned (.int .i64 (cU l : Int)) ∧ RS w w' lo l.length lc ((16 : Nat) : Int) ∧ cU l ≤ 1048576) ∨ (Thrown w' (fE l) e ∧ Below w.heap.size w w')) := fun wx r h32 k0 k1 k2 k3 k4 k5 k6 k7 m0 => by
    have hw : wordsOf l 12 1 = [cU l] := rfl
    by_cases hm1 : 1048576 < cU l
    · have hE : fE l = (9, [(2, 12)]) := by unfold fE; rw [if_neg (by omega), if_neg (by rw [k0]; decide), if_neg (by rw [k1]; decide), if_neg (by rw [k2]; decide), if_neg (by rw [k3]; decide), if_neg (by rw [k4]; decide), if_neg (by rw [k5]; decide), if_neg (by rw [k6]; decide), if_neg (by rw [k7]; decide), if_neg (by omega), if_pos hm1]
      refine (count_bad _ 12 (cU l) 1048576 lo lc l wx r.box (hl.keep r.bel) hb hm hcap (by omega) hw hm1 (num_4 (piece_bts hb 12 4) (piece_len (by omega))) (by decide)).mono ?_
      rintro e w' ⟨ht, hb2⟩
      rw [hE]
      exact Or.inr ⟨ht, r.bel.trans (hb2.mono (by omega))⟩
    · refine (count_good _ 12 (cU l) 1048576 lo lc l wx r.box (hl.keep r.bel) hb hm hcap (by omega) hw (by omega) (by omega) (by decide)).mono ?_
      rintro e w' ⟨rfl, q⟩
      exact Or.inl ⟨rfl, r.to q (by omega), by omega⟩
  have C3 : Hid (∀ wx, RS w wx lo l.length lc ((16 : Nat) : Int) → (32 ≤ l.length) → l.getD 0 0 = 86 → l.getD 1 0 = 68 → l.getD 2 0 = 67 → l.getD 3 0 = 84 → l.getD 4 0 = 1 → l.getD 5 0 = 0 → l.getD 6 0 = 0 → l.getD 7 0 = 0 → cN l ≤ 65536 → cU l ≤ 1048576 → Calls Tryz.prog 39 #[.pointer (some ⟨w.heap.size + 1, 0, none⟩), .int .i64 1048576] wx fun e w' => (e = .returned (.int .i64 (cD l : Int)) ∧ RS w w' lo l.length lc ((20 : Nat) : Int) ∧ cD l ≤ 1048576) ∨ (Thrown w' (fE l) e ∧ Below w.heap.size w w')) := fun wx r h32 k0 k1 k2 k3 k4 k5 k6 k7 m0 m1 => by
    have hw : wordsOf l 16 1 = [cD l] := rfl
    by_cases hm1 : 1048576 < cD l
    · have hE : fE l = (9, [(2, 16)]) := by unfold fE; rw [if_neg (by omega), if_neg (by rw [k0]; decide), if_neg (by rw [k1]; decide), if_neg (by rw [k2]; decide), if_neg (by rw [k3]; decide), if_neg (by rw [k4]; decide), if_neg (by rw [k5]; decide), if_neg (by rw [k6]; decide), if_neg (by rw [k7]; decide), if_neg (by omega), if_neg (by omega), if_pos hm1]
      refine (count_bad _ 16 (cD l) 1048576 lo lc l wx r.box (hl.keep r.bel) hb hm hcap (by omega) hw hm1 (num_4 (piece_bts hb 16 4) (piece_len (by omega))) (by decide)).mono ?_
      rintro e w' ⟨ht, hb2⟩
      rw [hE]
      exact Or.inr ⟨ht, r.bel.trans (hb2.mono (by omega))⟩
    · refine (count_good _ 16 (cD l) 1048576 lo lc l wx r.box (hl.keep r.bel) hb hm hcap (by omega) hw (by omega) (by omega) (by decide)).mono ?_
      rintro e w' ⟨rfl, q⟩
      exact Or.inl ⟨rfl, r.to q (by omega), by omega⟩
  have Z1 : Hid (∀ wx, cN l ≤ 65536 → cU l ≤ 1048576 → cD l ≤ 1048576 → Calls Tryz.prog 41 #[.int .i64 (cN l : Int), .int .i64 (cU l : Int), .int .i64 (cD l : Int)] wx fun e w' => e = .returned (.int .i64 (szM l : Int)) ∧ w' = wx) := fun wx m0 m1 m2 => sizeOf_calls (cN l) (cU l) (cD l) (by omega) (by omega) (by omega) wx
  have E1 : Hid (∀ wx, RS w wx lo l.length lc ((20 : Nat) : Int) → (32 ≤ l.length) → l.getD 0 0 = 86 → l.getD 1 0 = 68 → l.getD 2 0 = 67 → l.getD 3 0 = 84 → l.getD 4 0 = 1 → l.getD 5 0 = 0 → l.getD 6 0 = 0 → l.getD 7 0 = 0 → cN l ≤ 65536 → cU l ≤ 1048576 → cD l ≤ 1048576 → Calls Tryz.prog 40 #[.pointer (some ⟨w.heap.size + 1, 0, none⟩), .int .i64 (szM l : Int)] wx fun e w' => (Thrown w' (fE l) e ∧ Below w.heap.size w w')) := fun wx r h32 k0 k1 k2 k3 k4 k5 k6 k7 m0 m1 m2 => by
    by_cases n1 : l.length < szM l
    · have hE : fE l = (10, [(2, (l.length : Int))]) := by unfold fE; rw [if_neg (by omega), if_neg (by rw [k0]; decide), if_neg (by rw [k1]; decide), if_neg (by rw [k2]; decide), if_neg (by rw [k3]; decide), if_neg (by rw [k4]; decide), if_neg (by rw [k5]; decide), if_neg (by rw [k6]; decide), if_neg (by rw [k7]; decide), if_neg (by omega), if_neg (by omega), if_neg (by omega), if_pos n1]
      refine (end_short _ lo lc l.length (szM l : Int) _ wx r.box (by omega)).mono ?_
      rintro e w' ⟨ht, hb2⟩
      rw [hE]
      exact ⟨ht, btrI r.bel hb2⟩
    by_cases n2 : szM l < l.length
    · have hE : fE l = (6, [(2, (szM l : Int))]) := by unfold fE; rw [if_neg (by omega), if_neg (by rw [k0]; decide), if_neg (by rw [k1]; decide), if_neg (by rw [k2]; decide), if_neg (by rw [k3]; decide), if_neg (by rw [k4]; decide), if_neg (by rw [k5]; decide), if_neg (by rw [k6]; decide), if_neg (by rw [k7]; decide), if_neg (by omega), if_neg (by omega), if_neg (by omega), if_neg n1, if_pos n2]
      refine (end_extra _ lo lc l.length (szM l) _ wx r.box n2).mono ?_
      rintro e w' ⟨ht, hb2⟩
      rw [hE]
      exact ⟨ht, btrI r.bel hb2⟩
    cases hft : fits l with
    | false =>
      have hE : fE l = (13, [(2, (l.length : Int) - 4)]) := by unfold fE; rw [if_neg (by omega), if_neg (by rw [k0]; decide), if_neg (by rw [k1]; decide), if_neg (by rw [k2]; decide), if_neg (by rw [k3]; decide), if_neg (by rw [k4]; decide), if_neg (by rw [k5]; decide), if_neg (by rw [k6]; decide), if_neg (by rw [k7]; decide), if_neg (by omega), if_neg (by omega), if_neg (by omega), if_neg n1, if_neg n2, if_pos hft]
      have q := end_sum _ lo lc l _ wx r.box (hl.keep r.bel) hb (by have e : szM l = 32 + 12 * cN l + 20 * (cU l + cD l) := rfl; omega) hcap hft (fours_keep hf hg r.bel) (Nat.lt_of_lt_of_le hg r.bel.size)
      rw [show l.length = szM l by omega] at q
      refine q.mono ?_
      rintro e w' ⟨ht, hb2⟩
      rw [hE, show l.length = szM l by omega]
      exact ⟨ht, btrI r.bel hb2⟩
    | true =>
      exact absurd (by unfold fE; rw [if_neg (by omega), if_neg (by rw [k0]; decide), if_neg (by rw [k1]; decide), if_neg (by rw [k2]; decide), if_neg (by rw [k3]; decide), if_neg (by rw [k4]; decide), if_neg (by rw [k5]; decide), if_neg (by rw [k6]; decide), if_neg (by rw [k7]; decide), if_neg (by omega), if_neg (by omega), if_neg (by omega), if_neg n1, if_neg n2, if_neg (by rw [hft]; decide)]) hne
  obtain ⟨W0, hW0⟩ : ∃ W0, (w.alloc (.cells #[.slice none 0 0, .slice none 0 0, .slice none 0 0, .slice none 0 0, .slice none 0 0] 25)).alloc (.cells #[.slice lo l.length lc, .int .i64 0] 79) = W0 := ⟨_, rfl⟩
  have Y0 : Hid (RS w W0 lo l.length lc 0) := by
    obtain ⟨g0, g1, g2⟩ := two_newI w (.cells #[.slice none 0 0, .slice none 0 0, .slice none 0 0, .slice none 0 0, .slice none 0 0] 25) (.cells #[.slice lo l.length lc, .int .i64 0] 79)
    rw [hW0] at g0 g1 g2
    exact ⟨g0, g1, g2⟩
  have HW0 : Hid ((w.alloc (.cells #[.slice none 0 0, .slice none 0 0, .slice none 0 0, .slice none 0 0, .slice none 0 0] 25)).alloc (.cells #[.slice lo l.length lc, .int .i64 0] 79) = W0) := hW0
  clear hb hW0 hl hf hg hne
  generalize szM l = SZ at *
  go_enter Tryz.func18, Tryz.ntmps18
  go_upto_region 2 with fail
  rw [HW0.out]
  go_wp2_with fail
  refine (R1.out _ Y0.out).mono ?_
  rintro e y1 (⟨rfl, r, h32⟩ | ⟨⟨T, z, rfl, ht⟩, hb⟩)
  case inr =>
    have Z : Hid (IsTold y1 (fE l) (.iface T z) ∧ Below w.heap.size w y1) := ⟨ht, hb⟩
    clear ht hb
    go_wp2
    exact ⟨rfl, ⟨T, z, rfl, Z.out.1⟩, Z.out.2⟩
  have Y1 : Hid (type_of% r) := r
  clear r
  go_wp2_with fail
  refine (S1.out _ Y1.out h32).mono ?_
  rintro e y2 (⟨rfl, r, k0, k1, k2, k3⟩ | ⟨⟨T, z, rfl, ht⟩, hb⟩)
  case inr =>
    have Z : Hid (IsTold y2 (fE l) (.iface T z) ∧ Below w.heap.size w y2) := ⟨ht, hb⟩
    clear ht hb
    go_wp2
    exact ⟨rfl, ⟨T, z, rfl, Z.out.1⟩, Z.out.2⟩
  have Y2 : Hid (type_of% r) := r
  clear r
  go_wp2_with fail
  refine (S2.out _ Y2.out h32 k0 k1 k2 k3).mono ?_
  rintro e y3 (⟨rfl, r, k4, k5, k6, k7⟩ | ⟨⟨T, z, rfl, ht⟩, hb⟩)
  case inr =>
    have Z : Hid (IsTold y3 (fE l) (.iface T z) ∧ Below w.heap.size w y3) := ⟨ht, hb⟩
    clear ht hb
    go_wp2
    exact ⟨rfl, ⟨T, z, rfl, Z.out.1⟩, Z.out.2⟩
  have Y3 : Hid (type_of% r) := r
  clear r
  go_wp2_with fail
  refine (C1.out _ Y3.out h32 k0 k1 k2 k3 k4 k5 k6 k7).mono ?_
  rintro e y4 (⟨rfl, r, m0⟩ | ⟨⟨T, z, rfl, ht⟩, hb⟩)
  case inr =>
    have Z : Hid (IsTold y4 (fE l) (.iface T z) ∧ Below w.heap.size w y4) := ⟨ht, hb⟩
    clear ht hb
    go_wp2
    exact ⟨rfl, ⟨T, z, rfl, Z.out.1⟩, Z.out.2⟩
  have Y4 : Hid (type_of% r) := r
  clear r
  go_wp2_with fail
  refine (C2.out _ Y4.out h32 k0 k1 k2 k3 k4 k5 k6 k7 m0).mono ?_
  rintro e y5 (⟨rfl, r, m1⟩ | ⟨⟨T, z, rfl, ht⟩, hb⟩)
  case inr =>
    have Z : Hid (IsTold y5 (fE l) (.iface T z) ∧ Below w.heap.size w y5) := ⟨ht, hb⟩
    clear ht hb
    go_wp2
    exact ⟨rfl, ⟨T, z, rfl, Z.out.1⟩, Z.out.2⟩
  have Y5 : Hid (type_of% r) := r
  clear r
  go_wp2_with fail
  refine (C3.out _ Y5.out h32 k0 k1 k2 k3 k4 k5 k6 k7 m0 m1).mono ?_
  rintro e y6 (⟨rfl, r, m2⟩ | ⟨⟨T, z, rfl, ht⟩, hb⟩)
  case inr =>
    have Z : Hid (IsTold y6 (fE l) (.iface T z) ∧ Below w.heap.size w y6) := ⟨ht, hb⟩
    clear ht hb
    go_wp2
    exact ⟨rfl, ⟨T, z, rfl, Z.out.1⟩, Z.out.2⟩
  have Y6 : Hid (type_of% r) := r
  clear r
  go_wp2_with fail
  refine (Z1.out _ m0 m1 m2).mono ?_
  rintro e y7 ⟨rfl, hy⟩
  have hy' := hy.symm
  clear hy
  subst hy'
  go_wp2_with (go_at_call 40; refine (E1.out _ Y6.out h32 k0 k1 k2 k3 k4 k5 k6 k7 m0 m1 m2).mono ?_; rintro e y8 ⟨⟨T, z, rfl, ht⟩, hb⟩; have Z : Hid (IsTold y8 (fE l) (.iface T z) ∧ Below w.heap.size w y8) := ⟨ht, hb⟩; clear ht hb)
  exact ⟨rfl, ⟨T, z, rfl, Z.out.1⟩, Z.out.2⟩
end Go.Proofs.YtamedcnjanichabGreatDoor

namespace Go.Proofs.YtamedcnjanichabGreatDoor
open Go.RowKit Go.Extern Cr

attribute [local go_sem] Oper.semAt_some

theorem one_if {c : Prop} [Decidable c] {x i : Int} {r : Int × List (Int × Int)} (h : r ≠ (0, []) → ∃ a j, r = (a, [(2, j)])) (g : (if c then (x, [(2, i)]) else r) ≠ (0, [])) : ∃ a j, (if c then (x, [(2, i)]) else r) = (a, [(2, j)]) := by
  by_cases hc : c
  · rw [if_pos hc]
    exact ⟨x, i, rfl⟩
  · rw [if_neg hc] at g ⊢
    exact h g
theorem fE_one (l : List Nat) (h : fE l ≠ (0, [])) : ∃ c i, fE l = (c, [(2, i)]) := by
  unfold fE at h ⊢
  exact one_if (one_if (one_if (one_if (one_if (one_if (one_if (one_if (one_if (one_if (one_if (one_if (one_if (one_if (one_if (fun g => absurd rfl g))))))))))))))) h

set_option maxRecDepth 100000 in
set_option maxHeartbeats 4000000 in
theorem decode_thrown (lo : Option Addr) (lc : Nat) (l : List Nat) (w : World) (hl : HasB w (.slice lo l.length lc) l) (hcap : l.length ≤ lc) (hb : Bts l) (hm : l.length ≤ 281474976710656) (hf : HasFours w) (hg : 1 < w.heap.size) (hty : HasType w) (hne : fE l ≠ (0, [])) :
    Calls Tryz.prog 6 #[.slice lo l.length lc] w fun e w' => ∃ T x, e = .returned (.tuple #[.agg #[.slice none 0 0, .slice none 0 0, .slice none 0 0, .slice none 0 0, .slice none 0 0], .iface T x]) ∧ IsTold w' (fE l) (.iface T x) ∧ Below w.heap.size w w' := by
  have hmf : ∀ (fn : Fn) (first cap : Array Value) (w : World), (Instr.makeFunc fn first cap).run Tryz.prog w = .ok (.func fn first cap) w := fun _ _ _ _ => rfl
  obtain ⟨W0, hW0⟩ : ∃ W0, (w.alloc (.cells #[.slice none 0 0, .slice none 0 0, .slice none 0 0, .slice none 0 0, .slice none 0 0] 25)).alloc (.cells #[.nilIface] 30) = W0 := ⟨_, rfl⟩
  have HW0 : Hid ((w.alloc (.cells #[.slice none 0 0, .slice none 0 0, .slice none 0 0, .slice none 0 0, .slice none 0 0] 25)).alloc (.cells #[.nilIface] 30) = W0) := hW0
  obtain ⟨g0, g1, g2⟩ := two_newI w (.cells #[.slice none 0 0, .slice none 0 0, .slice none 0 0, .slice none 0 0, .slice none 0 0] 25) (.cells #[.nilIface] 30)
  rw [hW0] at g0 g1 g2
  have HX : Hid (∀ wx, Below W0.heap.size W0 wx → wx.heap[w.heap.size]? = some (.cells #[.slice none 0 0, .slice none 0 0, .slice none 0 0, .slice none 0 0, .slice none 0 0] 25 (0, 0)) ∧ wx.heap[w.heap.size + 1]? = some (.cells #[.nilIface] 30 (0, 0)) ∧ Below w.heap.size w wx ∧ HasType wx) := fun wx hx => ⟨(hx.block _ (w_lt_get g0)).trans g0, (hx.block _ (w_lt_get g1)).trans g1, g2.trans (hx.mono g2.size), hty.keep (g2.trans (hx.mono g2.size)) hty.pos⟩
  have HH : Hid (Calls Tryz.prog 18 #[.slice lo l.length lc] W0 fun e w' => ∃ b, e = .panicked [{ v := .iface 73 (.pointer (some ⟨b, 0, none⟩)), recovered := false }] ∧ IsTold w' (fE l) (.iface 73 (.pointer (some ⟨b, 0, none⟩))) ∧ Below W0.heap.size W0 w') := by
    refine (hierOf_bad lo lc l W0 (hl.keep g2) hcap hb hm (fours_keep hf hg g2) (Nat.lt_of_lt_of_le hg g2.size) hne).mono ?_
    rintro e w' ⟨⟨T, x, rfl, ht⟩, hb2⟩
    obtain ⟨c, i, hE⟩ := fE_one l hne
    rw [hE] at ht ⊢
    rcases ht with ⟨q, _⟩ | ⟨h1, b, u, h2, h3, h4⟩
    · cases q
    · injection h2 with e1 e2
      subst e1 e2
      exact ⟨b, rfl, Or.inr ⟨h1, b, u, rfl, h3, h4⟩, hb2⟩
  have lz := w_lt_get g1
  clear g0 g1 g2 hW0 hl hf hg hb hm hty hne
  go_enter_defers Tryz.func6, Tryz.ntmps6
  go_upto_region 2 with fail
  rw [HW0.out]
  go_wp2_with (go_at_call 18; refine HH.out.mono ?_; rintro e w1 ⟨b, rfl, ht, hb⟩; have Y : Hid (IsTold w1 (fE l) (.iface 73 (.pointer (some ⟨b, 0, none⟩))) ∧ Below W0.heap.size W0 w1) := ⟨ht, hb⟩; clear ht hb)
  refine leaves_cons (f := 16) (args := #[.pointer (some ⟨w.heap.size, 0, none⟩), .pointer (some ⟨w.heap.size + 1, 0, none⟩)]) (by simp) (by simp [go_sem]) ?_
  obtain ⟨x1, x2, x3, x4⟩ := HX.out w1 Y.out.2
  refine (decode1_catch w.heap.size b w1 x4 x1 x2).mono ?_
  rintro e u' w2 ⟨rfl, rfl, p1, p2, p3, p4⟩
  obtain ⟨t0, t1, t2, t3, t4⟩ := Hi.five_cells p1
  have t5 : w2.cell? ⟨w.heap.size + 1, 0, none⟩ = some (.iface 73 (.pointer (some ⟨b, 0, none⟩))) := by simp [World.cell?, p2]
  have r1 := Y.out.1.keep p4
  have r2 : Below w.heap.size w w2 := x3.trans p3
  simp [Leaves, settle, results, Tryz.results6, go_sem, t0, t1, t2, t3, t4, t5]
  exact ⟨_, _, ⟨rfl, rfl⟩, r1, r2⟩
end Go.Proofs.YtamedcnjanichabGreatDoor

namespace Go.Proofs.YtamedcnjanichabGreatDoor
open Go.RowKit Go.Extern Cr

def lkOf (l : List Nat) (k : Nat) : Hi.Lk := ⟨num (piece l k 4), num (piece l (k + 12) 8), num (piece l (k + 4) 4), num (piece l (k + 8) 4)⟩
def lksOf (l : List Nat) (a c : Nat) : List Hi.Lk := (List.range c).map fun i => lkOf l (a + 20 * i)
def hOf (l : List Nat) : Hi.Hr := ⟨wordsOf l 20 (cN l), wordsOf l (20 + 4 * cN l) (cN l + 1), lksOf l (20 + 4 * cN l + 4 * (cN l + 1)) (cU l), wordsOf l (20 + 4 * cN l + 4 * (cN l + 1) + 4 * (5 * cU l)) (cN l + 1), lksOf l (20 + 4 * cN l + 4 * (cN l + 1) + 4 * (5 * cU l) + 4 * (cN l + 1)) (cD l)⟩
theorem lksOf_len (l : List Nat) (a c : Nat) : (lksOf l a c).length = c := by unfold lksOf; simp
theorem lksOf_succ (l : List Nat) (a c : Nat) : lksOf l a (c + 1) = lksOf l a c ++ [lkOf l (a + 20 * c)] := by
  unfold lksOf
  rw [List.range_succ, List.map_append]
  rfl
theorem num_appI : ∀ (p q : List Nat), num (p ++ q) = num p + 256 ^ p.length * num q
  | [], q => by simp [num]
  | v :: p, q => by
    show v + 256 * num (p ++ q) = v + 256 * num p + 256 ^ (p.length + 1) * num q
    rw [num_appI p q, Nat.pow_succ, Nat.mul_add, Nat.mul_comm (256 ^ p.length) 256, Nat.mul_assoc, Nat.add_assoc]
theorem piece_8 (l : List Nat) (i : Nat) : piece l i 8 = piece l i 4 ++ piece l (i + 4) 4 := by
  unfold piece
  rw [← List.drop_drop, show 8 = 4 + 4 from rfl, List.take_add]
theorem wt_halves {l : List Nat} {i : Nat} (hb : Bts l) (h : i + 8 ≤ l.length) : num (piece l i 8) % 4294967296 = num (piece l i 4) ∧ num (piece l i 8) / 4294967296 = num (piece l (i + 4) 4) := by
  have h1 : (piece l i 4).length = 4 := piece_len (by omega)
  have h2 := num_4 (piece_bts hb i 4) h1
  have e : (256 : Nat) ^ 4 = 4294967296 := by decide
  rw [piece_8, num_appI, h1, e]
  omega
theorem lkW_of {l : List Nat} {k : Nat} (hb : Bts l) (h : k + 20 ≤ l.length) : lkW (lkOf l k) = [num (piece l k 4), num (piece l (k + 4) 4), num (piece l (k + 8) 4), num (piece l (k + 12) 4), num (piece l (k + 16) 4)] := by
  obtain ⟨h1, h2⟩ := wt_halves (i := k + 12) hb (by omega)
  show [num (piece l k 4), num (piece l (k + 4) 4), num (piece l (k + 8) 4), num (piece l (k + 12) 8) % 4294967296, num (piece l (k + 12) 8) / 4294967296] = _
  rw [h1, h2]
theorem words_lks {l : List Nat} (hb : Bts l) (a : Nat) : ∀ c, a + 20 * c ≤ l.length → wordsOf l a (5 * c) = lksW (lksOf l a c)
  | 0, _ => rfl
  | c + 1, h => by
    rw [lksOf_succ, lksW_snoc, ← words_lks hb a c (by omega), lkW_of hb (by omega), show 5 * (c + 1) = 5 * c + 1 + 1 + 1 + 1 + 1 by omega, wordsOf_take, wordsOf_take, wordsOf_take, wordsOf_take, wordsOf_take]
    rw [show a + 4 * (5 * c) = a + 20 * c by omega, show a + 4 * (5 * c + 1) = a + 20 * c + 4 by omega, show a + 4 * (5 * c + 1 + 1) = a + 20 * c + 8 by omega, show a + 4 * (5 * c + 1 + 1 + 1) = a + 20 * c + 12 by omega, show a + 4 * (5 * c + 1 + 1 + 1 + 1) = a + 20 * c + 16 by omega]
    simp only [List.append_assoc, List.cons_append, List.nil_append]
theorem words_small {l : List Nat} (hb : Bts l) {a c : Nat} (h : a + 4 * c ≤ l.length) : ∀ x ∈ wordsOf l a c, x < 4294967296 := by
  intro x hx
  unfold wordsOf at hx
  obtain ⟨j, hj, rfl⟩ := List.mem_map.1 hx
  have hj' := List.mem_range.1 hj
  exact num_4 (piece_bts hb _ 4) (piece_len (by omega))
theorem lks_ok {l : List Nat} (hb : Bts l) {a c : Nat} (h : a + 20 * c ≤ l.length) : ∀ x ∈ lksOf l a c, x.ok := by
  intro x hx
  unfold lksOf at hx
  obtain ⟨j, hj, rfl⟩ := List.mem_map.1 hx
  have hj' := List.mem_range.1 hj
  exact ⟨num_4 (piece_bts hb _ 4) (piece_len (by omega)), num_le64 (piece_bts hb _ 8) (by rw [piece_len (by omega)]; decide), num_4 (piece_bts hb _ 4) (piece_len (by omega)), num_4 (piece_bts hb _ 4) (piece_len (by omega))⟩
theorem neg_if {c : Prop} [Decidable c] {x i : Int} {r : Int × List (Int × Int)} (g : (if c then (x, [(2, i)]) else r) = (0, [])) : ¬ c ∧ r = (0, []) := by
  by_cases hc : c
  · rw [if_pos hc] at g
    simp at g
  · rw [if_neg hc] at g
    exact ⟨hc, g⟩
theorem frame_ok {l : List Nat} (hb : Bts l) (h : fE l = (0, [])) : ImgOk l (hOf l) ∧ (∀ x ∈ (hOf l).node, x < 4294967296) ∧ (∀ x ∈ (hOf l).upF, x < 4294967296) ∧ (∀ x ∈ (hOf l).up, x.ok) ∧ (∀ x ∈ (hOf l).dnF, x < 4294967296) ∧ (∀ x ∈ (hOf l).dn, x.ok) := by
  unfold fE at h
  obtain ⟨h32, h⟩ := neg_if h
  obtain ⟨k0, h⟩ := neg_if h
  obtain ⟨k1, h⟩ := neg_if h
  obtain ⟨k2, h⟩ := neg_if h
  obtain ⟨k3, h⟩ := neg_if h
  obtain ⟨k4, h⟩ := neg_if h
  obtain ⟨k5, h⟩ := neg_if h
  obtain ⟨k6, h⟩ := neg_if h
  obtain ⟨k7, h⟩ := neg_if h
  obtain ⟨m0, h⟩ := neg_if h
  obtain ⟨m1, h⟩ := neg_if h
  obtain ⟨m2, h⟩ := neg_if h
  obtain ⟨n1, h⟩ := neg_if h
  obtain ⟨n2, h⟩ := neg_if h
  obtain ⟨hft, _⟩ := neg_if h
  have hlen : l.length = 32 + 12 * cN l + 20 * (cU l + cD l) := by
    have e : szM l = 32 + 12 * cN l + 20 * (cU l + cD l) := rfl
    omega
  have ln : (hOf l).node.length = cN l := wordsOf_lenI _ _ _
  have lu : (hOf l).up.length = cU l := lksOf_len _ _ _
  have ld : (hOf l).dn.length = cD l := lksOf_len _ _ _
  have luf : (hOf l).upF.length = cN l + 1 := wordsOf_lenI _ _ _
  have ldf : (hOf l).dnF.length = cN l + 1 := wordsOf_lenI _ _ _
  refine ⟨⟨by rw [ln, lu, ld]; exact hlen, hb, by simpa using hft, fun i x hx => ?_, ⟨by omega, by omega, by omega, by omega, by omega⟩, by rw [ln]; rfl, by rw [lu]; rfl, by rw [ld]; rfl, by rw [ln]; rfl, by rw [ln]; rfl, ?_, by rw [ln, lu]; rfl, ?_⟩, words_small hb (by omega), words_small hb (by omega), lks_ok hb (by omega), words_small hb (by omega), lks_ok hb (by omega)⟩
  · have hi : i < 8 := (List.getElem?_eq_some_iff.1 hx).1
    rw [get_of (by omega)]
    match i, hi with
    | 0, _ => rw [← hx, Decidable.not_not.1 k0]; rfl
    | 1, _ => rw [← hx, Decidable.not_not.1 k1]; rfl
    | 2, _ => rw [← hx, Decidable.not_not.1 k2]; rfl
    | 3, _ => rw [← hx, Decidable.not_not.1 k3]; rfl
    | 4, _ => rw [← hx, Decidable.not_not.1 k4]; rfl
    | 5, _ => rw [← hx, Decidable.not_not.1 k5]; rfl
    | 6, _ => rw [← hx, Decidable.not_not.1 k6]; rfl
    | 7, _ => rw [← hx, Decidable.not_not.1 k7]; rfl
  · rw [ln, lu]
    exact words_lks hb _ _ (by omega)
  · rw [ln, lu, ld]
    exact words_lks hb _ _ (by omega)
end Go.Proofs.YtamedcnjanichabGreatDoor

namespace Go.Proofs.YtamedcnjanichabGreatDoor
open Go.RowKit Go.Extern Cr

attribute [local go_sem] Oper.semAt_some

set_option maxRecDepth 100000 in
set_option maxHeartbeats 4000000 in
theorem decode_chk (lo : Option Addr) (lc : Nat) (l : List Nat) (h : Hi.Hr) (w : World) (hl : HasB w (.slice lo l.length lc) l) (hcap : l.length ≤ lc) (hi : ImgOk l h) (hf : HasFours w) (hg : 1 < w.heap.size) (k1 : ∀ x ∈ h.node, x < 4294967296) (k2 : ∀ x ∈ h.upF, x < 4294967296) (k3 : ∀ x ∈ h.up, x.ok) (k4 : ∀ x ∈ h.dnF, x < 4294967296) (k5 : ∀ x ∈ h.dn, x.ok) (hc : Hi.chk h ≠ (0, [])) :
    Calls Tryz.prog 6 #[.slice lo l.length lc] w fun e w' => ∃ T x, e = .returned (.tuple #[.agg #[.slice none 0 0, .slice none 0 0, .slice none 0 0, .slice none 0 0, .slice none 0 0], .iface T x]) ∧ IsTold w' (Hi.chk h) (.iface T x) ∧ Below w.heap.size w w' := by
  have hmf : ∀ (fn : Fn) (first cap : Array Value) (w : World), (Instr.makeFunc fn first cap).run Tryz.prog w = .ok (.func fn first cap) w := fun _ _ _ _ => rfl
  have hn := hi.sm.n
  have hu := hi.sm.u
  have hd := hi.sm.d
  obtain ⟨W0, hW0⟩ : ∃ W0, (w.alloc (.cells #[.slice none 0 0, .slice none 0 0, .slice none 0 0, .slice none 0 0, .slice none 0 0] 25)).alloc (.cells #[.nilIface] 30) = W0 := ⟨_, rfl⟩
  have HW0 : Hid ((w.alloc (.cells #[.slice none 0 0, .slice none 0 0, .slice none 0 0, .slice none 0 0, .slice none 0 0] 25)).alloc (.cells #[.nilIface] 30) = W0) := hW0
  obtain ⟨g0, g1, g2⟩ := two_newI w (.cells #[.slice none 0 0, .slice none 0 0, .slice none 0 0, .slice none 0 0, .slice none 0 0] 25) (.cells #[.nilIface] 30)
  rw [hW0] at g0 g1 g2
  have HX : Hid (∀ wx, Below W0.heap.size W0 wx → wx.heap[w.heap.size]? = some (.cells #[.slice none 0 0, .slice none 0 0, .slice none 0 0, .slice none 0 0, .slice none 0 0] 25 (0, 0)) ∧ wx.heap[w.heap.size + 1]? = some (.cells #[.nilIface] 30 (0, 0)) ∧ Below w.heap.size w wx) := fun wx hx => ⟨(hx.block _ (w_lt_get g0)).trans g0, (hx.block _ (w_lt_get g1)).trans g1, g2.trans (hx.mono g2.size)⟩
  have HH : Hid (Calls Tryz.prog 18 #[.slice lo l.length lc] W0 fun e w' => ∃ u, e = .returned (Hi.hvl u h) ∧ Hi.OwnH w' W0.heap.size u h ∧ Below W0.heap.size W0 w') := hierOf_good lo lc l h W0 (hl.keep g2) hcap hi (fours_keep hf hg g2) (Nat.lt_of_lt_of_le hg g2.size) k3 k5
  have HCK : Hid (∀ (u : Hi.HV) (wx : World), Hi.HasH wx u h → Calls Tryz.prog 19 #[Hi.hvl u h] wx fun e w' => ∃ T x, e = .returned (.iface T x) ∧ IsTold w' (Hi.chk h) (.iface T x) ∧ Below wx.heap.size wx w') := fun u wx hx => by
    refine (Hi.check_calls u h wx hx (by omega) (by omega) (by omega)).mono ?_
    rintro e w' ⟨v, rfl, hv, hb⟩
    obtain ⟨T, x, rfl⟩ := told_some hv hc
    exact ⟨T, x, rfl, hv, hb⟩
  have HOK : Hid (∀ (u : Hi.HV) (wx : World) (B : Nat), Hi.OwnH wx B u h → Hi.HasH wx u h) := fun u wx B g => ⟨Hi.ws_of_own g.node k1, Hi.ws_of_own g.upF k2, Hi.ls_of_own g.up k3, Hi.ws_of_own g.dnF k4, Hi.ls_of_own g.dn k5⟩
  have lz := w_lt_get g1
  clear g0 g1 g2 hW0 hl hi hf hg k1 k2 k3 k4 k5 hc
  unfold Hi.hvl at HH HCK
  go_enter_defers Tryz.func6, Tryz.ntmps6
  go_upto_region 2 with fail
  rw [HW0.out]
  go_wp2_with fail
  refine HH.out.mono ?_
  rintro e w1 ⟨⟨m1, m2, m3, m4, m5, c1, c2, c3, c4, c5⟩, rfl, ho, hb⟩
  have Y1 : Hid (Below W0.heap.size W0 w1 ∧ Hi.OwnH w1 W0.heap.size ⟨m1, m2, m3, m4, m5, c1, c2, c3, c4, c5⟩ h) := ⟨hb, ho⟩
  clear ho hb lz
  simp only
  obtain ⟨W2, hW2⟩ : ∃ W2, w1.alloc (.cells #[.slice m1 h.node.length c1, .slice m2 h.upF.length c2, .slice m3 h.up.length c3, .slice m4 h.dnF.length c4, .slice m5 h.dn.length c5] 25) = W2 := ⟨_, rfl⟩
  have HW2 : Hid (w1.alloc (.cells #[.slice m1 h.node.length c1, .slice m2 h.upF.length c2, .slice m3 h.up.length c3, .slice m4 h.dnF.length c4, .slice m5 h.dn.length c5] 25) = W2) := hW2
  have b2 : Below w1.heap.size w1 W2 := by rw [← hW2]; exact (Below.refl _ _).alloc (Nat.le_refl _) _
  have n2 : W2.heap[w1.heap.size]? = some (.cells #[.slice m1 h.node.length c1, .slice m2 h.upF.length c2, .slice m3 h.up.length c3, .slice m4 h.dnF.length c4, .slice m5 h.dn.length c5] 25) := by rw [← hW2]; exact heap_new _ _
  go_upto_region 3 with fail
  have HN : Hid (∀ wx, Below W2.heap.size W2 wx → wx.heap[w1.heap.size]? = some (.cells #[.slice m1 h.node.length c1, .slice m2 h.upF.length c2, .slice m3 h.up.length c3, .slice m4 h.dnF.length c4, .slice m5 h.dn.length c5] 25) ∧ Below W0.heap.size W0 wx ∧ Below w1.heap.size w1 wx) := fun wx hx => ⟨(hx.block _ (w_lt_get n2)).trans n2, btrI Y1.out.1 (btrI b2 hx), btrI b2 hx⟩
  have HUP : Hid (∀ wx, Below w1.heap.size w1 wx → Hi.OwnH wx W0.heap.size ⟨m1, m2, m3, m4, m5, c1, c2, c3, c4, c5⟩ h) := fun wx hx => by
    have kp : ∀ {T : TypeId} {zz n : Nat} {vv : Value} {xs : List Value}, w1.ownsRow W0.heap.size T zz vv n xs → wx.ownsRow W0.heap.size T zz vv n xs := fun ho => Hi.own_keep ho fun k cur hk hh => (hx.block k (ho.lt k hk).2).trans hh
    obtain ⟨q1, q2, q3, q4, q5⟩ := Y1.out.2
    exact ⟨kp q1, kp q2, kp q3, kp q4, kp q5⟩
  obtain ⟨d0, d1, d2, d3, d4⟩ := Hi.five_cells (HN.out W2 (Below.refl _ _)).1
  have ld := w_lt_get (HN.out W2 (Below.refl _ _)).1
  clear hW2 b2 n2
  go_wp2_with fail
  refine (HCK.out ⟨m1, m2, m3, m4, m5, c1, c2, c3, c4, c5⟩ _ (HOK.out _ _ _ (HUP.out W2 (HN.out W2 (Below.refl _ _)).2.2))).mono ?_
  rintro e w3 ⟨T, x, rfl, ht, hb⟩
  have Y3 : Hid (Below W2.heap.size W2 w3) := hb
  have YT : Hid (IsTold w3 (Hi.chk h) (.iface T x)) := ht
  clear ht hb d0 d1 d2 d3 d4 ld
  obtain ⟨d0, d1, d2, d3, d4⟩ := Hi.five_cells (HN.out w3 Y3.out).1
  have ld := w_lt_get (HN.out w3 Y3.out).1
  obtain ⟨x1, x2, x3⟩ := HX.out w3 (HN.out w3 Y3.out).2.1
  obtain ⟨z0, z1, z2, z3, z4⟩ := Hi.five_cells x1
  have lz := w_lt_get x1
  have le := w_lt_get x2
  have ez : w3.cell? ⟨w.heap.size + 1, 0, none⟩ = some .nilIface := by simp [World.cell?, x2]
  have ef : w3.frozen? ⟨w.heap.size + 1, 0, none⟩ = false := by simp [World.frozen?, x2]
  have fz : ∀ i, w3.frozen? ⟨w.heap.size, i, none⟩ = false := fun i => by simp [World.frozen?, x1]
  have fz0 := fz 0
  have fz1 := fz 1
  have fz2 := fz 2
  have fz3 := fz 3
  have fz4 := fz 4
  have XH : Hid (w3.heap[w.heap.size]? = some (.cells #[.slice none 0 0, .slice none 0 0, .slice none 0 0, .slice none 0 0, .slice none 0 0] 25 (0, 0)) ∧ w3.heap[w.heap.size + 1]? = some (.cells #[.nilIface] 30 (0, 0)) ∧ Below w.heap.size w w3) := ⟨x1, x2, x3⟩
  clear fz x1 x2 x3
  go_wp2
  refine leaves_cons (f := 16) (args := #[.pointer (some ⟨w.heap.size, 0, none⟩), .pointer (some ⟨w.heap.size + 1, 0, none⟩)]) (by simp) (by simp [go_sem]) ?_
  refine (decode1_idle ⟨w.heap.size, 0, none⟩ ⟨w.heap.size + 1, 0, none⟩ _).mono ?_
  rintro e u' w'' ⟨rfl, rfl, rfl⟩
  obtain ⟨x1, x2, x3⟩ := XH.out
  have hS := Hi.set_five x1 (.slice none 0 0) (.slice none 0 0) (.slice none 0 0) (.slice none 0 0) (.slice none 0 0)
  obtain ⟨hf1, hf2⟩ := Hi.five_far w3 w.heap.size (.slice none 0 0) (.slice none 0 0) (.slice none 0 0) (.slice none 0 0) (.slice none 0 0)
  have hbb : Below w.heap.size w (((((w3.setCell ⟨w.heap.size, 0, none⟩ (.slice none 0 0)).setCell ⟨w.heap.size, 1, none⟩ (.slice none 0 0)).setCell ⟨w.heap.size, 2, none⟩ (.slice none 0 0)).setCell ⟨w.heap.size, 3, none⟩ (.slice none 0 0)).setCell ⟨w.heap.size, 4, none⟩ (.slice none 0 0)) := ((((x3.setCell (p := ⟨w.heap.size, 0, none⟩) (Nat.le_refl _) _).setCell (p := ⟨w.heap.size, 1, none⟩) (Nat.le_refl _) _).setCell (p := ⟨w.heap.size, 2, none⟩) (Nat.le_refl _) _).setCell (p := ⟨w.heap.size, 3, none⟩) (Nat.le_refl _) _).setCell (p := ⟨w.heap.size, 4, none⟩) (Nat.le_refl _) _
  have hE : (((((w3.setCell ⟨w.heap.size, 0, none⟩ (.slice none 0 0)).setCell ⟨w.heap.size, 1, none⟩ (.slice none 0 0)).setCell ⟨w.heap.size, 2, none⟩ (.slice none 0 0)).setCell ⟨w.heap.size, 3, none⟩ (.slice none 0 0)).setCell ⟨w.heap.size, 4, none⟩ (.slice none 0 0)).heap[w.heap.size + 1]? = some (.cells #[.nilIface] 30 (0, 0)) := (hf1 _ (by omega)).trans x2
  have hK : Keeps w3 (((((w3.setCell ⟨w.heap.size, 0, none⟩ (.slice none 0 0)).setCell ⟨w.heap.size, 1, none⟩ (.slice none 0 0)).setCell ⟨w.heap.size, 2, none⟩ (.slice none 0 0)).setCell ⟨w.heap.size, 3, none⟩ (.slice none 0 0)).setCell ⟨w.heap.size, 4, none⟩ (.slice none 0 0)) := fun k c hk => by
    have hne : k ≠ w.heap.size := fun e => by
      subst e
      rw [x1] at hk
      simp at hk
    exact (hf1 k hne).trans hk
  clear z0 z1 z2 z3 z4 fz0 fz1 fz2 fz3 fz4 ez ef lz le hf1 hf2
  generalize (((((w3.setCell ⟨w.heap.size, 0, none⟩ (.slice none 0 0)).setCell ⟨w.heap.size, 1, none⟩ (.slice none 0 0)).setCell ⟨w.heap.size, 2, none⟩ (.slice none 0 0)).setCell ⟨w.heap.size, 3, none⟩ (.slice none 0 0)).setCell ⟨w.heap.size, 4, none⟩ (.slice none 0 0)) = WE at *
  have fin : ∀ WF : World, WF = WE.setCell ⟨w.heap.size + 1, 0, none⟩ (.iface T x) → WF.heap[w.heap.size]? = some (.cells #[.slice none 0 0, .slice none 0 0, .slice none 0 0, .slice none 0 0, .slice none 0 0] 25 (0, 0)) ∧ WF.heap[w.heap.size + 1]? = some (.cells #[.iface T x] 30 (0, 0)) ∧ Below w.heap.size w WF ∧ Keeps w3 WF := by
    rintro WF rfl
    have o : ∀ k, k ≠ w.heap.size + 1 → (WE.setCell ⟨w.heap.size + 1, 0, none⟩ (.iface T x)).heap[k]? = WE.heap[k]? := fun k hk => by first | exact heap_setCell_other _ _ _ _ hk | exact heap_setCell_other _ _ _ _ hk.symm
    refine ⟨(o _ (by omega)).trans hS, ?_, hbb.setCell (p := ⟨w.heap.size + 1, 0, none⟩) (show w.heap.size ≤ w.heap.size + 1 by omega) _, hK.trans fun k c hk => ?_⟩
    · rw [heap_setCell_same WE (w.heap.size + 1) 0 _ 30 _ hE]
      rfl
    · have hne : k ≠ w.heap.size + 1 := fun e => by
        subst e
        rw [hE] at hk
        simp at hk
      exact (o k hne).trans hk
  obtain ⟨p1, p2, p3, p4⟩ := fin _ rfl
  clear fin hS hbb hE hK x1 x2 x3
  generalize WE.setCell ⟨w.heap.size + 1, 0, none⟩ (.iface T x) = WF at *
  obtain ⟨t0, t1, t2, t3, t4⟩ := Hi.five_cells p1
  have t5 : WF.cell? ⟨w.heap.size + 1, 0, none⟩ = some (.iface T x) := by simp [World.cell?, p2]
  have r1 := YT.out.keep p4
  simp [Leaves, settle, results, Tryz.results6, go_sem, t0, t1, t2, t3, t4, t5]
  exact ⟨_, _, ⟨rfl, rfl⟩, r1, p3⟩
end Go.Proofs.YtamedcnjanichabGreatDoor

namespace Go.Proofs.YtamedcnjanichabGreatDoor
open Go.RowKit Go.Extern Cr

def noHr : Hi.Hr := ⟨[], [], [], [], []⟩
def nilV : Hi.HV := ⟨none, none, none, none, none, 0, 0, 0, 0, 0⟩
/-- the error that Decode answers. -/
def dE (l : List Nat) : Int × List (Int × Int) := if fE l = (0, []) then Hi.chk (hOf l) else fE l
/-- the hierarchy that Decode answers. -/
def dH (l : List Nat) : Hi.Hr := if dE l = (0, []) then hOf l else noHr
structure OkH (h : Hi.Hr) : Prop where
  k1 : ∀ x ∈ h.node, x < 4294967296
  k2 : ∀ x ∈ h.upF, x < 4294967296
  k3 : ∀ x ∈ h.up, x.ok
  k4 : ∀ x ∈ h.dnF, x < 4294967296
  k5 : ∀ x ∈ h.dn, x.ok
theorem hasH_own {w : World} {B : Nat} {u : Hi.HV} {h : Hi.Hr} (g : Hi.OwnH w B u h) (k : OkH h) : Hi.HasH w u h := ⟨Hi.ws_of_own g.node k.k1, Hi.ws_of_own g.upF k.k2, Hi.ls_of_own g.up k.k3, Hi.ws_of_own g.dnF k.k4, Hi.ls_of_own g.dn k.k5⟩
theorem own_noHr (w : World) (B : Nat) : Hi.OwnH w B nilV noHr := ⟨World.ownsRow_nil _ _ _ _, World.ownsRow_nil _ _ _ _, World.ownsRow_nil _ _ _ _, World.ownsRow_nil _ _ _ _, World.ownsRow_nil _ _ _ _⟩
theorem ok_noHr : OkH noHr := by
  refine ⟨?_, ?_, ?_, ?_, ?_⟩ <;> (intro x hx; cases hx)
theorem dE_bad {l : List Nat} (h : fE l ≠ (0, [])) : dE l = fE l ∧ dH l = noHr := by
  have e : dE l = fE l := if_neg h
  refine ⟨e, ?_⟩
  unfold dH
  rw [e, if_neg h]
theorem dE_chk {l : List Nat} (h : fE l = (0, [])) (hc : Hi.chk (hOf l) ≠ (0, [])) : dE l = Hi.chk (hOf l) ∧ dH l = noHr := by
  have e : dE l = Hi.chk (hOf l) := if_pos h
  refine ⟨e, ?_⟩
  unfold dH
  rw [e, if_neg hc]
theorem dE_good {l : List Nat} (h : fE l = (0, [])) (hc : Hi.chk (hOf l) = (0, [])) : dE l = (0, []) ∧ dH l = hOf l := by
  have e : dE l = (0, []) := (if_pos h).trans hc
  refine ⟨e, ?_⟩
  unfold dH
  rw [e, if_pos rfl]
theorem dH_ok {l : List Nat} (hb : Bts l) : OkH (dH l) := by
  by_cases h : fE l = (0, [])
  · obtain ⟨_, k1, k2, k3, k4, k5⟩ := frame_ok hb h
    by_cases hc : Hi.chk (hOf l) = (0, [])
    · rw [(dE_good h hc).2]
      exact ⟨k1, k2, k3, k4, k5⟩
    · rw [(dE_chk h hc).2]
      exact ok_noHr
  · rw [(dE_bad h).2]
    exact ok_noHr
theorem dH_short {l : List Nat} (hb : Bts l) : Hi.Short (dH l) := by
  by_cases h : fE l = (0, [])
  · obtain ⟨ho, _⟩ := frame_ok hb h
    by_cases hc : Hi.chk (hOf l) = (0, [])
    · rw [(dE_good h hc).2]
      obtain ⟨s1, s2, s3, s4, s5⟩ := ho.sm
      exact ⟨by omega, by omega, by omega, by omega, by omega⟩
    · rw [(dE_chk h hc).2]
      exact ⟨by decide, by decide, by decide, by decide, by decide⟩
  · rw [(dE_bad h).2]
    exact ⟨by decide, by decide, by decide, by decide, by decide⟩
theorem dE_len (l : List Nat) : (dE l).2.length ≤ 1 := by
  by_cases h : fE l = (0, [])
  · have e : dE l = Hi.chk (hOf l) := if_pos h
    rw [e]
    exact Hi.chk_places _
  · obtain ⟨c, i, e⟩ := fE_one l h
    rw [(dE_bad h).1, e]
    exact Nat.le_refl 1

theorem ap3_nil : Ap3 nilV := ⟨(fun a b e1 _ => by cases e1), (fun a b e1 _ => by cases e1), (fun a b e1 _ => by cases e1)⟩
theorem decode_allA (lo : Option Addr) (lc : Nat) (l : List Nat) (w : World) (hl : HasB w (.slice lo l.length lc) l) (hcap : l.length ≤ lc) (hb : Bts l) (hm : l.length ≤ 281474976710656) (hf : HasFours w) (hg : 1 < w.heap.size) (hty : HasType w) :
    Calls Tryz.prog 6 #[.slice lo l.length lc] w fun e w' => ∃ u v, e = .returned (.tuple #[Hi.hvl u (dH l), v]) ∧ Hi.OwnH w' w.heap.size u (dH l) ∧ IsTold w' (dE l) v ∧ Below w.heap.size w w' ∧ Ap3 u := by
  by_cases h : fE l = (0, [])
  · obtain ⟨ho, k1, k2, k3, k4, k5⟩ := frame_ok hb h
    by_cases hc : Hi.chk (hOf l) = (0, [])
    · obtain ⟨e1, e2⟩ := dE_good h hc
      rw [e1, e2]
      refine (decode_goodA lo lc l (hOf l) w hl hcap ho hf hg k1 k2 k3 k4 k5 hc).mono ?_
      rintro e w' ⟨u, rfl, hu, hb2, hap⟩
      exact ⟨u, _, rfl, hu, Or.inl ⟨rfl, rfl⟩, hb2, hap⟩
    · obtain ⟨e1, e2⟩ := dE_chk h hc
      rw [e1, e2]
      refine (decode_chk lo lc l (hOf l) w hl hcap ho hf hg k1 k2 k3 k4 k5 hc).mono ?_
      rintro e w' ⟨T, x, rfl, ht, hb2⟩
      exact ⟨nilV, _, rfl, own_noHr _ _, ht, hb2, ap3_nil⟩
  · obtain ⟨e1, e2⟩ := dE_bad h
    rw [e1, e2]
    refine (decode_thrown lo lc l w hl hcap hb hm hf hg hty h).mono ?_
    rintro e w' ⟨T, x, rfl, ht, hb2⟩
    exact ⟨nilV, _, rfl, own_noHr _ _, ht, hb2, ap3_nil⟩
theorem decode_all (lo : Option Addr) (lc : Nat) (l : List Nat) (w : World) (hl : HasB w (.slice lo l.length lc) l) (hcap : l.length ≤ lc) (hb : Bts l) (hm : l.length ≤ 281474976710656) (hf : HasFours w) (hg : 1 < w.heap.size) (hty : HasType w) :
    Calls Tryz.prog 6 #[.slice lo l.length lc] w fun e w' => ∃ u v, e = .returned (.tuple #[Hi.hvl u (dH l), v]) ∧ Hi.OwnH w' w.heap.size u (dH l) ∧ IsTold w' (dE l) v ∧ Below w.heap.size w w' := by
  refine (decode_allA lo lc l w hl hcap hb hm hf hg hty).mono ?_
  rintro e w' ⟨u, v, rfl, h1, h2, h3, _⟩
  exact ⟨u, v, rfl, h1, h2, h3⟩
end Go.Proofs.YtamedcnjanichabGreatDoor

namespace Go.Proofs.YtamedcnjanichabGreatDoor
open Go.RowKit Go.Extern Cr

attribute [local go_sem] Oper.semAt_some

set_option maxRecDepth 100000 in
set_option maxHeartbeats 2000000 in
theorem jAt_calls (i c : Int) (w : World) : Calls Tryz.prog 52 #[.int .i64 i, .int .i64 c] w fun e w' => ∃ lo, e = .returned (.agg #[.int .i64 c, .slice lo 1 1]) ∧ HasPlaces w' (.slice lo 1 1) [(2, i)] ∧ Below w.heap.size w w' := by
  obtain ⟨W0, hW0⟩ : ∃ W0, w.alloc (.cells #[.int .i64 0, .slice none 0 0] 46) = W0 := ⟨_, rfl⟩
  have HW0 : Hid (w.alloc (.cells #[.int .i64 0, .slice none 0 0] 46) = W0) := hW0
  have hB0 : Below w.heap.size w W0 := by rw [← hW0]; exact (Below.refl _ _).alloc (Nat.le_refl _) _
  have hbx : W0.heap[w.heap.size]? = some (.cells #[.int .i64 0, .slice none 0 0] 46) := by rw [← hW0]; exact heap_new _ _
  have HX : Hid (∀ wx, Below W0.heap.size W0 wx → wx.heap[w.heap.size]? = some (.cells #[.int .i64 0, .slice none 0 0] 46) ∧ Below w.heap.size w wx) := fun wx hx => ⟨(hx.block _ (w_lt_get hbx)).trans hbx, hB0.trans (hx.mono hB0.size)⟩
  clear hW0 hB0 hbx
  go_enter Tryz.func52, Tryz.ntmps52
  go_upto_region 1 with fail
  rw [HW0.out]
  go_wp2_with fail
  refine (E_calls c W0).mono ?_
  rintro e y1 ⟨rfl, hb⟩
  have Y1 : Hid (Below W0.heap.size W0 y1) := hb
  clear hb
  go_wp2_with fail
  refine (refAt_calls 2 i c y1).mono ?_
  rintro e y2 ⟨g, rfl, hgg, hb⟩
  have hP : HasPlaces y2 (.slice (some ⟨g, 0, none⟩) 1 1) [(2, i)] := by
    refine ⟨some ⟨g, 0, none⟩, 1, rfl, fun j p hj => ?_⟩
    have hj0 : j = 0 := by
      have := (List.getElem?_eq_some_iff.1 hj).1
      simp at this
      omega
    subst hj0
    simp at hj
    subst hj
    exact ⟨g, 0, rfl, w_lt_get hgg, by simp [World.cell?, hgg], by simp [World.cell?, hgg]⟩
  have Y2 : Hid (HasPlaces y2 (.slice (some ⟨g, 0, none⟩) 1 1) [(2, i)] ∧ Below W0.heap.size W0 y2) := ⟨hP, btrI Y1.out hb⟩
  clear hb hP hgg
  obtain ⟨hz, hb9⟩ := HX.out y2 Y2.out.2
  obtain ⟨r0, r1, f0, f1⟩ := cell2I hz
  have rs := w_lt_get hz
  have HZ : Hid (y2.heap[w.heap.size]? = some (.cells #[.int .i64 0, .slice none 0 0] 46) ∧ Below w.heap.size w y2) := ⟨hz, hb9⟩
  clear hz hb9
  go_wp2
  obtain ⟨z1, z2⟩ := HZ.out
  have y1' := set2I (v0 := .int .i64 c) (v1 := .slice (some ⟨g, 0, none⟩) 1 1) z1
  have y2' : Below w.heap.size w ((y2.setCell ⟨w.heap.size, 0, none⟩ (.int .i64 c)).setCell ⟨w.heap.size, 1, none⟩ (.slice (some ⟨g, 0, none⟩) 1 1)) := z2.trans (below2I (Nat.le_refl _))
  have y3' := places_setI Y2.out.1 z1 (.int .i64 c) (.slice (some ⟨g, 0, none⟩) 1 1)
  generalize ((y2.setCell ⟨w.heap.size, 0, none⟩ (.int .i64 c)).setCell ⟨w.heap.size, 1, none⟩ (.slice (some ⟨g, 0, none⟩) 1 1)) = Wf at *
  obtain ⟨u0, u1, _, _⟩ := cell2I y1'
  exact bodyPost_ret (v := .agg #[.int .i64 c, .slice (some ⟨g, 0, none⟩) 1 1]) (by simp [results, Tryz.results52, go_sem, u0, u1]) rfl ⟨_, rfl, y3', y2'⟩

set_option maxRecDepth 100000 in
set_option maxHeartbeats 2000000 in
theorem jWords_good (lo : Option Addr) (lc : Nat) (l : List Nat) (a c : Nat) (w : World) (hl : HasB w (.slice lo l.length lc) l) (hb : Bts l) (hm : l.length ≤ 1073741824) (hak : a + 4 * c ≤ l.length) :
    Calls Tryz.prog 29 #[.slice lo l.length lc, .int .i64 (a : Int), .int .i64 (c : Int)] w fun e w' => ∃ mo mc, e = .returned (.slice mo c mc) ∧ w'.ownsRow w.heap.size 39 1 (.slice mo c mc) c (Hi.wvs (wordsOf l a c)) ∧ Below w.heap.size w w' := by
  have HD : Hid (type_of% (docWords_good lo lc l a c w hl hb hm hak)) := docWords_good lo lc l a c w hl hb hm hak
  clear hl hb hm hak
  go_enter Tryz.func29, Tryz.ntmps29
  go_wp2_with fail
  refine HD.out.mono ?_
  rintro e y ⟨mo, mc, rfl, ho, hb⟩
  have Y : Hid (y.ownsRow (w.heap.size + 1) 39 1 (.slice mo c mc) c (wv (wordsOf l a c)) ∧ Below w.heap.size w y) := ⟨ho, hb⟩
  clear ho hb
  go_wp2
  go_ret
  exact ⟨mo, mc, rfl, row_low (wown_alloc Y.out.1 _) (Nat.le_succ _), Y.out.2.alloc Y.out.2.size _⟩

set_option maxRecDepth 100000 in
set_option maxHeartbeats 4000000 in
theorem jRead_good (lo : Option Addr) (lc : Nat) (l : List Nat) (a c : Nat) (w : World) (hl : HasB w (.slice lo l.length lc) l) (hb : Bts l) (hm : l.length ≤ 1073741824) (hak : a + 20 * c ≤ l.length) :
    Calls Tryz.prog 30 #[.slice lo l.length lc, .int .i64 (a : Int), .int .i64 (c : Int)] w fun e w' => ∃ mo mc, e = .returned (.slice mo c mc) ∧ w'.ownsRow w.heap.size 43 4 (.slice mo c mc) c (Hi.lvs (lksOf l a c)) ∧ Below w.heap.size w w' := by
  have HT : Hid (∀ wx A n, A + n ≤ l.length → n ≤ 8 → Below w.heap.size w wx → Calls Tryz.prog 53 #[.slice lo l.length lc, .int .i64 ((A : Nat) : Int), .int .i64 ((n : Nat) : Int)] wx fun e w' => e = .returned (.int .u64 ((num (piece l A n) : Nat) : Int)) ∧ Below wx.heap.size wx w') := fun wx A n hA hn hx => vTake_calls lo lc l A n wx (hl.keep hx) hb hm hn hA
  have HN : Hid (∀ A, A + 4 ≤ l.length → num (piece l A 4) < 4294967296) := fun A hA => num_4 (piece_bts hb _ 4) (piece_len (by omega))
  have HAK : Hid (a + 20 * c ≤ l.length) := hak
  have hc1 : c ≤ 1073741824 ∧ a ≤ 1073741824 ∧ 20 * c ≤ 1073741824 := by omega
  obtain ⟨hc1, ha1, hc2⟩ := hc1
  obtain ⟨i0, hi9, hzz⟩ := Option.map_eq_some_iff.1 infoLI
  simp only [Prod.mk.injEq] at hzz
  have HI : Hid (Tryz.prog.info? 43 = some i0 ∧ i0.zero = some (.agg #[.int .u32 0, .int .u64 0, .int .u32 0, .int .u32 0]) ∧ i0.size = 4 ∧ i0.bytes = 24) := ⟨hi9, hzz⟩
  clear hi9 hzz hl hb hak
  go_enter Tryz.func30, Tryz.ntmps30
  go_wp2_with fail
  go_loopw [7, 8, 9] (fun mv iv _ wr => ∃ (k : Nat) (qo : Option Addr) (qc : Nat), k ≤ c ∧ iv = .int .i64 (k : Nat) ∧ mv = .slice qo k qc ∧ wr.ownsRow w.heap.size 43 4 (.slice qo k qc) k (Hi.lvs (lksOf l a k)) ∧ Below w.heap.size w wr) (fun _ iv _ _ => c - (intOf iv).toNat)
  case atStart => exact ⟨0, none, 0, Nat.zero_le _, rfl, rfl, World.ownsRow_nil _ _ _ _, Below.refl _ _⟩
  case round =>
    obtain ⟨k, qo, qc, hk, rfl, rfl, hO, hB⟩ := hrel
    have HK : Hid (wr.ownsRow w.heap.size 43 4 (.slice qo k qc) k (Hi.lvs (lksOf l a k)) ∧ Below w.heap.size w wr) := ⟨hO, hB⟩
    clear hO hB
    by_cases hlt : k < c
    · have i1 : (k : Int) < (c : Int) := by omega
      have hA0 := HAK.out
      obtain ⟨A, hA⟩ : ∃ A, a + 20 * k = A := ⟨_, rfl⟩
      have hA1 : A + 20 ≤ l.length := by omega
      have T0 : Hid (∀ wx, Below w.heap.size w wx → Calls Tryz.prog 53 #[.slice lo l.length lc, .int .i64 (A : Int), .int .i64 4] wx fun e w' => e = .returned (.int .u64 ((num (piece l A 4) : Nat) : Int)) ∧ Below wx.heap.size wx w') := fun wx hx => HT.out wx A 4 (by omega) (by omega) hx
      have T1 : Hid (∀ wx, Below w.heap.size w wx → Calls Tryz.prog 53 #[.slice lo l.length lc, .int .i64 ((A : Int) + 4), .int .i64 4] wx fun e w' => e = .returned (.int .u64 ((num (piece l (A + 4) 4) : Nat) : Int)) ∧ Below wx.heap.size wx w') := fun wx hx => HT.out wx (A + 4) 4 (by omega) (by omega) hx
      have T2 : Hid (∀ wx, Below w.heap.size w wx → Calls Tryz.prog 53 #[.slice lo l.length lc, .int .i64 ((A : Int) + 8), .int .i64 4] wx fun e w' => e = .returned (.int .u64 ((num (piece l (A + 8) 4) : Nat) : Int)) ∧ Below wx.heap.size wx w') := fun wx hx => HT.out wx (A + 8) 4 (by omega) (by omega) hx
      have T3 : Hid (∀ wx, Below w.heap.size w wx → Calls Tryz.prog 53 #[.slice lo l.length lc, .int .i64 ((A : Int) + 12), .int .i64 8] wx fun e w' => e = .returned (.int .u64 ((num (piece l (A + 12) 8) : Nat) : Int)) ∧ Below wx.heap.size wx w') := fun wx hx => HT.out wx (A + 12) 8 (by omega) (by omega) hx
      have x0 := HN.out A (by omega)
      have x1 := HN.out (A + 4) (by omega)
      have x2 := HN.out (A + 8) (by omega)
      have HTK : Hid (lksOf l a (k + 1) = lksOf l a k ++ [⟨num (piece l A 4), num (piece l (A + 12) 8), num (piece l (A + 4) 4), num (piece l (A + 8) 4)⟩]) := by
        show _ = _
        rw [lksOf_succ, hA]
        rfl
      have w20 : IntKind.i64.wrap (20 * (k : Int)) = 20 * (k : Int) := by rw [IntKind.wrap_i64]; omega
      have w9 : IntKind.i64.wrap ((a : Int) + 20 * (k : Int)) = (A : Int) := by rw [IntKind.wrap_i64] <;> omega
      have w4 : IntKind.i64.wrap ((A : Int) + 4) = (A : Int) + 4 := by rw [IntKind.wrap_i64]; omega
      have w8 : IntKind.i64.wrap ((A : Int) + 8) = (A : Int) + 8 := by rw [IntKind.wrap_i64]; omega
      have w12 : IntKind.i64.wrap ((A : Int) + 12) = (A : Int) + 12 := by rw [IntKind.wrap_i64]; omega
      generalize num (piece l A 4) = X0 at *
      generalize num (piece l (A + 4) 4) = X1 at *
      generalize num (piece l (A + 8) 4) = X2 at *
      generalize num (piece l (A + 12) 8) = X3 at *
      have v0 : IntKind.u32.wrap (X0 : Int) = (X0 : Int) := by rw [IntKind.wrap_u32]; omega
      have v1 : IntKind.u32.wrap (X1 : Int) = (X1 : Int) := by rw [IntKind.wrap_u32]; omega
      have v2 : IntKind.u32.wrap (X2 : Int) = (X2 : Int) := by rw [IntKind.wrap_u32]; omega
      have hkn : k ≤ 1073741824 := by omega
      have hkm : (k + 1) * 24 ≤ 140737488351232 := by omega
      clear hA hA0 hA1
      go_wp2_with fail
      refine (T0.out wr HK.out.2).mono ?_
      rintro e y1 ⟨rfl, hb⟩
      have Y1 : Hid (Below w.heap.size w y1 ∧ Below wr.heap.size wr y1) := ⟨btrI HK.out.2 hb, hb⟩
      clear hb
      go_wp2_with fail
      refine (T1.out y1 Y1.out.1).mono ?_
      rintro e y2 ⟨rfl, hb⟩
      have Y2 : Hid (Below w.heap.size w y2 ∧ Below wr.heap.size wr y2) := ⟨btrI Y1.out.1 hb, btrI Y1.out.2 hb⟩
      clear hb
      go_wp2_with fail
      refine (T2.out y2 Y2.out.1).mono ?_
      rintro e y3 ⟨rfl, hb⟩
      have Y3 : Hid (Below w.heap.size w y3 ∧ Below wr.heap.size wr y3) := ⟨btrI Y2.out.1 hb, btrI Y2.out.2 hb⟩
      clear hb
      go_wp2_with fail
      refine (T3.out y3 Y3.out.1).mono ?_
      rintro e y4 ⟨rfl, hb⟩
      have Y4 : Hid (Below w.heap.size w y4 ∧ y4.ownsRow w.heap.size 43 4 (.slice qo k qc) k (Hi.lvs (lksOf l a k))) := ⟨btrI Y3.out.1 hb, Hi.own_keep HK.out.1 fun m cur hm hh => ((btrI Y3.out.2 hb).block m (HK.out.1.lt m hm).2).trans hh⟩
      clear hb
      go_wp2_with (at_builtin; refine wpList_append_own _ rfl _ _ 23 rfl w.heap.size 43 i0 (.agg #[.int .u32 0, .int .u64 0, .int .u32 0, .int .u32 0]) 4 24 Tryz.underlying23 HI.out.1 HI.out.2.1 HI.out.2.2.1 HI.out.2.2.2 rfl (by decide) _ k (Hi.lvs (lksOf l a k)) rfl (Y4.out.2.alloc _) ⟨y4.heap.size, 0, none⟩ 1 1 (Hi.lvs [⟨X0, X3, X1, X2⟩]) rfl rfl (by exact Hi.new_cells y4 (Hi.lvs [⟨X0, X3, X1, X2⟩]) 43) (Hi.lvs_one _) (by unfold maxLen; omega) (by omega) (by have := Y4.out.1.size; simp; omega) ?_; intro v5 w5 hown5 hgr5 _; have H5 : Hid (w5.ownsRow w.heap.size 43 4 v5 (k + 1) (Hi.lvs (lksOf l a (k + 1))) ∧ Below w.heap.size w w5) := ⟨by rw [HTK.out, Hi.lvs_append]; exact hown5, Hi.below_grown (Y4.out.1.alloc Y4.out.1.size _) (Y4.out.2.alloc _) hgr5 (by have := Y4.out.1.size; simp; omega)⟩; clear hown5 hgr5; obtain ⟨po, pc, hv5⟩ := Hi.own_slice H5.out.1; subst hv5)
      go_roundw
      case rel => exact ⟨k + 1, po, pc, by omega, by go_num, rfl, H5.out.1, H5.out.2⟩
      case measure => simp [intOf]; omega
    · obtain rfl : k = c := by omega
      go_wp2_with fail
      go_ret
      exact ⟨qo, qc, rfl, HK.out.1, HK.out.2⟩
end Go.Proofs.YtamedcnjanichabGreatDoor

namespace Go.Proofs.YtamedcnjanichabGreatDoor
open Go.RowKit Go.Extern Cr

attribute [local go_sem] Oper.semAt_some

theorem frame_fin (w y : World) (lb : Option Addr) (i c : Int) (hz : y.heap[w.heap.size]? = some (.cells #[.int .i64 0, .slice none 0 0] 46)) (hb : Below w.heap.size w y) (hp : HasPlaces y (.slice lb 1 1) [(2, i)]) :
    ((y.setCell ⟨w.heap.size, 0, none⟩ (.int .i64 c)).setCell ⟨w.heap.size, 1, none⟩ (.slice lb 1 1)).cell? ⟨w.heap.size, 0, none⟩ = some (.int .i64 c) ∧ ((y.setCell ⟨w.heap.size, 0, none⟩ (.int .i64 c)).setCell ⟨w.heap.size, 1, none⟩ (.slice lb 1 1)).cell? ⟨w.heap.size, 1, none⟩ = some (.slice lb 1 1) ∧ HasPlaces ((y.setCell ⟨w.heap.size, 0, none⟩ (.int .i64 c)).setCell ⟨w.heap.size, 1, none⟩ (.slice lb 1 1)) (.slice lb 1 1) [(2, i)] ∧ Below w.heap.size w ((y.setCell ⟨w.heap.size, 0, none⟩ (.int .i64 c)).setCell ⟨w.heap.size, 1, none⟩ (.slice lb 1 1)) := by
  obtain ⟨u0, u1, _, _⟩ := cell2I (set2I (v0 := .int .i64 c) (v1 := .slice lb 1 1) hz)
  exact ⟨u0, u1, places_setI hp hz _ _, hb.trans (below2I (Nat.le_refl _))⟩

set_option maxRecDepth 100000 in
set_option maxHeartbeats 8000000 in
theorem jFrame_calls (lo : Option Addr) (lc : Nat) (l : List Nat) (w : World) (hl : HasB w (.slice lo l.length lc) l) (hb : Bts l) (hm : l.length ≤ 1073741824) (hcap : l.length ≤ lc) :
    Calls Tryz.prog 27 #[.slice lo l.length lc] w fun e w' => ∃ (n u d : Nat) (lb : Option Addr) (cb : Nat), e = .returned (.tuple #[.int .i64 (n : Int), .int .i64 (u : Int), .int .i64 (d : Int), .agg #[.int .i64 (fE l).1, .slice lb (fE l).2.length cb]]) ∧ HasPlaces w' (.slice lb (fE l).2.length cb) (fE l).2 ∧ (fE l = (0, []) → n = cN l ∧ u = cU l ∧ d = cD l) ∧ Below w.heap.size w w' := by
  obtain ⟨W0, hW0⟩ : ∃ W0, w.alloc (.cells #[.int .i64 0, .slice none 0 0] 46) = W0 := ⟨_, rfl⟩
  have HW0 : Hid (w.alloc (.cells #[.int .i64 0, .slice none 0 0] 46) = W0) := hW0
  have hB0 : Below w.heap.size w W0 := by rw [← hW0]; exact (Below.refl _ _).alloc (Nat.le_refl _) _
  have hbx : W0.heap[w.heap.size]? = some (.cells #[.int .i64 0, .slice none 0 0] 46) := by rw [← hW0]; exact heap_new _ _
  have HX : Hid (∀ wx, Below W0.heap.size W0 wx → wx.heap[w.heap.size]? = some (.cells #[.int .i64 0, .slice none 0 0] 46) ∧ Below w.heap.size w wx ∧ HasB wx (.slice lo l.length lc) l) := fun wx hx => ⟨(hx.block _ (w_lt_get hbx)).trans hbx, hB0.trans (hx.mono hB0.size), hl.keep (hB0.trans (hx.mono hB0.size))⟩
  have HB8 : Hid (Bts l) := hb
  clear hW0 hB0 hbx hl hb
  go_enter Tryz.func27, Tryz.ntmps27
  go_upto_region 1 with fail
  rw [HW0.out]
  by_cases h32 : l.length < 32
  · have i1 : (l.length : Int) < 32 := by omega
    have hE : fE l = (10, [(2, (l.length : Int))]) := by unfold fE; rw [if_pos h32]
    go_wp2_with fail
    refine (jAt_calls (l.length : Int) 10 _).mono ?_
    rintro e yb ⟨lb, rfl, hp, hb⟩
    have YB : Hid (HasPlaces yb (.slice lb 1 1) [(2, (l.length : Int))] ∧ Below W0.heap.size W0 yb) := ⟨hp, btrI (Below.refl _ _) hb⟩
    clear hp hb
    obtain ⟨hz, hb9, _⟩ := HX.out yb YB.out.2
    obtain ⟨r0, r1, f0, f1⟩ := cell2I hz
    have rs := w_lt_get hz
    have HF : Hid (type_of% (frame_fin w yb lb (l.length : Int) 10 hz hb9 YB.out.1)) := frame_fin w yb lb (l.length : Int) 10 hz hb9 YB.out.1
    clear hz hb9
    go_wp2
    obtain ⟨p0, p1, p2, p3⟩ := HF.out
    refine bodyPost_ret (v := .tuple #[.int .i64 0, .int .i64 0, .int .i64 0, .agg #[.int .i64 10, .slice lb 1 1]]) (by simp [results, Tryz.results27, go_sem, p0, p1]) rfl ?_
    rw [hE]
    exact ⟨0, 0, 0, lb, 1, rfl, p2, fun h => by simp at h, p3⟩
  · have i1 : ¬ ((l.length : Int) < 32) := by omega
    go_wp2_with fail
    refine (jHead_calls W0).mono ?_
    rintro e y1 ⟨mo, mc, rfl, ho, hb⟩
    have Y1 : Hid (Below W0.heap.size W0 y1 ∧ HasB y1 (.slice mo 8 mc) head8) := ⟨hb, hasB_own ho⟩
    clear ho hb
    go_wp2_with fail
    go_loopw [20] (fun iv wr => ∃ k : Nat, k ≤ 8 ∧ iv = .int .i64 (k : Nat) ∧ (∀ i, i < k → l[i]? = head8[i]?) ∧ Below y1.heap.size y1 wr) (fun iv _ => 8 - (intOf iv).toNat)
    case atStart => exact ⟨0, by omega, rfl, fun i hi => by omega, Below.refl _ _⟩
    case round =>
      obtain ⟨k, hk, rfl, hso, hbw⟩ := hrel
      have HB : Hid (Below y1.heap.size y1 wr ∧ ∀ i, i < k → l[i]? = head8[i]?) := ⟨hbw, hso⟩
      have hlx := (HX.out wr (btrI Y1.out.1 hbw)).2.2
      have hhx := Y1.out.2.keep hbw
      clear hbw hso
      rcases (show k = 0 ∨ k = 1 ∨ k = 2 ∨ k = 3 ∨ k = 4 ∨ k = 5 ∨ k = 6 ∨ k = 7 ∨ k = 8 by omega) with rfl | rfl | rfl | rfl | rfl | rfl | rfl | rfl | rfl
      · obtain ⟨b, off, rfl, bl, p0⟩ := hlx.at (get_of (l := l) (i := 0) (by omega))
        obtain ⟨bh, oh, rfl, bhl, ph⟩ := hhx.at (show head8[0]? = some 86 from rfl)
        rw [Nat.add_zero] at p0 ph
        have i2 : (0 : Int) < (l.length : Int) := by omega
        by_cases hx : l.getD 0 0 = 86
        · rw [hx] at p0
          have HNX : Hid (∀ i, i < 1 → l[i]? = head8[i]?) := fun i hi => by
            by_cases h : i < 0
            · exact HB.out.2 i h
            · obtain rfl : i = 0 := by omega
              rw [get_of (by omega), hx]
              rfl
          clear hlx hhx hx
          go_wp2
          go_roundw
          case rel => exact ⟨1, by omega, by go_num, HNX.out, HB.out.1⟩
          case measure => simp [intOf]
        · have hE : fE l = (11, [(2, 0)]) := by unfold fE; rw [if_neg h32, if_pos hx]
          have HE : Hid (fE l = (11, [(2, 0)])) := hE
          clear hlx hhx hE
          generalize l.getD 0 0 = x at *
          have n1 : ¬ ((x : Int) = 86) := by omega
          go_wp2_with fail
          refine (jAt_calls 0 11 _).mono ?_
          rintro e yb ⟨lb, rfl, hp, hb⟩
          have YB : Hid (HasPlaces yb (.slice lb 1 1) [(2, 0)] ∧ Below W0.heap.size W0 yb) := ⟨hp, btrI (btrI Y1.out.1 HB.out.1) hb⟩
          clear hp hb
          obtain ⟨hz, hb9, _⟩ := HX.out yb YB.out.2
          obtain ⟨r0, r1, f0, f1⟩ := cell2I hz
          have rs := w_lt_get hz
          have HF : Hid (type_of% (frame_fin w yb lb 0 11 hz hb9 YB.out.1)) := frame_fin w yb lb 0 11 hz hb9 YB.out.1
          clear hz hb9
          go_wp2
          obtain ⟨p0, p1, p2, p3⟩ := HF.out
          refine bodyPost_ret (v := .tuple #[.int .i64 0, .int .i64 0, .int .i64 0, .agg #[.int .i64 11, .slice lb 1 1]]) (by simp [results, Tryz.results27, go_sem, p0, p1]) rfl ?_
          rw [HE.out]
          exact ⟨0, 0, 0, lb, 1, rfl, p2, fun h => by simp at h, p3⟩
      · obtain ⟨b, off, rfl, bl, p0⟩ := hlx.at (get_of (l := l) (i := 1) (by omega))
        obtain ⟨bh, oh, rfl, bhl, ph⟩ := hhx.at (show head8[1]? = some 68 from rfl)
        have i2 : (1 : Int) < (l.length : Int) := by omega
        have k0 : l.getD 0 0 = 86 := by rw [List.getD_eq_getElem?_getD, HB.out.2 0 (by omega)]; rfl
        by_cases hx : l.getD 1 0 = 68
        · rw [hx] at p0
          have HNX : Hid (∀ i, i < 2 → l[i]? = head8[i]?) := fun i hi => by
            by_cases h : i < 1
            · exact HB.out.2 i h
            · obtain rfl : i = 1 := by omega
              rw [get_of (by omega), hx]
              rfl
          clear hlx hhx hx k0
          go_wp2
          go_roundw
          case rel => exact ⟨2, by omega, by go_num, HNX.out, HB.out.1⟩
          case measure => simp [intOf]
        · have hE : fE l = (11, [(2, 1)]) := by unfold fE; rw [if_neg h32, if_neg (by rw [k0]; decide), if_pos hx]
          have HE : Hid (fE l = (11, [(2, 1)])) := hE
          clear hlx hhx hE k0
          generalize l.getD 1 0 = x at *
          have n1 : ¬ ((x : Int) = 68) := by omega
          go_wp2_with fail
          refine (jAt_calls 1 11 _).mono ?_
          rintro e yb ⟨lb, rfl, hp, hb⟩
          have YB : Hid (HasPlaces yb (.slice lb 1 1) [(2, 1)] ∧ Below W0.heap.size W0 yb) := ⟨hp, btrI (btrI Y1.out.1 HB.out.1) hb⟩
          clear hp hb
          obtain ⟨hz, hb9, _⟩ := HX.out yb YB.out.2
          obtain ⟨r0, r1, f0, f1⟩ := cell2I hz
          have rs := w_lt_get hz
          have HF : Hid (type_of% (frame_fin w yb lb 1 11 hz hb9 YB.out.1)) := frame_fin w yb lb 1 11 hz hb9 YB.out.1
          clear hz hb9
          go_wp2
          obtain ⟨p0, p1, p2, p3⟩ := HF.out
          refine bodyPost_ret (v := .tuple #[.int .i64 0, .int .i64 0, .int .i64 0, .agg #[.int .i64 11, .slice lb 1 1]]) (by simp [results, Tryz.results27, go_sem, p0, p1]) rfl ?_
          rw [HE.out]
          exact ⟨0, 0, 0, lb, 1, rfl, p2, fun h => by simp at h, p3⟩
      · obtain ⟨b, off, rfl, bl, p0⟩ := hlx.at (get_of (l := l) (i := 2) (by omega))
        obtain ⟨bh, oh, rfl, bhl, ph⟩ := hhx.at (show head8[2]? = some 67 from rfl)
        have i2 : (2 : Int) < (l.length : Int) := by omega
        have k0 : l.getD 0 0 = 86 := by rw [List.getD_eq_getElem?_getD, HB.out.2 0 (by omega)]; rfl
        have k1 : l.getD 1 0 = 68 := by rw [List.getD_eq_getElem?_getD, HB.out.2 1 (by omega)]; rfl
        by_cases hx : l.getD 2 0 = 67
        · rw [hx] at p0
          have HNX : Hid (∀ i, i < 3 → l[i]? = head8[i]?) := fun i hi => by
            by_cases h : i < 2
            · exact HB.out.2 i h
            · obtain rfl : i = 2 := by omega
              rw [get_of (by omega), hx]
              rfl
          clear hlx hhx hx k0 k1
          go_wp2
          go_roundw
          case rel => exact ⟨3, by omega, by go_num, HNX.out, HB.out.1⟩
          case measure => simp [intOf]
        · have hE : fE l = (11, [(2, 2)]) := by unfold fE; rw [if_neg h32, if_neg (by rw [k0]; decide), if_neg (by rw [k1]; decide), if_pos hx]
          have HE : Hid (fE l = (11, [(2, 2)])) := hE
          clear hlx hhx hE k0 k1
          generalize l.getD 2 0 = x at *
          have n1 : ¬ ((x : Int) = 67) := by omega
          go_wp2_with fail
          refine (jAt_calls 2 11 _).mono ?_
          rintro e yb ⟨lb, rfl, hp, hb⟩
          have YB : Hid (HasPlaces yb (.slice lb 1 1) [(2, 2)] ∧ Below W0.heap.size W0 yb) := ⟨hp, btrI (btrI Y1.out.1 HB.out.1) hb⟩
          clear hp hb
          obtain ⟨hz, hb9, _⟩ := HX.out yb YB.out.2
          obtain ⟨r0, r1, f0, f1⟩ := cell2I hz
          have rs := w_lt_get hz
          have HF : Hid (type_of% (frame_fin w yb lb 2 11 hz hb9 YB.out.1)) := frame_fin w yb lb 2 11 hz hb9 YB.out.1
          clear hz hb9
          go_wp2
          obtain ⟨p0, p1, p2, p3⟩ := HF.out
          refine bodyPost_ret (v := .tuple #[.int .i64 0, .int .i64 0, .int .i64 0, .agg #[.int .i64 11, .slice lb 1 1]]) (by simp [results, Tryz.results27, go_sem, p0, p1]) rfl ?_
          rw [HE.out]
          exact ⟨0, 0, 0, lb, 1, rfl, p2, fun h => by simp at h, p3⟩
      · obtain ⟨b, off, rfl, bl, p0⟩ := hlx.at (get_of (l := l) (i := 3) (by omega))
        obtain ⟨bh, oh, rfl, bhl, ph⟩ := hhx.at (show head8[3]? = some 84 from rfl)
        have i2 : (3 : Int) < (l.length : Int) := by omega
        have k0 : l.getD 0 0 = 86 := by rw [List.getD_eq_getElem?_getD, HB.out.2 0 (by omega)]; rfl
        have k1 : l.getD 1 0 = 68 := by rw [List.getD_eq_getElem?_getD, HB.out.2 1 (by omega)]; rfl
        have k2 : l.getD 2 0 = 67 := by rw [List.getD_eq_getElem?_getD, HB.out.2 2 (by omega)]; rfl
        by_cases hx : l.getD 3 0 = 84
        · rw [hx] at p0
          have HNX : Hid (∀ i, i < 4 → l[i]? = head8[i]?) := fun i hi => by
            by_cases h : i < 3
            · exact HB.out.2 i h
            · obtain rfl : i = 3 := by omega
              rw [get_of (by omega), hx]
              rfl
          clear hlx hhx hx k0 k1 k2
          go_wp2
          go_roundw
          case rel => exact ⟨4, by omega, by go_num, HNX.out, HB.out.1⟩
          case measure => simp [intOf]
        · have hE : fE l = (11, [(2, 3)]) := by unfold fE; rw [if_neg h32, if_neg (by rw [k0]; decide), if_neg (by rw [k1]; decide), if_neg (by rw [k2]; decide), if_pos hx]
          have HE : Hid (fE l = (11, [(2, 3)])) := hE
          clear hlx hhx hE k0 k1 k2
          generalize l.getD 3 0 = x at *
          have n1 : ¬ ((x : Int) = 84) := by omega
          go_wp2_with fail
          refine (jAt_calls 3 11 _).mono ?_
          rintro e yb ⟨lb, rfl, hp, hb⟩
          have YB : Hid (HasPlaces yb (.slice lb 1 1) [(2, 3)] ∧ Below W0.heap.size W0 yb) := ⟨hp, btrI (btrI Y1.out.1 HB.out.1) hb⟩
          clear hp hb
          obtain ⟨hz, hb9, _⟩ := HX.out yb YB.out.2
          obtain ⟨r0, r1, f0, f1⟩ := cell2I hz
          have rs := w_lt_get hz
          have HF : Hid (type_of% (frame_fin w yb lb 3 11 hz hb9 YB.out.1)) := frame_fin w yb lb 3 11 hz hb9 YB.out.1
          clear hz hb9
          go_wp2
          obtain ⟨p0, p1, p2, p3⟩ := HF.out
          refine bodyPost_ret (v := .tuple #[.int .i64 0, .int .i64 0, .int .i64 0, .agg #[.int .i64 11, .slice lb 1 1]]) (by simp [results, Tryz.results27, go_sem, p0, p1]) rfl ?_
          rw [HE.out]
          exact ⟨0, 0, 0, lb, 1, rfl, p2, fun h => by simp at h, p3⟩
      · obtain ⟨b, off, rfl, bl, p0⟩ := hlx.at (get_of (l := l) (i := 4) (by omega))
        obtain ⟨bh, oh, rfl, bhl, ph⟩ := hhx.at (show head8[4]? = some 1 from rfl)
        have i2 : (4 : Int) < (l.length : Int) := by omega
        have k0 : l.getD 0 0 = 86 := by rw [List.getD_eq_getElem?_getD, HB.out.2 0 (by omega)]; rfl
        have k1 : l.getD 1 0 = 68 := by rw [List.getD_eq_getElem?_getD, HB.out.2 1 (by omega)]; rfl
        have k2 : l.getD 2 0 = 67 := by rw [List.getD_eq_getElem?_getD, HB.out.2 2 (by omega)]; rfl
        have k3 : l.getD 3 0 = 84 := by rw [List.getD_eq_getElem?_getD, HB.out.2 3 (by omega)]; rfl
        by_cases hx : l.getD 4 0 = 1
        · rw [hx] at p0
          have HNX : Hid (∀ i, i < 5 → l[i]? = head8[i]?) := fun i hi => by
            by_cases h : i < 4
            · exact HB.out.2 i h
            · obtain rfl : i = 4 := by omega
              rw [get_of (by omega), hx]
              rfl
          clear hlx hhx hx k0 k1 k2 k3
          go_wp2
          go_roundw
          case rel => exact ⟨5, by omega, by go_num, HNX.out, HB.out.1⟩
          case measure => simp [intOf]
        · have hE : fE l = (12, [(2, 4)]) := by unfold fE; rw [if_neg h32, if_neg (by rw [k0]; decide), if_neg (by rw [k1]; decide), if_neg (by rw [k2]; decide), if_neg (by rw [k3]; decide), if_pos hx]
          have HE : Hid (fE l = (12, [(2, 4)])) := hE
          clear hlx hhx hE k0 k1 k2 k3
          generalize l.getD 4 0 = x at *
          have n1 : ¬ ((x : Int) = 1) := by omega
          go_wp2_with fail
          refine (jAt_calls 4 12 _).mono ?_
          rintro e yb ⟨lb, rfl, hp, hb⟩
          have YB : Hid (HasPlaces yb (.slice lb 1 1) [(2, 4)] ∧ Below W0.heap.size W0 yb) := ⟨hp, btrI (btrI Y1.out.1 HB.out.1) hb⟩
          clear hp hb
          obtain ⟨hz, hb9, _⟩ := HX.out yb YB.out.2
          obtain ⟨r0, r1, f0, f1⟩ := cell2I hz
          have rs := w_lt_get hz
          have HF : Hid (type_of% (frame_fin w yb lb 4 12 hz hb9 YB.out.1)) := frame_fin w yb lb 4 12 hz hb9 YB.out.1
          clear hz hb9
          go_wp2
          obtain ⟨p0, p1, p2, p3⟩ := HF.out
          refine bodyPost_ret (v := .tuple #[.int .i64 0, .int .i64 0, .int .i64 0, .agg #[.int .i64 12, .slice lb 1 1]]) (by simp [results, Tryz.results27, go_sem, p0, p1]) rfl ?_
          rw [HE.out]
          exact ⟨0, 0, 0, lb, 1, rfl, p2, fun h => by simp at h, p3⟩
      · obtain ⟨b, off, rfl, bl, p0⟩ := hlx.at (get_of (l := l) (i := 5) (by omega))
        obtain ⟨bh, oh, rfl, bhl, ph⟩ := hhx.at (show head8[5]? = some 0 from rfl)
        have i2 : (5 : Int) < (l.length : Int) := by omega
        have k0 : l.getD 0 0 = 86 := by rw [List.getD_eq_getElem?_getD, HB.out.2 0 (by omega)]; rfl
        have k1 : l.getD 1 0 = 68 := by rw [List.getD_eq_getElem?_getD, HB.out.2 1 (by omega)]; rfl
        have k2 : l.getD 2 0 = 67 := by rw [List.getD_eq_getElem?_getD, HB.out.2 2 (by omega)]; rfl
        have k3 : l.getD 3 0 = 84 := by rw [List.getD_eq_getElem?_getD, HB.out.2 3 (by omega)]; rfl
        have k4 : l.getD 4 0 = 1 := by rw [List.getD_eq_getElem?_getD, HB.out.2 4 (by omega)]; rfl
        by_cases hx : l.getD 5 0 = 0
        · rw [hx] at p0
          have HNX : Hid (∀ i, i < 6 → l[i]? = head8[i]?) := fun i hi => by
            by_cases h : i < 5
            · exact HB.out.2 i h
            · obtain rfl : i = 5 := by omega
              rw [get_of (by omega), hx]
              rfl
          clear hlx hhx hx k0 k1 k2 k3 k4
          go_wp2
          go_roundw
          case rel => exact ⟨6, by omega, by go_num, HNX.out, HB.out.1⟩
          case measure => simp [intOf]
        · have hE : fE l = (12, [(2, 5)]) := by unfold fE; rw [if_neg h32, if_neg (by rw [k0]; decide), if_neg (by rw [k1]; decide), if_neg (by rw [k2]; decide), if_neg (by rw [k3]; decide), if_neg (by rw [k4]; decide), if_pos hx]
          have HE : Hid (fE l = (12, [(2, 5)])) := hE
          clear hlx hhx hE k0 k1 k2 k3 k4
          generalize l.getD 5 0 = x at *
          have n1 : ¬ ((x : Int) = 0) := by omega
          go_wp2_with fail
          refine (jAt_calls 5 12 _).mono ?_
          rintro e yb ⟨lb, rfl, hp, hb⟩
          have YB : Hid (HasPlaces yb (.slice lb 1 1) [(2, 5)] ∧ Below W0.heap.size W0 yb) := ⟨hp, btrI (btrI Y1.out.1 HB.out.1) hb⟩
          clear hp hb
          obtain ⟨hz, hb9, _⟩ := HX.out yb YB.out.2
          obtain ⟨r0, r1, f0, f1⟩ := cell2I hz
          have rs := w_lt_get hz
          have HF : Hid (type_of% (frame_fin w yb lb 5 12 hz hb9 YB.out.1)) := frame_fin w yb lb 5 12 hz hb9 YB.out.1
          clear hz hb9
          go_wp2
          obtain ⟨p0, p1, p2, p3⟩ := HF.out
          refine bodyPost_ret (v := .tuple #[.int .i64 0, .int .i64 0, .int .i64 0, .agg #[.int .i64 12, .slice lb 1 1]]) (by simp [results, Tryz.results27, go_sem, p0, p1]) rfl ?_
          rw [HE.out]
          exact ⟨0, 0, 0, lb, 1, rfl, p2, fun h => by simp at h, p3⟩
      · obtain ⟨b, off, rfl, bl, p0⟩ := hlx.at (get_of (l := l) (i := 6) (by omega))
        obtain ⟨bh, oh, rfl, bhl, ph⟩ := hhx.at (show head8[6]? = some 0 from rfl)
        have i2 : (6 : Int) < (l.length : Int) := by omega
        have k0 : l.getD 0 0 = 86 := by rw [List.getD_eq_getElem?_getD, HB.out.2 0 (by omega)]; rfl
        have k1 : l.getD 1 0 = 68 := by rw [List.getD_eq_getElem?_getD, HB.out.2 1 (by omega)]; rfl
        have k2 : l.getD 2 0 = 67 := by rw [List.getD_eq_getElem?_getD, HB.out.2 2 (by omega)]; rfl
        have k3 : l.getD 3 0 = 84 := by rw [List.getD_eq_getElem?_getD, HB.out.2 3 (by omega)]; rfl
        have k4 : l.getD 4 0 = 1 := by rw [List.getD_eq_getElem?_getD, HB.out.2 4 (by omega)]; rfl
        have k5 : l.getD 5 0 = 0 := by rw [List.getD_eq_getElem?_getD, HB.out.2 5 (by omega)]; rfl
        by_cases hx : l.getD 6 0 = 0
        · rw [hx] at p0
          have HNX : Hid (∀ i, i < 7 → l[i]? = head8[i]?) := fun i hi => by
            by_cases h : i < 6
            · exact HB.out.2 i h
            · obtain rfl : i = 6 := by omega
              rw [get_of (by omega), hx]
              rfl
          clear hlx hhx hx k0 k1 k2 k3 k4 k5
          go_wp2
          go_roundw
          case rel => exact ⟨7, by omega, by go_num, HNX.out, HB.out.1⟩
          case measure => simp [intOf]
        · have hE : fE l = (12, [(2, 6)]) := by unfold fE; rw [if_neg h32, if_neg (by rw [k0]; decide), if_neg (by rw [k1]; decide), if_neg (by rw [k2]; decide), if_neg (by rw [k3]; decide), if_neg (by rw [k4]; decide), if_neg (by rw [k5]; decide), if_pos hx]
          have HE : Hid (fE l = (12, [(2, 6)])) := hE
          clear hlx hhx hE k0 k1 k2 k3 k4 k5
          generalize l.getD 6 0 = x at *
          have n1 : ¬ ((x : Int) = 0) := by omega
          go_wp2_with fail
          refine (jAt_calls 6 12 _).mono ?_
          rintro e yb ⟨lb, rfl, hp, hb⟩
          have YB : Hid (HasPlaces yb (.slice lb 1 1) [(2, 6)] ∧ Below W0.heap.size W0 yb) := ⟨hp, btrI (btrI Y1.out.1 HB.out.1) hb⟩
          clear hp hb
          obtain ⟨hz, hb9, _⟩ := HX.out yb YB.out.2
          obtain ⟨r0, r1, f0, f1⟩ := cell2I hz
          have rs := w_lt_get hz
          have HF : Hid (type_of% (frame_fin w yb lb 6 12 hz hb9 YB.out.1)) := frame_fin w yb lb 6 12 hz hb9 YB.out.1
          clear hz hb9
          go_wp2
          obtain ⟨p0, p1, p2, p3⟩ := HF.out
          refine bodyPost_ret (v := .tuple #[.int .i64 0, .int .i64 0, .int .i64 0, .agg #[.int .i64 12, .slice lb 1 1]]) (by simp [results, Tryz.results27, go_sem, p0, p1]) rfl ?_
          rw [HE.out]
          exact ⟨0, 0, 0, lb, 1, rfl, p2, fun h => by simp at h, p3⟩
      · obtain ⟨b, off, rfl, bl, p0⟩ := hlx.at (get_of (l := l) (i := 7) (by omega))
        obtain ⟨bh, oh, rfl, bhl, ph⟩ := hhx.at (show head8[7]? = some 0 from rfl)
        have i2 : (7 : Int) < (l.length : Int) := by omega
        have k0 : l.getD 0 0 = 86 := by rw [List.getD_eq_getElem?_getD, HB.out.2 0 (by omega)]; rfl
        have k1 : l.getD 1 0 = 68 := by rw [List.getD_eq_getElem?_getD, HB.out.2 1 (by omega)]; rfl
        have k2 : l.getD 2 0 = 67 := by rw [List.getD_eq_getElem?_getD, HB.out.2 2 (by omega)]; rfl
        have k3 : l.getD 3 0 = 84 := by rw [List.getD_eq_getElem?_getD, HB.out.2 3 (by omega)]; rfl
        have k4 : l.getD 4 0 = 1 := by rw [List.getD_eq_getElem?_getD, HB.out.2 4 (by omega)]; rfl
        have k5 : l.getD 5 0 = 0 := by rw [List.getD_eq_getElem?_getD, HB.out.2 5 (by omega)]; rfl
        have k6 : l.getD 6 0 = 0 := by rw [List.getD_eq_getElem?_getD, HB.out.2 6 (by omega)]; rfl
        by_cases hx : l.getD 7 0 = 0
        · rw [hx] at p0
          have HNX : Hid (∀ i, i < 8 → l[i]? = head8[i]?) := fun i hi => by
            by_cases h : i < 7
            · exact HB.out.2 i h
            · obtain rfl : i = 7 := by omega
              rw [get_of (by omega), hx]
              rfl
          clear hlx hhx hx k0 k1 k2 k3 k4 k5 k6
          go_wp2
          go_roundw
          case rel => exact ⟨8, by omega, by go_num, HNX.out, HB.out.1⟩
          case measure => simp [intOf]
        · have hE : fE l = (12, [(2, 7)]) := by unfold fE; rw [if_neg h32, if_neg (by rw [k0]; decide), if_neg (by rw [k1]; decide), if_neg (by rw [k2]; decide), if_neg (by rw [k3]; decide), if_neg (by rw [k4]; decide), if_neg (by rw [k5]; decide), if_neg (by rw [k6]; decide), if_pos hx]
          have HE : Hid (fE l = (12, [(2, 7)])) := hE
          clear hlx hhx hE k0 k1 k2 k3 k4 k5 k6
          generalize l.getD 7 0 = x at *
          have n1 : ¬ ((x : Int) = 0) := by omega
          go_wp2_with fail
          refine (jAt_calls 7 12 _).mono ?_
          rintro e yb ⟨lb, rfl, hp, hb⟩
          have YB : Hid (HasPlaces yb (.slice lb 1 1) [(2, 7)] ∧ Below W0.heap.size W0 yb) := ⟨hp, btrI (btrI Y1.out.1 HB.out.1) hb⟩
          clear hp hb
          obtain ⟨hz, hb9, _⟩ := HX.out yb YB.out.2
          obtain ⟨r0, r1, f0, f1⟩ := cell2I hz
          have rs := w_lt_get hz
          have HF : Hid (type_of% (frame_fin w yb lb 7 12 hz hb9 YB.out.1)) := frame_fin w yb lb 7 12 hz hb9 YB.out.1
          clear hz hb9
          go_wp2
          obtain ⟨p0, p1, p2, p3⟩ := HF.out
          refine bodyPost_ret (v := .tuple #[.int .i64 0, .int .i64 0, .int .i64 0, .agg #[.int .i64 12, .slice lb 1 1]]) (by simp [results, Tryz.results27, go_sem, p0, p1]) rfl ?_
          rw [HE.out]
          exact ⟨0, 0, 0, lb, 1, rfl, p2, fun h => by simp at h, p3⟩
      · clear hhx hlx
        have k0 : l.getD 0 0 = 86 := by rw [List.getD_eq_getElem?_getD, HB.out.2 0 (by omega)]; rfl
        have k1 : l.getD 1 0 = 68 := by rw [List.getD_eq_getElem?_getD, HB.out.2 1 (by omega)]; rfl
        have k2 : l.getD 2 0 = 67 := by rw [List.getD_eq_getElem?_getD, HB.out.2 2 (by omega)]; rfl
        have k3 : l.getD 3 0 = 84 := by rw [List.getD_eq_getElem?_getD, HB.out.2 3 (by omega)]; rfl
        have k4 : l.getD 4 0 = 1 := by rw [List.getD_eq_getElem?_getD, HB.out.2 4 (by omega)]; rfl
        have k5 : l.getD 5 0 = 0 := by rw [List.getD_eq_getElem?_getD, HB.out.2 5 (by omega)]; rfl
        have k6 : l.getD 6 0 = 0 := by rw [List.getD_eq_getElem?_getD, HB.out.2 6 (by omega)]; rfl
        have k7 : l.getD 7 0 = 0 := by rw [List.getD_eq_getElem?_getD, HB.out.2 7 (by omega)]; rfl
        have HR : Hid (Below W0.heap.size W0 wr) := btrI Y1.out.1 HB.out.1
        have TA : Hid (∀ wx, Below W0.heap.size W0 wx → Calls Tryz.prog 53 #[.slice lo l.length lc, .int .i64 8, .int .i64 4] wx fun e w' => e = .returned (.int .u64 ((cN l : Nat) : Int)) ∧ Below wx.heap.size wx w') := fun wx hx => vTake_calls lo lc l 8 4 wx (HX.out wx hx).2.2 HB8.out hm (by omega) (by omega)
        have qcN : cN l < 4294967296 := num_4 (piece_bts HB8.out 8 4) (piece_len (by omega))
        have wcN : IntKind.i64.wrap ((cN l : Nat) : Int) = ((cN l : Nat) : Int) := by rw [IntKind.wrap_i64]; omega
        have TB : Hid (∀ wx, Below W0.heap.size W0 wx → Calls Tryz.prog 53 #[.slice lo l.length lc, .int .i64 12, .int .i64 4] wx fun e w' => e = .returned (.int .u64 ((cU l : Nat) : Int)) ∧ Below wx.heap.size wx w') := fun wx hx => vTake_calls lo lc l 12 4 wx (HX.out wx hx).2.2 HB8.out hm (by omega) (by omega)
        have qcU : cU l < 4294967296 := num_4 (piece_bts HB8.out 12 4) (piece_len (by omega))
        have wcU : IntKind.i64.wrap ((cU l : Nat) : Int) = ((cU l : Nat) : Int) := by rw [IntKind.wrap_i64]; omega
        have TC : Hid (∀ wx, Below W0.heap.size W0 wx → Calls Tryz.prog 53 #[.slice lo l.length lc, .int .i64 16, .int .i64 4] wx fun e w' => e = .returned (.int .u64 ((cD l : Nat) : Int)) ∧ Below wx.heap.size wx w') := fun wx hx => vTake_calls lo lc l 16 4 wx (HX.out wx hx).2.2 HB8.out hm (by omega) (by omega)
        have qcD : cD l < 4294967296 := num_4 (piece_bts HB8.out 16 4) (piece_len (by omega))
        have wcD : IntKind.i64.wrap ((cD l : Nat) : Int) = ((cD l : Nat) : Int) := by rw [IntKind.wrap_i64]; omega
        go_wp2_with fail
        refine (TA.out _ HR.out).mono ?_
        rintro e ya ⟨rfl, hb⟩
        have V0 : Hid (Below W0.heap.size W0 ya) := btrI HR.out hb
        clear hb
        go_wp2_with fail
        refine (TB.out _ V0.out).mono ?_
        rintro e yb1 ⟨rfl, hb⟩
        have V1 : Hid (Below W0.heap.size W0 yb1) := btrI V0.out hb
        clear hb
        go_wp2_with fail
        refine (TC.out _ V1.out).mono ?_
        rintro e yc ⟨rfl, hb⟩
        have V2 : Hid (Below W0.heap.size W0 yc) := btrI V1.out hb
        clear hb
        by_cases m0 : 65536 < cN l
        case pos =>
          have i5 : ((cN l : Nat) : Int) > 65536 := by omega
          have hE : fE l = (9, [(2, 8)]) := by unfold fE; rw [if_neg h32, if_neg (by rw [k0]; decide), if_neg (by rw [k1]; decide), if_neg (by rw [k2]; decide), if_neg (by rw [k3]; decide), if_neg (by rw [k4]; decide), if_neg (by rw [k5]; decide), if_neg (by rw [k6]; decide), if_neg (by rw [k7]; decide), if_pos m0]
          go_wp2_with fail
          refine (jAt_calls 8 9 _).mono ?_
          rintro e yb ⟨lb, rfl, hp, hb⟩
          have YB : Hid (HasPlaces yb (.slice lb 1 1) [(2, 8)] ∧ Below W0.heap.size W0 yb) := ⟨hp, btrI (V2.out) hb⟩
          clear hp hb
          obtain ⟨hz, hb9, _⟩ := HX.out yb YB.out.2
          obtain ⟨r0, r1, f0, f1⟩ := cell2I hz
          have rs := w_lt_get hz
          have HF : Hid (type_of% (frame_fin w yb lb 8 9 hz hb9 YB.out.1)) := frame_fin w yb lb 8 9 hz hb9 YB.out.1
          clear hz hb9
          go_wp2
          obtain ⟨p0, p1, p2, p3⟩ := HF.out
          refine bodyPost_ret (v := .tuple #[.int .i64 0, .int .i64 0, .int .i64 0, .agg #[.int .i64 9, .slice lb 1 1]]) (by simp [results, Tryz.results27, go_sem, p0, p1]) rfl ?_
          rw [hE]
          exact ⟨0, 0, 0, lb, 1, rfl, p2, fun h => by simp at h, p3⟩
        have i6 : ¬ (((cN l : Nat) : Int) > 65536) := by omega
        by_cases m1 : 1048576 < cU l
        case pos =>
          have i5 : ((cU l : Nat) : Int) > 1048576 := by omega
          have hE : fE l = (9, [(2, 12)]) := by unfold fE; rw [if_neg h32, if_neg (by rw [k0]; decide), if_neg (by rw [k1]; decide), if_neg (by rw [k2]; decide), if_neg (by rw [k3]; decide), if_neg (by rw [k4]; decide), if_neg (by rw [k5]; decide), if_neg (by rw [k6]; decide), if_neg (by rw [k7]; decide), if_neg m0, if_pos m1]
          go_wp2_with fail
          refine (jAt_calls 12 9 _).mono ?_
          rintro e yb ⟨lb, rfl, hp, hb⟩
          have YB : Hid (HasPlaces yb (.slice lb 1 1) [(2, 12)] ∧ Below W0.heap.size W0 yb) := ⟨hp, btrI (V2.out) hb⟩
          clear hp hb
          obtain ⟨hz, hb9, _⟩ := HX.out yb YB.out.2
          obtain ⟨r0, r1, f0, f1⟩ := cell2I hz
          have rs := w_lt_get hz
          have HF : Hid (type_of% (frame_fin w yb lb 12 9 hz hb9 YB.out.1)) := frame_fin w yb lb 12 9 hz hb9 YB.out.1
          clear hz hb9
          go_wp2
          obtain ⟨p0, p1, p2, p3⟩ := HF.out
          refine bodyPost_ret (v := .tuple #[.int .i64 0, .int .i64 0, .int .i64 0, .agg #[.int .i64 9, .slice lb 1 1]]) (by simp [results, Tryz.results27, go_sem, p0, p1]) rfl ?_
          rw [hE]
          exact ⟨0, 0, 0, lb, 1, rfl, p2, fun h => by simp at h, p3⟩
        have i7 : ¬ (((cU l : Nat) : Int) > 1048576) := by omega
        by_cases m2 : 1048576 < cD l
        case pos =>
          have i5 : ((cD l : Nat) : Int) > 1048576 := by omega
          have hE : fE l = (9, [(2, 16)]) := by unfold fE; rw [if_neg h32, if_neg (by rw [k0]; decide), if_neg (by rw [k1]; decide), if_neg (by rw [k2]; decide), if_neg (by rw [k3]; decide), if_neg (by rw [k4]; decide), if_neg (by rw [k5]; decide), if_neg (by rw [k6]; decide), if_neg (by rw [k7]; decide), if_neg m0, if_neg m1, if_pos m2]
          go_wp2_with fail
          refine (jAt_calls 16 9 _).mono ?_
          rintro e yb ⟨lb, rfl, hp, hb⟩
          have YB : Hid (HasPlaces yb (.slice lb 1 1) [(2, 16)] ∧ Below W0.heap.size W0 yb) := ⟨hp, btrI (V2.out) hb⟩
          clear hp hb
          obtain ⟨hz, hb9, _⟩ := HX.out yb YB.out.2
          obtain ⟨r0, r1, f0, f1⟩ := cell2I hz
          have rs := w_lt_get hz
          have HF : Hid (type_of% (frame_fin w yb lb 16 9 hz hb9 YB.out.1)) := frame_fin w yb lb 16 9 hz hb9 YB.out.1
          clear hz hb9
          go_wp2
          obtain ⟨p0, p1, p2, p3⟩ := HF.out
          refine bodyPost_ret (v := .tuple #[.int .i64 0, .int .i64 0, .int .i64 0, .agg #[.int .i64 9, .slice lb 1 1]]) (by simp [results, Tryz.results27, go_sem, p0, p1]) rfl ?_
          rw [hE]
          exact ⟨0, 0, 0, lb, 1, rfl, p2, fun h => by simp at h, p3⟩
        have i8 : ¬ (((cD l : Nat) : Int) > 1048576) := by omega
        have ZS : Hid (∀ wx, Calls Tryz.prog 54 #[.int .i64 ((cN l : Nat) : Int), .int .i64 ((cU l : Nat) : Int), .int .i64 ((cD l : Nat) : Int)] wx fun e w' => e = .returned (.int .i64 ((szM l : Nat) : Int)) ∧ w' = wx) := fun wx => jSize_calls (cN l) (cU l) (cD l) (by omega) (by omega) (by omega) wx
        have qS : szM l ≤ 100000000 := by have e : szM l = 32 + 12 * cN l + 20 * (cU l + cD l) := rfl; omega
        have q4 : 32 ≤ szM l := by have e : szM l = 32 + 12 * cN l + 20 * (cU l + cD l) := rfl; omega
        go_wp2_with fail
        refine (ZS.out _).mono ?_
        rintro e yd ⟨rfl, hy⟩
        have hy' := hy.symm
        clear hy
        subst hy'
        by_cases n1 : l.length < szM l
        case pos =>
          have i9 : (l.length : Int) < ((szM l : Nat) : Int) := by omega
          have hE : fE l = (10, [(2, (l.length : Int))]) := by unfold fE; rw [if_neg h32, if_neg (by rw [k0]; decide), if_neg (by rw [k1]; decide), if_neg (by rw [k2]; decide), if_neg (by rw [k3]; decide), if_neg (by rw [k4]; decide), if_neg (by rw [k5]; decide), if_neg (by rw [k6]; decide), if_neg (by rw [k7]; decide), if_neg m0, if_neg m1, if_neg m2, if_pos n1]
          go_wp2_with fail
          refine (jAt_calls (l.length : Int) 10 _).mono ?_
          rintro e yb ⟨lb, rfl, hp, hb⟩
          have YB : Hid (HasPlaces yb (.slice lb 1 1) [(2, (l.length : Int))] ∧ Below W0.heap.size W0 yb) := ⟨hp, btrI (V2.out) hb⟩
          clear hp hb
          obtain ⟨hz, hb9, _⟩ := HX.out yb YB.out.2
          obtain ⟨r0, r1, f0, f1⟩ := cell2I hz
          have rs := w_lt_get hz
          have HF : Hid (type_of% (frame_fin w yb lb (l.length : Int) 10 hz hb9 YB.out.1)) := frame_fin w yb lb (l.length : Int) 10 hz hb9 YB.out.1
          clear hz hb9
          go_wp2
          obtain ⟨p0, p1, p2, p3⟩ := HF.out
          refine bodyPost_ret (v := .tuple #[.int .i64 0, .int .i64 0, .int .i64 0, .agg #[.int .i64 10, .slice lb 1 1]]) (by simp [results, Tryz.results27, go_sem, p0, p1]) rfl ?_
          rw [hE]
          exact ⟨0, 0, 0, lb, 1, rfl, p2, fun h => by simp at h, p3⟩
        have i9 : ¬ ((l.length : Int) < ((szM l : Nat) : Int)) := by omega
        by_cases n2 : szM l < l.length
        case pos =>
          have i10 : (l.length : Int) > ((szM l : Nat) : Int) := by omega
          have hE : fE l = (6, [(2, ((szM l : Nat) : Int))]) := by unfold fE; rw [if_neg h32, if_neg (by rw [k0]; decide), if_neg (by rw [k1]; decide), if_neg (by rw [k2]; decide), if_neg (by rw [k3]; decide), if_neg (by rw [k4]; decide), if_neg (by rw [k5]; decide), if_neg (by rw [k6]; decide), if_neg (by rw [k7]; decide), if_neg m0, if_neg m1, if_neg m2, if_neg n1, if_pos n2]
          go_wp2_with fail
          refine (jAt_calls ((szM l : Nat) : Int) 6 _).mono ?_
          rintro e yb ⟨lb, rfl, hp, hb⟩
          have YB : Hid (HasPlaces yb (.slice lb 1 1) [(2, ((szM l : Nat) : Int))] ∧ Below W0.heap.size W0 yb) := ⟨hp, btrI (V2.out) hb⟩
          clear hp hb
          obtain ⟨hz, hb9, _⟩ := HX.out yb YB.out.2
          obtain ⟨r0, r1, f0, f1⟩ := cell2I hz
          have rs := w_lt_get hz
          have HF : Hid (type_of% (frame_fin w yb lb ((szM l : Nat) : Int) 6 hz hb9 YB.out.1)) := frame_fin w yb lb ((szM l : Nat) : Int) 6 hz hb9 YB.out.1
          clear hz hb9
          go_wp2
          obtain ⟨p0, p1, p2, p3⟩ := HF.out
          refine bodyPost_ret (v := .tuple #[.int .i64 0, .int .i64 0, .int .i64 0, .agg #[.int .i64 6, .slice lb 1 1]]) (by simp [results, Tryz.results27, go_sem, p0, p1]) rfl ?_
          rw [hE]
          exact ⟨0, 0, 0, lb, 1, rfl, p2, fun h => by simp at h, p3⟩
        have i10 : ¬ ((l.length : Int) > ((szM l : Nat) : Int)) := by omega
        have FT : Hid (Calls Tryz.prog 55 #[.slice lo l.length lc] yc fun e w' => e = .returned (.bool (fits l)) ∧ Below yc.heap.size yc w') := kFits_calls lo lc l yc (HX.out yc V2.out).2.2 HB8.out (by omega) hcap
        go_wp2_with fail
        refine FT.out.mono ?_
        rintro e ye ⟨rfl, hb⟩
        have V3 : Hid (Below W0.heap.size W0 ye) := btrI V2.out hb
        clear hb FT
        cases hft : fits l with
        | false =>
          have w13 : IntKind.i64.wrap (((szM l : Nat) : Int) - 4) = ((szM l : Nat) : Int) - 4 := by rw [IntKind.wrap_i64]; omega
          have hE : fE l = (13, [(2, ((szM l : Nat) : Int) - 4)]) := by unfold fE; rw [if_neg h32, if_neg (by rw [k0]; decide), if_neg (by rw [k1]; decide), if_neg (by rw [k2]; decide), if_neg (by rw [k3]; decide), if_neg (by rw [k4]; decide), if_neg (by rw [k5]; decide), if_neg (by rw [k6]; decide), if_neg (by rw [k7]; decide), if_neg m0, if_neg m1, if_neg m2, if_neg n1, if_neg n2, if_pos hft, show l.length = szM l by omega]
          go_wp2_with fail
          refine (jAt_calls (((szM l : Nat) : Int) - 4) 13 _).mono ?_
          rintro e yb ⟨lb, rfl, hp, hb⟩
          have YB : Hid (HasPlaces yb (.slice lb 1 1) [(2, (((szM l : Nat) : Int) - 4))] ∧ Below W0.heap.size W0 yb) := ⟨hp, btrI (V3.out) hb⟩
          clear hp hb
          obtain ⟨hz, hb9, _⟩ := HX.out yb YB.out.2
          obtain ⟨r0, r1, f0, f1⟩ := cell2I hz
          have rs := w_lt_get hz
          have HF : Hid (type_of% (frame_fin w yb lb (((szM l : Nat) : Int) - 4) 13 hz hb9 YB.out.1)) := frame_fin w yb lb (((szM l : Nat) : Int) - 4) 13 hz hb9 YB.out.1
          clear hz hb9
          go_wp2
          obtain ⟨p0, p1, p2, p3⟩ := HF.out
          refine bodyPost_ret (v := .tuple #[.int .i64 0, .int .i64 0, .int .i64 0, .agg #[.int .i64 13, .slice lb 1 1]]) (by simp [results, Tryz.results27, go_sem, p0, p1]) rfl ?_
          rw [hE]
          exact ⟨0, 0, 0, lb, 1, rfl, p2, fun h => by simp at h, p3⟩
        | true =>
          have hE : fE l = (0, []) := by unfold fE; rw [if_neg h32, if_neg (by rw [k0]; decide), if_neg (by rw [k1]; decide), if_neg (by rw [k2]; decide), if_neg (by rw [k3]; decide), if_neg (by rw [k4]; decide), if_neg (by rw [k5]; decide), if_neg (by rw [k6]; decide), if_neg (by rw [k7]; decide), if_neg m0, if_neg m1, if_neg m2, if_neg n1, if_neg n2, if_neg (by rw [hft]; decide)]
          obtain ⟨hz, hb9, _⟩ := HX.out ye V3.out
          obtain ⟨r0, r1, f0, f1⟩ := cell2I hz
          have rs := w_lt_get hz
          have hs2 := set2I (v0 := .int .i64 0) (v1 := .slice none 0 0) hz
          have HF : Hid (((ye.setCell ⟨w.heap.size, 0, none⟩ (.int .i64 0)).setCell ⟨w.heap.size, 1, none⟩ (.slice none 0 0)).heap[w.heap.size]? = some (.cells #[.int .i64 0, .slice none 0 0] 46) ∧ Below w.heap.size w ((ye.setCell ⟨w.heap.size, 0, none⟩ (.int .i64 0)).setCell ⟨w.heap.size, 1, none⟩ (.slice none 0 0))) := ⟨hs2, hb9.trans (below2I (Nat.le_refl _))⟩
          clear hz hb9 hs2
          go_wp2
          obtain ⟨p0, p1⟩ := HF.out
          obtain ⟨u0, u1, _, _⟩ := cell2I p0
          refine bodyPost_ret (v := .tuple #[.int .i64 ((cN l : Nat) : Int), .int .i64 ((cU l : Nat) : Int), .int .i64 ((cD l : Nat) : Int), .agg #[.int .i64 0, .slice none 0 0]]) (by simp [results, Tryz.results27, go_sem, u0, u1]) rfl ?_
          rw [hE]
          exact ⟨cN l, cU l, cD l, none, 0, rfl, places_nilI _, fun _ => ⟨rfl, rfl, rfl⟩, p1⟩
end Go.Proofs.YtamedcnjanichabGreatDoor

namespace Go.Proofs.YtamedcnjanichabGreatDoor
open Go.RowKit Go.Extern Cr

attribute [local go_sem] Oper.semAt_some
theorem places_farI {w w' : World} {z : Nat} {T : TypeId} {lv : Value} {ps : List (Int × Int)} {a0 a1 a2 a3 a4 : Option Addr} {n0 n1 n2 n3 n4 c0 c1 c2 c3 c4 : Nat} (h : HasPlaces w lv ps) (hz : w.heap[z]? = some (.cells #[.slice a0 n0 c0, .slice a1 n1 c1, .slice a2 n2 c2, .slice a3 n3 c3, .slice a4 n4 c4] T)) (hf : ∀ k, k ≠ z → w'.heap[k]? = w.heap[k]?) (hs : w.heap.size ≤ w'.heap.size) : HasPlaces w' lv ps := by
  obtain ⟨ao, cap, e, hc⟩ := h
  refine ⟨ao, cap, e, fun j p hj => ?_⟩
  obtain ⟨b', off, ea, hl, h0, h1⟩ := hc j p hj
  have hne : b' ≠ z := fun e => by
    subst e
    rcases (show off + j * 2 = 0 ∨ off + j * 2 = 1 ∨ off + j * 2 = 2 ∨ off + j * 2 = 3 ∨ off + j * 2 = 4 ∨ 5 ≤ off + j * 2 by omega) with q | q | q | q | q | q
    · rw [q] at h0
      simp [World.cell?, hz] at h0
    · rw [q] at h0
      simp [World.cell?, hz] at h0
    · rw [q] at h0
      simp [World.cell?, hz] at h0
    · rw [q] at h0
      simp [World.cell?, hz] at h0
    · rw [q] at h0
      simp [World.cell?, hz] at h0
    · simp [World.cell?, hz] at h0
      have := (List.getElem?_eq_some_iff.1 h0).1
      simp at this
      omega
  have key : ∀ o, w'.cell? ⟨b', o, none⟩ = w.cell? ⟨b', o, none⟩ := fun o => by simp only [World.cell?, hf b' hne]
  exact ⟨b', off, ea, Nat.lt_of_lt_of_le hl hs, (key _).trans h0, (key _).trans h1⟩

set_option maxRecDepth 100000 in
set_option maxHeartbeats 4000000 in
theorem docDecode_frame (lo : Option Addr) (lc : Nat) (l : List Nat) (w : World) (hl : HasB w (.slice lo l.length lc) l) (hb : Bts l) (hm : l.length ≤ 1073741824) (hcap : l.length ≤ lc) (hne : fE l ≠ (0, [])) :
    Calls Tryz.prog 11 #[.slice lo l.length lc] w fun e w' => ∃ lb cb, e = .returned (.tuple #[.agg #[.slice none 0 0, .slice none 0 0, .slice none 0 0, .slice none 0 0, .slice none 0 0], .agg #[.int .i64 (fE l).1, .slice lb (fE l).2.length cb]]) ∧ HasPlaces w' (.slice lb (fE l).2.length cb) (fE l).2 ∧ Below w.heap.size w w' := by
  obtain ⟨W0, hW0⟩ : ∃ W0, (w.alloc (.cells #[.slice none 0 0, .slice none 0 0, .slice none 0 0, .slice none 0 0, .slice none 0 0] 25)).alloc (.cells #[.int .i64 0, .slice none 0 0] 46) = W0 := ⟨_, rfl⟩
  have HW0 : Hid ((w.alloc (.cells #[.slice none 0 0, .slice none 0 0, .slice none 0 0, .slice none 0 0, .slice none 0 0] 25)).alloc (.cells #[.int .i64 0, .slice none 0 0] 46) = W0) := hW0
  obtain ⟨g0, g1, g2⟩ := two_newI w (.cells #[.slice none 0 0, .slice none 0 0, .slice none 0 0, .slice none 0 0, .slice none 0 0] 25) (.cells #[.int .i64 0, .slice none 0 0] 46)
  rw [hW0] at g0 g1 g2
  have HX : Hid (∀ wx, Below W0.heap.size W0 wx → wx.heap[w.heap.size]? = some (.cells #[.slice none 0 0, .slice none 0 0, .slice none 0 0, .slice none 0 0, .slice none 0 0] 25 (0, 0)) ∧ wx.heap[w.heap.size + 1]? = some (.cells #[.int .i64 0, .slice none 0 0] 46 (0, 0)) ∧ Below w.heap.size w wx) := fun wx hx => ⟨(hx.block _ (w_lt_get g0)).trans g0, (hx.block _ (w_lt_get g1)).trans g1, g2.trans (hx.mono g2.size)⟩
  have HFR : Hid (type_of% (jFrame_calls lo lc l W0 (hl.keep g2) hb hm hcap)) := jFrame_calls lo lc l W0 (hl.keep g2) hb hm hcap
  have HAN : Hid (((fE l).1 != 0 || decide (0 < (fE l).2.length)) = true) := told_anyI hne
  have HBAD : Hid (∀ lb cb wx, Calls Tryz.prog 28 #[.agg #[.int .i64 (fE l).1, .slice lb (fE l).2.length cb]] wx fun e w' => e = .returned (.bool true) ∧ Below wx.heap.size wx w') := fun lb cb wx => by
    have q := bad_calls (fE l).1 lb (fE l).2.length cb wx
    rw [HAN.out] at q
    exact q
  clear g0 g1 g2 hW0 hl hb hne
  generalize fE l = E at *
  go_enter Tryz.func11, Tryz.ntmps11
  go_upto_region 1 with fail
  rw [HW0.out]
  go_wp2_with fail
  refine HFR.out.mono ?_
  rintro e y1 ⟨n, u, d, lb, cb, rfl, hp, _, hbb⟩
  have Y1 : Hid (HasPlaces y1 (.slice lb E.2.length cb) E.2 ∧ Below W0.heap.size W0 y1) := ⟨hp, hbb⟩
  clear hp hbb
  obtain ⟨W1, hW1⟩ : ∃ W1, y1.alloc (.cells #[.int .i64 E.1, .slice lb E.2.length cb] 46) = W1 := ⟨_, rfl⟩
  obtain ⟨b, hbz⟩ : ∃ b, y1.heap.size = b := ⟨_, rfl⟩
  have b1 : Below y1.heap.size y1 W1 := by rw [← hW1]; exact (Below.refl _ _).alloc (Nat.le_refl _) _
  have n1 : W1.heap[b]? = some (.cells #[.int .i64 E.1, .slice lb E.2.length cb] 46) := by rw [← hW1, ← hbz]; exact heap_new _ _
  have HB : Hid (∀ wx, Below W1.heap.size W1 wx → wx.heap[b]? = some (.cells #[.int .i64 E.1, .slice lb E.2.length cb] 46) ∧ Below W0.heap.size W0 wx ∧ HasPlaces wx (.slice lb E.2.length cb) E.2) := fun wx hx => ⟨(hx.block _ (w_lt_get n1)).trans n1, btrI Y1.out.2 (btrI b1 hx), Y1.out.1.keep (btrI b1 hx)⟩
  have HW1 : Hid (y1.alloc (.cells #[.int .i64 E.1, .slice lb E.2.length cb] 46) = W1 ∧ y1.heap.size = b) := ⟨hW1, hbz⟩
  have HBL : Hid (w.heap.size + 1 < b) := by
    have q1 := w_lt_get (HX.out W0 (Below.refl _ _)).2.1
    have q2 := Y1.out.2.size
    show w.heap.size + 1 < b
    omega
  obtain ⟨c0, c1, _, _⟩ := cell2I n1
  have lb1 := w_lt_get n1
  clear hW1 hbz b1 n1
  go_upto_region 2 with fail
  try rw [HW1.out.1]
  try rw [HW1.out.2]
  go_wp2_with fail
  refine (HBAD.out lb cb W1).mono ?_
  rintro e y2 ⟨rfl, hbb⟩
  have Y2 : Hid (Below W1.heap.size W1 y2) := hbb
  clear hbb c0 c1 lb1
  obtain ⟨h1, h2, h3⟩ := HB.out y2 Y2.out
  obtain ⟨c0, c1, _, _⟩ := cell2I h1
  have lb1 := w_lt_get h1
  obtain ⟨x1, x2, x3⟩ := HX.out y2 h2
  obtain ⟨z0, z1, z2, z3, z4⟩ := Hi.five_cells x1
  have lz := w_lt_get x1
  obtain ⟨e0, e1, f0, f1⟩ := cell2I x2
  have le := w_lt_get x2
  have fz : ∀ i, y2.frozen? ⟨w.heap.size, i, none⟩ = false := fun i => by simp [World.frozen?, x1]
  have fz0 := fz 0
  have fz1 := fz 1
  have fz2 := fz 2
  have fz3 := fz 3
  have fz4 := fz 4
  have XH : Hid (y2.heap[w.heap.size]? = some (.cells #[.slice none 0 0, .slice none 0 0, .slice none 0 0, .slice none 0 0, .slice none 0 0] 25 (0, 0)) ∧ y2.heap[w.heap.size + 1]? = some (.cells #[.int .i64 0, .slice none 0 0] 46 (0, 0)) ∧ Below w.heap.size w y2 ∧ HasPlaces y2 (.slice lb E.2.length cb) E.2) := ⟨x1, x2, x3, h3⟩
  clear fz x1 x2 x3 h1 h2 h3
  go_upto_region 3 with fail
  have hn1 : b ≠ w.heap.size := by have := HBL.out; omega
  have hn2 : b ≠ w.heap.size + 1 := by have := HBL.out; omega
  go_region_held3 (fun w' => w'.cell? ⟨b, 0, none⟩ = some (.int .i64 E.1) ∧ w'.cell? ⟨b, 1, none⟩ = some (.slice lb E.2.length cb)) ((first | (go_keep; done) | (refine ⟨?_, ?_⟩ <;> (simp only [cell_drewI, cell_otherI hn1, cell_otherI hn2]; assumption)))) (fail)
  go_wp2
  clear z0 z1 z2 z3 z4 lz e0 e1 f0 f1 le fz0 fz1 fz2 fz3 fz4 c0 c1 lb1
  obtain ⟨x1, x2, x3, h3⟩ := XH.out
  have hS := Hi.set_five x1 (.slice none 0 0) (.slice none 0 0) (.slice none 0 0) (.slice none 0 0) (.slice none 0 0)
  obtain ⟨hf1, hf2⟩ := Hi.five_far y2 w.heap.size (.slice none 0 0) (.slice none 0 0) (.slice none 0 0) (.slice none 0 0) (.slice none 0 0)
  have hbb : Below w.heap.size w (((((y2.setCell ⟨w.heap.size, 0, none⟩ (.slice none 0 0)).setCell ⟨w.heap.size, 1, none⟩ (.slice none 0 0)).setCell ⟨w.heap.size, 2, none⟩ (.slice none 0 0)).setCell ⟨w.heap.size, 3, none⟩ (.slice none 0 0)).setCell ⟨w.heap.size, 4, none⟩ (.slice none 0 0)) := ((((x3.setCell (p := ⟨w.heap.size, 0, none⟩) (Nat.le_refl _) _).setCell (p := ⟨w.heap.size, 1, none⟩) (Nat.le_refl _) _).setCell (p := ⟨w.heap.size, 2, none⟩) (Nat.le_refl _) _).setCell (p := ⟨w.heap.size, 3, none⟩) (Nat.le_refl _) _).setCell (p := ⟨w.heap.size, 4, none⟩) (Nat.le_refl _) _
  have hE1 : (((((y2.setCell ⟨w.heap.size, 0, none⟩ (.slice none 0 0)).setCell ⟨w.heap.size, 1, none⟩ (.slice none 0 0)).setCell ⟨w.heap.size, 2, none⟩ (.slice none 0 0)).setCell ⟨w.heap.size, 3, none⟩ (.slice none 0 0)).setCell ⟨w.heap.size, 4, none⟩ (.slice none 0 0)).heap[w.heap.size + 1]? = some (.cells #[.int .i64 0, .slice none 0 0] 46 (0, 0)) := (hf1 _ (by omega)).trans x2
  have hP : HasPlaces (((((y2.setCell ⟨w.heap.size, 0, none⟩ (.slice none 0 0)).setCell ⟨w.heap.size, 1, none⟩ (.slice none 0 0)).setCell ⟨w.heap.size, 2, none⟩ (.slice none 0 0)).setCell ⟨w.heap.size, 3, none⟩ (.slice none 0 0)).setCell ⟨w.heap.size, 4, none⟩ (.slice none 0 0)) (.slice lb E.2.length cb) E.2 := places_farI h3 x1 (fun k hk => hf1 k hk) (Nat.le_of_eq hf2.symm)
  clear hf1 hf2 x1 x2 x3 h3
  generalize (((((y2.setCell ⟨w.heap.size, 0, none⟩ (.slice none 0 0)).setCell ⟨w.heap.size, 1, none⟩ (.slice none 0 0)).setCell ⟨w.heap.size, 2, none⟩ (.slice none 0 0)).setCell ⟨w.heap.size, 3, none⟩ (.slice none 0 0)).setCell ⟨w.heap.size, 4, none⟩ (.slice none 0 0)) = WE at *
  have s2 := set2I (v0 := .int .i64 E.1) (v1 := .slice lb E.2.length cb) hE1
  have o2 : ((WE.setCell ⟨w.heap.size + 1, 0, none⟩ (.int .i64 E.1)).setCell ⟨w.heap.size + 1, 1, none⟩ (.slice lb E.2.length cb)).heap[w.heap.size]? = some (.cells #[.slice none 0 0, .slice none 0 0, .slice none 0 0, .slice none 0 0, .slice none 0 0] 25 (0, 0)) := (other2I (by omega)).trans hS
  have P2 := places_setI hP hE1 (.int .i64 E.1) (.slice lb E.2.length cb)
  have B2 : Below w.heap.size w ((WE.setCell ⟨w.heap.size + 1, 0, none⟩ (.int .i64 E.1)).setCell ⟨w.heap.size + 1, 1, none⟩ (.slice lb E.2.length cb)) := hbb.trans (below2I (Nat.le_succ _))
  clear hS hbb hE1 hP
  generalize ((WE.setCell ⟨w.heap.size + 1, 0, none⟩ (.int .i64 E.1)).setCell ⟨w.heap.size + 1, 1, none⟩ (.slice lb E.2.length cb)) = WF at *
  obtain ⟨t0, t1, t2, t3, t4⟩ := Hi.five_cells (w := WF.drew) o2
  obtain ⟨u0, u1, _, _⟩ := cell2I (w := WF.drew) s2
  exact bodyPost_ret (v := .tuple #[.agg #[.slice none 0 0, .slice none 0 0, .slice none 0 0, .slice none 0 0, .slice none 0 0], .agg #[.int .i64 E.1, .slice lb E.2.length cb]]) (by simp [results, Tryz.results11, go_sem, t0, t1, t2, t3, t4, u0, u1]) rfl ⟨lb, cb, rfl, P2.keep (Below.refl _ _).drew, B2.drew⟩
end Go.Proofs.YtamedcnjanichabGreatDoor

namespace Go.Proofs.YtamedcnjanichabGreatDoor
open Go.RowKit Go.Extern Cr

attribute [local go_sem] Oper.semAt_some
theorem ws_lenI {w : World} {B n c : Nat} {m : Option Addr} {l : List Nat} (h : w.ownsRow B 39 1 (.slice m n c) n (Hi.wvs l)) (e : l.length = n) (hok : ∀ x ∈ l, x < 4294967296) : Hi.HasWs w (.slice m l.length c) l := by
  subst e
  exact Hi.ws_of_own h hok
theorem ls_lenI {w : World} {B n c : Nat} {m : Option Addr} {l : List Hi.Lk} (h : w.ownsRow B 43 4 (.slice m n c) n (Hi.lvs l)) (e : l.length = n) (hok : ∀ x ∈ l, x.ok) : Hi.HasLs w (.slice m l.length c) l := by
  subst e
  exact Hi.ls_of_own h hok
theorem own_midI {w w7 wx : World} {B A n z : Nat} {v : Value} {T : TypeId} {xs : List Value} (h : w.ownsRow B T z v n xs) (hA : A ≤ B) (h7 : Below w.heap.size w w7) (hx : ∀ k, A ≤ k → k < w7.heap.size → wx.heap[k]? = w7.heap[k]?) : wx.ownsRow B T z v n xs :=
  Hi.own_keep h fun k cur hk hh => by
    obtain ⟨q1, q2⟩ := h.lt k hk
    exact (hx k (by omega) (Nat.lt_of_lt_of_le q2 h7.size)).trans ((h7.block k q2).trans hh)

set_option maxRecDepth 100000 in
set_option maxHeartbeats 4000000 in
theorem docDecode_read (lo : Option Addr) (lc : Nat) (l : List Nat) (w : World) (hl : HasB w (.slice lo l.length lc) l) (hb : Bts l) (hm : l.length ≤ 1073741824) (hcap : l.length ≤ lc) (hz : fE l = (0, [])) :
    Calls Tryz.prog 11 #[.slice lo l.length lc] w fun e w' => ((Hi.chk (hOf l) ≠ (0, []) ∧ ∃ lb cb, e = .returned (.tuple #[.agg #[.slice none 0 0, .slice none 0 0, .slice none 0 0, .slice none 0 0, .slice none 0 0], .agg #[.int .i64 (Hi.chk (hOf l)).1, .slice lb (Hi.chk (hOf l)).2.length cb]]) ∧ HasPlaces w' (.slice lb (Hi.chk (hOf l)).2.length cb) (Hi.chk (hOf l)).2) ∨ (Hi.chk (hOf l) = (0, []) ∧ ∃ u lb cb, e = .returned (.tuple #[Hi.hvl u (hOf l), .agg #[.int .i64 0, .slice lb 0 cb]]) ∧ Hi.HasH w' u (hOf l))) ∧ Below w.heap.size w w' := by
  obtain ⟨ho, k1, k2, k3, k4, k5⟩ := frame_ok hb hz
  have hlen := ho.len
  have ln : (hOf l).node.length = cN l := wordsOf_lenI _ _ _
  have lu : (hOf l).up.length = cU l := lksOf_len _ _ _
  have ld : (hOf l).dn.length = cD l := lksOf_len _ _ _
  have sn := ho.sm.n
  have su := ho.sm.u
  have sd := ho.sm.d
  rw [ln] at sn
  rw [lu] at su
  rw [ld] at sd
  rw [ln, lu, ld] at hlen
  obtain ⟨W0, hW0⟩ : ∃ W0, (w.alloc (.cells #[.slice none 0 0, .slice none 0 0, .slice none 0 0, .slice none 0 0, .slice none 0 0] 25)).alloc (.cells #[.int .i64 0, .slice none 0 0] 46) = W0 := ⟨_, rfl⟩
  have HW0 : Hid ((w.alloc (.cells #[.slice none 0 0, .slice none 0 0, .slice none 0 0, .slice none 0 0, .slice none 0 0] 25)).alloc (.cells #[.int .i64 0, .slice none 0 0] 46) = W0) := hW0
  obtain ⟨g0, g1, g2⟩ := two_newI w (.cells #[.slice none 0 0, .slice none 0 0, .slice none 0 0, .slice none 0 0, .slice none 0 0] 25) (.cells #[.int .i64 0, .slice none 0 0] 46)
  rw [hW0] at g0 g1 g2
  have HX : Hid (∀ wx, Below W0.heap.size W0 wx → wx.heap[w.heap.size]? = some (.cells #[.slice none 0 0, .slice none 0 0, .slice none 0 0, .slice none 0 0, .slice none 0 0] 25 (0, 0)) ∧ wx.heap[w.heap.size + 1]? = some (.cells #[.int .i64 0, .slice none 0 0] 46 (0, 0)) ∧ Below w.heap.size w wx) := fun wx hx => ⟨(hx.block _ (w_lt_get g0)).trans g0, (hx.block _ (w_lt_get g1)).trans g1, g2.trans (hx.mono g2.size)⟩
  have HFR : Hid (Calls Tryz.prog 27 #[.slice lo l.length lc] W0 fun e w' => ∃ lb cb, e = .returned (.tuple #[.int .i64 (cN l : Int), .int .i64 (cU l : Int), .int .i64 (cD l : Int), .agg #[.int .i64 0, .slice lb 0 cb]]) ∧ Below W0.heap.size W0 w') := by
    refine (jFrame_calls lo lc l W0 (hl.keep g2) hb hm hcap).mono ?_
    rintro e w' ⟨n, u, d, lb, cb, rfl, _, hh, hb2⟩
    obtain ⟨rfl, rfl, rfl⟩ := hh hz
    rw [hz]
    exact ⟨lb, cb, rfl, hb2⟩
  have HBAD : Hid (∀ lb cb wx, Calls Tryz.prog 28 #[.agg #[.int .i64 0, .slice lb 0 cb]] wx fun e w' => e = .returned (.bool false) ∧ Below wx.heap.size wx w') := fun lb cb wx => bad_calls 0 lb 0 cb wx
  have HWD : Hid (∀ wx (I C : Int) (A c : Nat), I = A → C = c → A + 4 * c ≤ l.length → Below W0.heap.size W0 wx → Calls Tryz.prog 29 #[.slice lo l.length lc, .int .i64 I, .int .i64 C] wx fun e w' => ∃ mo mc, e = .returned (.slice mo c mc) ∧ w'.ownsRow wx.heap.size 39 1 (.slice mo c mc) c (Hi.wvs (wordsOf l A c)) ∧ Below wx.heap.size wx w') := fun wx I C A c h1 h2 h3 hx => by
    subst h1 h2
    exact jWords_good lo lc l A c wx (hl.keep (HX.out wx hx).2.2) hb hm h3
  have HRD : Hid (∀ wx (I C : Int) (A c : Nat), I = A → C = c → A + 20 * c ≤ l.length → Below W0.heap.size W0 wx → Calls Tryz.prog 30 #[.slice lo l.length lc, .int .i64 I, .int .i64 C] wx fun e w' => ∃ mo mc, e = .returned (.slice mo c mc) ∧ w'.ownsRow wx.heap.size 43 4 (.slice mo c mc) c (Hi.lvs (lksOf l A c)) ∧ Below wx.heap.size wx w') := fun wx I C A c h1 h2 h3 hx => by
    subst h1 h2
    exact jRead_good lo lc l A c wx (hl.keep (HX.out wx hx).2.2) hb hm h3
  have HLEN : Hid (l.length = 32 + 12 * cN l + 20 * (cU l + cD l)) := hlen
  have HK : Hid ((∀ x ∈ (hOf l).node, x < 4294967296) ∧ (∀ x ∈ (hOf l).upF, x < 4294967296) ∧ (∀ x ∈ (hOf l).up, x.ok) ∧ (∀ x ∈ (hOf l).dnF, x < 4294967296) ∧ (∀ x ∈ (hOf l).dn, x.ok)) := ⟨k1, k2, k3, k4, k5⟩
  have luf : (hOf l).upF.length = cN l + 1 := wordsOf_lenI _ _ _
  have ldf : (hOf l).dnF.length = cN l + 1 := wordsOf_lenI _ _ _
  have HDC : Hid (∀ (m1 m2 m3 m4 m5 : Option Addr) (c1 c2 c3 c4 c5 : Nat) (wx : World), Hi.HasH wx ⟨m1, m2, m3, m4, m5, c1, c2, c3, c4, c5⟩ (hOf l) → Calls Tryz.prog 31 #[.agg #[.slice m1 (cN l) c1, .slice m2 (cN l + 1) c2, .slice m3 (cU l) c3, .slice m4 (cN l + 1) c4, .slice m5 (cD l) c5]] wx fun e w' => Hi.RA wx (Hi.chk (hOf l)) e w') := fun m1 m2 m3 m4 m5 c1 c2 c3 c4 c5 wx hx => by
    have q := Hi.docCheck10_calls ⟨m1, m2, m3, m4, m5, c1, c2, c3, c4, c5⟩ (hOf l) wx hx (by omega) (by omega) (by omega)
    unfold Hi.hvl at q
    simp only [ln, lu, ld, luf, ldf] at q
    exact q
  have HEQ : Hid (∀ (m1 m2 m3 m4 m5 : Option Addr) (c1 c2 c3 c4 c5 : Nat), Hi.hvl ⟨m1, m2, m3, m4, m5, c1, c2, c3, c4, c5⟩ (hOf l) = .agg #[.slice m1 (cN l) c1, .slice m2 (cN l + 1) c2, .slice m3 (cU l) c3, .slice m4 (cN l + 1) c4, .slice m5 (cD l) c5]) := fun m1 m2 m3 m4 m5 c1 c2 c3 c4 c5 => by
    unfold Hi.hvl
    simp only [ln, lu, ld, luf, ldf]
  have HLL : Hid ((hOf l).node.length = cN l ∧ (hOf l).upF.length = cN l + 1 ∧ (hOf l).up.length = cU l ∧ (hOf l).dnF.length = cN l + 1 ∧ (hOf l).dn.length = cD l) := ⟨ln, luf, lu, ldf, ld⟩
  obtain ⟨BB, hBB⟩ : ∃ BB : Bool, (BB = true ∧ Hi.chk (hOf l) ≠ (0, [])) ∨ (BB = false ∧ Hi.chk (hOf l) = (0, [])) := by
    by_cases hc : Hi.chk (hOf l) = (0, [])
    · exact ⟨false, Or.inr ⟨rfl, hc⟩⟩
    · exact ⟨true, Or.inl ⟨rfl, hc⟩⟩
  have HBQ : Hid (∀ lo lc wx, Calls Tryz.prog 28 #[.agg #[.int .i64 (Hi.chk (hOf l)).1, .slice lo (Hi.chk (hOf l)).2.length lc]] wx fun e w' => e = .returned (.bool BB) ∧ Below wx.heap.size wx w') := fun lo lc wx => by
    have q := bad_calls (Hi.chk (hOf l)).1 lo (Hi.chk (hOf l)).2.length lc wx
    rcases hBB with ⟨rfl, hc⟩ | ⟨rfl, hc⟩
    · rw [told_anyI hc] at q
      exact q
    · rw [hc] at q ⊢
      exact q
  have HBB : Hid ((BB = true ∧ Hi.chk (hOf l) ≠ (0, [])) ∨ (BB = false ∧ Hi.chk (hOf l) = (0, []))) := hBB
  clear hBB
  generalize Hi.chk (hOf l) = E at *
  clear g0 g1 g2 hW0 hl hb hz ho ln lu ld luf ldf hlen k1 k2 k3 k4 k5
  go_enter Tryz.func11, Tryz.ntmps11
  go_upto_region 1 with fail
  rw [HW0.out]
  go_wp2_with fail
  refine HFR.out.mono ?_
  rintro e y1 ⟨lb, cb, rfl, hbb⟩
  have Y1 : Hid (Below W0.heap.size W0 y1) := hbb
  clear hbb
  obtain ⟨W1, hW1⟩ : ∃ W1, y1.alloc (.cells #[.int .i64 0, .slice lb 0 cb] 46) = W1 := ⟨_, rfl⟩
  obtain ⟨b, hbz⟩ : ∃ b, y1.heap.size = b := ⟨_, rfl⟩
  have b1 : Below y1.heap.size y1 W1 := by rw [← hW1]; exact (Below.refl _ _).alloc (Nat.le_refl _) _
  have n1 : W1.heap[b]? = some (.cells #[.int .i64 0, .slice lb 0 cb] 46) := by rw [← hW1, ← hbz]; exact heap_new _ _
  have HB : Hid (∀ wx, Below W1.heap.size W1 wx → wx.heap[b]? = some (.cells #[.int .i64 0, .slice lb 0 cb] 46) ∧ Below W0.heap.size W0 wx) := fun wx hx => ⟨(hx.block _ (w_lt_get n1)).trans n1, btrI Y1.out (btrI b1 hx)⟩
  have HW1 : Hid (y1.alloc (.cells #[.int .i64 0, .slice lb 0 cb] 46) = W1 ∧ y1.heap.size = b) := ⟨hW1, hbz⟩
  obtain ⟨c0, c1, _, _⟩ := cell2I n1
  have lb1 := w_lt_get n1
  clear hW1 hbz b1 n1
  go_upto_region 2 with fail
  try rw [HW1.out.1]
  try rw [HW1.out.2]
  go_wp2_with fail
  refine (HBAD.out lb cb W1).mono ?_
  rintro e y2 ⟨rfl, hbb⟩
  have Y2 : Hid (Below W1.heap.size W1 y2) := hbb
  clear hbb c0 c1 lb1
  go_wp2_with fail
  refine (HWD.out _ _ _ 20 (cN l) (by omega) (by omega) (by have := HLEN.out; omega) (HB.out y2 Y2.out).2).mono ?_
  rintro e y3 ⟨m1, c1, rfl, o1, hbb⟩
  have O1 : Hid (type_of% o1) := o1
  clear o1
  have Y3 : Hid (Below W1.heap.size W1 y3) := btrI Y2.out hbb
  have Z3 : Hid (Below y2.heap.size y2 y3) := hbb
  clear hbb
  go_wp2_with fail
  refine (HWD.out _ _ _ (20 + 4 * cN l) (cN l + 1) (by omega) (by omega) (by have := HLEN.out; omega) (HB.out y3 Y3.out).2).mono ?_
  rintro e y4 ⟨m2, c2, rfl, o2, hbb⟩
  have O2 : Hid (type_of% o2) := o2
  clear o2
  have Y4 : Hid (Below W1.heap.size W1 y4) := btrI Y3.out hbb
  have Z4 : Hid (Below y3.heap.size y3 y4) := hbb
  clear hbb
  go_wp2_with fail
  refine (HRD.out _ _ _ (20 + 4 * cN l + 4 * (cN l + 1)) (cU l) (by omega) (by omega) (by have := HLEN.out; omega) (HB.out y4 Y4.out).2).mono ?_
  rintro e y5 ⟨m3, c3, rfl, o3, hbb⟩
  have O3 : Hid (type_of% o3) := o3
  clear o3
  have Y5 : Hid (Below W1.heap.size W1 y5) := btrI Y4.out hbb
  have Z5 : Hid (Below y4.heap.size y4 y5) := hbb
  clear hbb
  go_wp2_with fail
  refine (HWD.out _ _ _ (20 + 4 * cN l + 4 * (cN l + 1) + 4 * (5 * cU l)) (cN l + 1) (by omega) (by omega) (by have := HLEN.out; omega) (HB.out y5 Y5.out).2).mono ?_
  rintro e y6 ⟨m4, c4, rfl, o4, hbb⟩
  have O4 : Hid (type_of% o4) := o4
  clear o4
  have Y6 : Hid (Below W1.heap.size W1 y6) := btrI Y5.out hbb
  have Z6 : Hid (Below y5.heap.size y5 y6) := hbb
  clear hbb
  go_wp2_with fail
  refine (HRD.out _ _ _ (20 + 4 * cN l + 4 * (cN l + 1) + 4 * (5 * cU l) + 4 * (cN l + 1)) (cD l) (by omega) (by omega) (by have := HLEN.out; omega) (HB.out y6 Y6.out).2).mono ?_
  rintro e y7 ⟨m5, c5, rfl, o5, hbb⟩
  have O5 : Hid (type_of% o5) := o5
  clear o5
  have Y7 : Hid (Below W1.heap.size W1 y7) := btrI Y6.out hbb
  have Z7 : Hid (Below y6.heap.size y6 y7) := hbb
  clear hbb
  have HU : Hid (∀ wx : World, (∀ k, W1.heap.size ≤ k → k < y7.heap.size → wx.heap[k]? = y7.heap[k]?) → Hi.HasH wx ⟨m1, m2, m3, m4, m5, c1, c2, c3, c4, c5⟩ (hOf l)) := fun wx hx => by
    obtain ⟨k1, k2, k3, k4, k5⟩ := HK.out
    obtain ⟨l1, l2, l3, l4, l5⟩ := HLL.out
    have b6 : Below y6.heap.size y6 y7 := Z7.out
    have b5 : Below y5.heap.size y5 y7 := btrI Z6.out b6
    have b4 : Below y4.heap.size y4 y7 := btrI Z5.out b5
    have b3 : Below y3.heap.size y3 y7 := btrI Z4.out b4
    have q2 := Y2.out.size
    have q3 := Y3.out.size
    have q4 := Y4.out.size
    have q5 := Y5.out.size
    have q6 := Y6.out.size
    exact ⟨ws_lenI (own_midI O1.out q2 b3 hx) l1 k1, ws_lenI (own_midI O2.out q3 b4 hx) l2 k2, ls_lenI (own_midI O3.out q4 b5 hx) l3 k3, ws_lenI (own_midI O4.out q5 b6 hx) l4 k4, ls_lenI (own_midI O5.out q6 (Below.refl _ _) hx) l5 k5⟩
  have HBL : Hid (w.heap.size + 1 < b) := by
    have q1 := w_lt_get (HX.out W0 (Below.refl _ _)).2.1
    have q2 := Y1.out.size
    have q3 := HW1.out.2
    show w.heap.size + 1 < b
    omega
  have HBS : Hid (b < W1.heap.size) := w_lt_get (HB.out W1 (Below.refl _ _)).1
  clear O1 O2 O3 O4 O5
  obtain ⟨W2, hW2⟩ : ∃ W2, y7.alloc (.cells #[.slice m1 (cN l) c1, .slice m2 (cN l + 1) c2, .slice m3 (cU l) c3, .slice m4 (cN l + 1) c4, .slice m5 (cD l) c5] 25) = W2 := ⟨_, rfl⟩
  obtain ⟨d, hdz⟩ : ∃ d, y7.heap.size = d := ⟨_, rfl⟩
  have b2 : Below y7.heap.size y7 W2 := by rw [← hW2]; exact (Below.refl _ _).alloc (Nat.le_refl _) _
  have n2 : W2.heap[d]? = some (.cells #[.slice m1 (cN l) c1, .slice m2 (cN l + 1) c2, .slice m3 (cU l) c3, .slice m4 (cN l + 1) c4, .slice m5 (cD l) c5] 25) := by rw [← hW2, ← hdz]; exact heap_new _ _
  have HD : Hid (∀ wx, Below W2.heap.size W2 wx → wx.heap[d]? = some (.cells #[.slice m1 (cN l) c1, .slice m2 (cN l + 1) c2, .slice m3 (cU l) c3, .slice m4 (cN l + 1) c4, .slice m5 (cD l) c5] 25) ∧ Below W1.heap.size W1 wx ∧ Below y7.heap.size y7 wx) := fun wx hx => ⟨(hx.block _ (w_lt_get n2)).trans n2, btrI Y7.out (btrI b2 hx), btrI b2 hx⟩
  have HW2 : Hid (y7.alloc (.cells #[.slice m1 (cN l) c1, .slice m2 (cN l + 1) c2, .slice m3 (cU l) c3, .slice m4 (cN l + 1) c4, .slice m5 (cD l) c5] 25) = W2 ∧ y7.heap.size = d) := ⟨hW2, hdz⟩
  clear hW2 hdz b2 n2
  obtain ⟨d0, d1, d2, d3, d4⟩ := Hi.five_cells (HD.out W2 (Below.refl _ _)).1
  have ld := w_lt_get (HD.out W2 (Below.refl _ _)).1
  go_upto_region 7 with fail
  rw [HW2.out.1]
  rw [HW2.out.2]
  go_wp2_with fail
  refine (HDC.out m1 m2 m3 m4 m5 c1 c2 c3 c4 c5 W2 (HU.out W2 fun k q1 q2 => (HD.out W2 (Below.refl _ _)).2.2.block k q2)).mono ?_
  rintro e y8 ⟨lo8, lc8, rfl, hp, hbb⟩
  have Y8 : Hid (Below W2.heap.size W2 y8 ∧ HasPlaces y8 (.slice lo8 E.2.length lc8) E.2) := ⟨hbb, hp⟩
  clear hbb hp d0 d1 d2 d3 d4 ld
  obtain ⟨W3, hW3⟩ : ∃ W3, y8.alloc (.cells #[.int .i64 E.1, .slice lo8 E.2.length lc8] 46) = W3 := ⟨_, rfl⟩
  obtain ⟨f, hfz⟩ : ∃ f, y8.heap.size = f := ⟨_, rfl⟩
  have b3 : Below y8.heap.size y8 W3 := by rw [← hW3]; exact (Below.refl _ _).alloc (Nat.le_refl _) _
  have n3 : W3.heap[f]? = some (.cells #[.int .i64 E.1, .slice lo8 E.2.length lc8] 46) := by rw [← hW3, ← hfz]; exact heap_new _ _
  have HF : Hid (∀ wx, Below W3.heap.size W3 wx → wx.heap[f]? = some (.cells #[.int .i64 E.1, .slice lo8 E.2.length lc8] 46) ∧ Below W2.heap.size W2 wx ∧ HasPlaces wx (.slice lo8 E.2.length lc8) E.2) := fun wx hx => ⟨(hx.block _ (w_lt_get n3)).trans n3, btrI Y8.out.1 (btrI b3 hx), Y8.out.2.keep (btrI b3 hx)⟩
  have HW3 : Hid (y8.alloc (.cells #[.int .i64 E.1, .slice lo8 E.2.length lc8] 46) = W3 ∧ y8.heap.size = f) := ⟨hW3, hfz⟩
  have HFL : Hid (w.heap.size + 1 < f ∧ w.heap.size + 1 < d ∧ b < d) := by
    have q1 := HBL.out
    have q2 := HBS.out
    have q3 := Y7.out.size
    have q4 := HW2.out.2
    have q5 := w_lt_get (HD.out W2 (Below.refl _ _)).1
    have q6 := Y8.out.1.size
    show _ ∧ _ ∧ _
    omega
  obtain ⟨c0, c9, _, _⟩ := cell2I n3
  have lb1 := w_lt_get n3
  clear hW3 hfz b3 n3
  go_upto_region 8 with fail
  rw [HW3.out.1]
  rw [HW3.out.2]
  go_wp2_with fail
  refine (HBQ.out lo8 lc8 W3).mono ?_
  rintro e y9 ⟨rfl, hbb⟩
  have Y9 : Hid (Below W3.heap.size W3 y9) := hbb
  clear hbb c0 c9 lb1
  obtain ⟨h1, h2, h3⟩ := HF.out y9 Y9.out
  obtain ⟨c0, c9, _, _⟩ := cell2I h1
  have lb1 := w_lt_get h1
  obtain ⟨i1, i2, i3⟩ := HD.out y9 h2
  have HY9 : Hid (Below y7.heap.size y7 y9) := i3
  obtain ⟨d0, d1, d2, d3, d4⟩ := Hi.five_cells i1
  have ld := w_lt_get i1
  obtain ⟨j1, j2⟩ := HB.out y9 i2
  obtain ⟨a0, a1, _, _⟩ := cell2I j1
  have la := w_lt_get j1
  obtain ⟨x1, x2, x3⟩ := HX.out y9 j2
  obtain ⟨z0, z1, z2, z3, z4⟩ := Hi.five_cells x1
  have lz := w_lt_get x1
  obtain ⟨e0, e1, f0, f1⟩ := cell2I x2
  have le := w_lt_get x2
  have fz : ∀ i, y9.frozen? ⟨w.heap.size, i, none⟩ = false := fun i => by simp [World.frozen?, x1]
  have fz0 := fz 0
  have fz1 := fz 1
  have fz2 := fz 2
  have fz3 := fz 3
  have fz4 := fz 4
  have XH : Hid (y9.heap[w.heap.size]? = some (.cells #[.slice none 0 0, .slice none 0 0, .slice none 0 0, .slice none 0 0, .slice none 0 0] 25 (0, 0)) ∧ y9.heap[w.heap.size + 1]? = some (.cells #[.int .i64 0, .slice none 0 0] 46 (0, 0)) ∧ Below w.heap.size w y9 ∧ HasPlaces y9 (.slice lo8 E.2.length lc8) E.2) := ⟨x1, x2, x3, h3⟩
  clear fz x1 x2 x3 h1 h2 h3 i1 i2 i3 j1 j2
  have hn1 : f ≠ w.heap.size := by have := HFL.out; omega
  have hn2 : f ≠ w.heap.size + 1 := by have := HFL.out; omega
  have hn3 : d ≠ w.heap.size := by have := HFL.out; omega
  have hn4 : d ≠ w.heap.size + 1 := by have := HFL.out; omega
  have hn5 : b ≠ w.heap.size := by have := HBL.out; omega
  have hn6 : b ≠ w.heap.size + 1 := by have := HBL.out; omega
  cases BB with
  | true =>
    have hc : E ≠ (0, []) := by
      rcases HBB.out with ⟨_, q⟩ | ⟨q, _⟩
      · exact q
      · cases q
    have HC : Hid (E ≠ (0, [])) := hc
    clear hc d0 d1 d2 d3 d4 ld a0 a1 la
    go_upto_region 9 with fail
    go_region_held3 (fun w' => w'.cell? ⟨f, 0, none⟩ = some (.int .i64 E.1) ∧ w'.cell? ⟨f, 1, none⟩ = some (.slice lo8 E.2.length lc8)) ((first | (go_keep; done) | (refine ⟨?_, ?_⟩ <;> (simp only [cell_drewI, cell_otherI hn1, cell_otherI hn2]; assumption)))) (fail)
    go_wp2
    clear c0 c9 lb1
    clear z0 z1 z2 z3 z4 lz e0 e1 f0 f1 le fz0 fz1 fz2 fz3 fz4
    obtain ⟨x1, x2, x3, h3⟩ := XH.out
    have hS := Hi.set_five x1 (.slice none 0 0) (.slice none 0 0) (.slice none 0 0) (.slice none 0 0) (.slice none 0 0)
    obtain ⟨hf1, hf2⟩ := Hi.five_far y9 w.heap.size (.slice none 0 0) (.slice none 0 0) (.slice none 0 0) (.slice none 0 0) (.slice none 0 0)
    have hbb : Below w.heap.size w (((((y9.setCell ⟨w.heap.size, 0, none⟩ (.slice none 0 0)).setCell ⟨w.heap.size, 1, none⟩ (.slice none 0 0)).setCell ⟨w.heap.size, 2, none⟩ (.slice none 0 0)).setCell ⟨w.heap.size, 3, none⟩ (.slice none 0 0)).setCell ⟨w.heap.size, 4, none⟩ (.slice none 0 0)) := ((((x3.setCell (p := ⟨w.heap.size, 0, none⟩) (Nat.le_refl _) _).setCell (p := ⟨w.heap.size, 1, none⟩) (Nat.le_refl _) _).setCell (p := ⟨w.heap.size, 2, none⟩) (Nat.le_refl _) _).setCell (p := ⟨w.heap.size, 3, none⟩) (Nat.le_refl _) _).setCell (p := ⟨w.heap.size, 4, none⟩) (Nat.le_refl _) _
    have hE1 : (((((y9.setCell ⟨w.heap.size, 0, none⟩ (.slice none 0 0)).setCell ⟨w.heap.size, 1, none⟩ (.slice none 0 0)).setCell ⟨w.heap.size, 2, none⟩ (.slice none 0 0)).setCell ⟨w.heap.size, 3, none⟩ (.slice none 0 0)).setCell ⟨w.heap.size, 4, none⟩ (.slice none 0 0)).heap[w.heap.size + 1]? = some (.cells #[.int .i64 0, .slice none 0 0] 46 (0, 0)) := (hf1 _ (by omega)).trans x2
    have hP : HasPlaces (((((y9.setCell ⟨w.heap.size, 0, none⟩ (.slice none 0 0)).setCell ⟨w.heap.size, 1, none⟩ (.slice none 0 0)).setCell ⟨w.heap.size, 2, none⟩ (.slice none 0 0)).setCell ⟨w.heap.size, 3, none⟩ (.slice none 0 0)).setCell ⟨w.heap.size, 4, none⟩ (.slice none 0 0)) (.slice lo8 E.2.length lc8) E.2 := places_farI h3 x1 (fun k hk => hf1 k hk) (Nat.le_of_eq hf2.symm)
    clear hf2 x1 x2 x3 h3
    generalize (((((y9.setCell ⟨w.heap.size, 0, none⟩ (.slice none 0 0)).setCell ⟨w.heap.size, 1, none⟩ (.slice none 0 0)).setCell ⟨w.heap.size, 2, none⟩ (.slice none 0 0)).setCell ⟨w.heap.size, 3, none⟩ (.slice none 0 0)).setCell ⟨w.heap.size, 4, none⟩ (.slice none 0 0)) = WE at *
    have s2 := set2I (v0 := .int .i64 E.1) (v1 := .slice lo8 E.2.length lc8) hE1
    have o2 : ((WE.setCell ⟨w.heap.size + 1, 0, none⟩ (.int .i64 E.1)).setCell ⟨w.heap.size + 1, 1, none⟩ (.slice lo8 E.2.length lc8)).heap[w.heap.size]? = some (.cells #[.slice none 0 0, .slice none 0 0, .slice none 0 0, .slice none 0 0, .slice none 0 0] 25 (0, 0)) := (other2I (by omega)).trans hS
    have P2 := places_setI hP hE1 (.int .i64 E.1) (.slice lo8 E.2.length lc8)
    have B2 : Below w.heap.size w ((WE.setCell ⟨w.heap.size + 1, 0, none⟩ (.int .i64 E.1)).setCell ⟨w.heap.size + 1, 1, none⟩ (.slice lo8 E.2.length lc8)) := hbb.trans (below2I (Nat.le_succ _))
    have R2 : ∀ k, W1.heap.size ≤ k → k < y7.heap.size → ((WE.setCell ⟨w.heap.size + 1, 0, none⟩ (.int .i64 E.1)).setCell ⟨w.heap.size + 1, 1, none⟩ (.slice lo8 E.2.length lc8)).heap[k]? = y7.heap[k]? := fun k q1 q2 => by
      have q3 := HBL.out
      have q4 := HBS.out
      exact (other2I (by omega)).trans ((hf1 k (by omega)).trans (HY9.out.block k q2))
    clear hS hbb hE1 hP hf1
    generalize ((WE.setCell ⟨w.heap.size + 1, 0, none⟩ (.int .i64 E.1)).setCell ⟨w.heap.size + 1, 1, none⟩ (.slice lo8 E.2.length lc8)) = WF at *
    obtain ⟨t0, t1, t2, t3, t4⟩ := Hi.five_cells (w := WF.drew) o2
    obtain ⟨u0, u1, _, _⟩ := cell2I (w := WF.drew) s2
    exact bodyPost_ret (v := .tuple #[.agg #[.slice none 0 0, .slice none 0 0, .slice none 0 0, .slice none 0 0, .slice none 0 0], .agg #[.int .i64 E.1, .slice lo8 E.2.length lc8]]) (by simp [results, Tryz.results11, go_sem, t0, t1, t2, t3, t4, u0, u1]) rfl ⟨Or.inl ⟨HC.out, lo8, lc8, rfl, P2.keep (Below.refl _ _).drew⟩, B2.drew⟩
  | false =>
    have HC : Hid (E = (0, [])) := by
      rcases HBB.out with ⟨q, _⟩ | ⟨_, q⟩
      · cases q
      · exact q
    clear c0 c9 lb1
    go_upto_region 10 with fail
    go_region_held3 (fun w' => w'.cell? ⟨d, 0, none⟩ = some (.slice m1 (cN l) c1) ∧ w'.cell? ⟨d, 1, none⟩ = some (.slice m2 (cN l + 1) c2) ∧ w'.cell? ⟨d, 2, none⟩ = some (.slice m3 (cU l) c3) ∧ w'.cell? ⟨d, 3, none⟩ = some (.slice m4 (cN l + 1) c4) ∧ w'.cell? ⟨d, 4, none⟩ = some (.slice m5 (cD l) c5) ∧ w'.cell? ⟨b, 0, none⟩ = some (.int .i64 0) ∧ w'.cell? ⟨b, 1, none⟩ = some (.slice lb 0 cb)) ((first | (go_keep; done) | (refine ⟨?_, ?_, ?_, ?_, ?_, ?_, ?_⟩ <;> (simp only [cell_drewI, cell_otherI hn3, cell_otherI hn4, cell_otherI hn5, cell_otherI hn6]; assumption)))) (fail)
    go_wp2
    clear d0 d1 d2 d3 d4 ld a0 a1 la
    clear z0 z1 z2 z3 z4 lz e0 e1 f0 f1 le fz0 fz1 fz2 fz3 fz4
    obtain ⟨x1, x2, x3, h3⟩ := XH.out
    have hS := Hi.set_five x1 (.slice m1 (cN l) c1) (.slice m2 (cN l + 1) c2) (.slice m3 (cU l) c3) (.slice m4 (cN l + 1) c4) (.slice m5 (cD l) c5)
    obtain ⟨hf1, hf2⟩ := Hi.five_far y9 w.heap.size (.slice m1 (cN l) c1) (.slice m2 (cN l + 1) c2) (.slice m3 (cU l) c3) (.slice m4 (cN l + 1) c4) (.slice m5 (cD l) c5)
    have hbb : Below w.heap.size w (((((y9.setCell ⟨w.heap.size, 0, none⟩ (.slice m1 (cN l) c1)).setCell ⟨w.heap.size, 1, none⟩ (.slice m2 (cN l + 1) c2)).setCell ⟨w.heap.size, 2, none⟩ (.slice m3 (cU l) c3)).setCell ⟨w.heap.size, 3, none⟩ (.slice m4 (cN l + 1) c4)).setCell ⟨w.heap.size, 4, none⟩ (.slice m5 (cD l) c5)) := ((((x3.setCell (p := ⟨w.heap.size, 0, none⟩) (Nat.le_refl _) _).setCell (p := ⟨w.heap.size, 1, none⟩) (Nat.le_refl _) _).setCell (p := ⟨w.heap.size, 2, none⟩) (Nat.le_refl _) _).setCell (p := ⟨w.heap.size, 3, none⟩) (Nat.le_refl _) _).setCell (p := ⟨w.heap.size, 4, none⟩) (Nat.le_refl _) _
    have hE1 : (((((y9.setCell ⟨w.heap.size, 0, none⟩ (.slice m1 (cN l) c1)).setCell ⟨w.heap.size, 1, none⟩ (.slice m2 (cN l + 1) c2)).setCell ⟨w.heap.size, 2, none⟩ (.slice m3 (cU l) c3)).setCell ⟨w.heap.size, 3, none⟩ (.slice m4 (cN l + 1) c4)).setCell ⟨w.heap.size, 4, none⟩ (.slice m5 (cD l) c5)).heap[w.heap.size + 1]? = some (.cells #[.int .i64 0, .slice none 0 0] 46 (0, 0)) := (hf1 _ (by omega)).trans x2
    have hP : HasPlaces (((((y9.setCell ⟨w.heap.size, 0, none⟩ (.slice m1 (cN l) c1)).setCell ⟨w.heap.size, 1, none⟩ (.slice m2 (cN l + 1) c2)).setCell ⟨w.heap.size, 2, none⟩ (.slice m3 (cU l) c3)).setCell ⟨w.heap.size, 3, none⟩ (.slice m4 (cN l + 1) c4)).setCell ⟨w.heap.size, 4, none⟩ (.slice m5 (cD l) c5)) (.slice lo8 E.2.length lc8) E.2 := places_farI h3 x1 (fun k hk => hf1 k hk) (Nat.le_of_eq hf2.symm)
    clear hf2 x1 x2 x3 h3
    generalize (((((y9.setCell ⟨w.heap.size, 0, none⟩ (.slice m1 (cN l) c1)).setCell ⟨w.heap.size, 1, none⟩ (.slice m2 (cN l + 1) c2)).setCell ⟨w.heap.size, 2, none⟩ (.slice m3 (cU l) c3)).setCell ⟨w.heap.size, 3, none⟩ (.slice m4 (cN l + 1) c4)).setCell ⟨w.heap.size, 4, none⟩ (.slice m5 (cD l) c5)) = WE at *
    have s2 := set2I (v0 := .int .i64 0) (v1 := .slice lb 0 cb) hE1
    have o2 : ((WE.setCell ⟨w.heap.size + 1, 0, none⟩ (.int .i64 0)).setCell ⟨w.heap.size + 1, 1, none⟩ (.slice lb 0 cb)).heap[w.heap.size]? = some (.cells #[.slice m1 (cN l) c1, .slice m2 (cN l + 1) c2, .slice m3 (cU l) c3, .slice m4 (cN l + 1) c4, .slice m5 (cD l) c5] 25 (0, 0)) := (other2I (by omega)).trans hS
    have P2 := places_setI hP hE1 (.int .i64 0) (.slice lb 0 cb)
    have B2 : Below w.heap.size w ((WE.setCell ⟨w.heap.size + 1, 0, none⟩ (.int .i64 0)).setCell ⟨w.heap.size + 1, 1, none⟩ (.slice lb 0 cb)) := hbb.trans (below2I (Nat.le_succ _))
    have R2 : ∀ k, W1.heap.size ≤ k → k < y7.heap.size → ((WE.setCell ⟨w.heap.size + 1, 0, none⟩ (.int .i64 0)).setCell ⟨w.heap.size + 1, 1, none⟩ (.slice lb 0 cb)).heap[k]? = y7.heap[k]? := fun k q1 q2 => by
      have q3 := HBL.out
      have q4 := HBS.out
      exact (other2I (by omega)).trans ((hf1 k (by omega)).trans (HY9.out.block k q2))
    clear hS hbb hE1 hP hf1
    generalize ((WE.setCell ⟨w.heap.size + 1, 0, none⟩ (.int .i64 0)).setCell ⟨w.heap.size + 1, 1, none⟩ (.slice lb 0 cb)) = WF at *
    obtain ⟨t0, t1, t2, t3, t4⟩ := Hi.five_cells (w := WF.drew) o2
    obtain ⟨u0, u1, _, _⟩ := cell2I (w := WF.drew) s2
    exact bodyPost_ret (v := .tuple #[.agg #[.slice m1 (cN l) c1, .slice m2 (cN l + 1) c2, .slice m3 (cU l) c3, .slice m4 (cN l + 1) c4, .slice m5 (cD l) c5], .agg #[.int .i64 0, .slice lb 0 cb]]) (by simp [results, Tryz.results11, go_sem, t0, t1, t2, t3, t4, u0, u1]) rfl ⟨Or.inr ⟨HC.out, ⟨m1, m2, m3, m4, m5, c1, c2, c3, c4, c5⟩, lb, cb, by rw [HEQ.out], HU.out WF.drew R2⟩, B2.drew⟩
end Go.Proofs.YtamedcnjanichabGreatDoor

namespace Go.Proofs.YtamedcnjanichabGreatDoor
open Go.RowKit Go.Extern Cr

attribute [local go_sem] Oper.semAt_some

theorem docDecode_all (lo : Option Addr) (lc : Nat) (l : List Nat) (w : World) (hl : HasB w (.slice lo l.length lc) l) (hcap : l.length ≤ lc) (hb : Bts l) (hm : l.length ≤ 1073741824) :
    Calls Tryz.prog 11 #[.slice lo l.length lc] w fun e w' => ∃ u lb cb, e = .returned (.tuple #[Hi.hvl u (dH l), .agg #[.int .i64 (dE l).1, .slice lb (dE l).2.length cb]]) ∧ Hi.HasH w' u (dH l) ∧ HasPlaces w' (.slice lb (dE l).2.length cb) (dE l).2 ∧ Below w.heap.size w w' := by
  by_cases h : fE l = (0, [])
  · refine (docDecode_read lo lc l w hl hb hm hcap h).mono ?_
    rintro e w' ⟨⟨hc, lb, cb, rfl, hp⟩ | ⟨hc, u, lb, cb, rfl, hu⟩, hb2⟩
    · obtain ⟨e1, e2⟩ := dE_chk h hc
      rw [e1, e2]
      exact ⟨nilV, lb, cb, rfl, hasH_own (own_noHr _ 0) ok_noHr, hp, hb2⟩
    · obtain ⟨e1, e2⟩ := dE_good h hc
      rw [e1, e2]
      exact ⟨u, lb, cb, rfl, hu, ⟨lb, cb, rfl, fun j p hj => by simp at hj⟩, hb2⟩
  · obtain ⟨e1, e2⟩ := dE_bad h
    rw [e1, e2]
    refine (docDecode_frame lo lc l w hl hb hm hcap h).mono ?_
    rintro e w' ⟨lb, cb, rfl, hp, hb2⟩
    exact ⟨nilV, lb, cb, rfl, hasH_own (own_noHr _ 0) ok_noHr, hp, hb2⟩

end Go.Proofs.YtamedcnjanichabGreatDoor
