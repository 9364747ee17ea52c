/- rows of bytes that are written into: room that is made, what is copied, what is cut. -/
import Derived.Test.YtemdocnhdnhliabDoorCrD
import Derived.Laws.CopyOwn
import Derived.Laws.MakeOwn
import Derived.Deep.DeepAppendRoom
namespace Go.Proofs.YtemdocnhdnhliabDoor
open Go.RowKit Go.Extern Cr

theorem bv_len1 (l : List Nat) : (bv l).length = l.length := by simp [bv]
theorem Tryd.elemO : Tryd.prog.underlying 22 = some (.slice (Tryd.prog.elem 22)) := by kernel_rfl
theorem Tryd.sizeO (w : World) : (sizeOf (Tryd.prog.elem 22)).run Tryd.prog w = .ok 1 w := by kernel_rfl
theorem slice_fromB (b n lc i : Nat) (h : n ≤ lc) (hi : i < n) (w : World) : (Instr.slice 22 (.slice (some ⟨b, 0, none⟩) n lc) (some (.int .i64 (i : Int))) none none).run Tryd.prog w = .ok (.slice (some ⟨b, i, none⟩) (n - i) (lc - i)) w := by
  have e2 : (i : Int).toNat = i := by omega
  rw [run_slice_l (ht := Tryd.elemO) (h0 := by omega) (h1 := by omega), Tryd.sizeO]
  simp only [Result.andThen_ok, sliced, e2]
  rw [if_neg (by omega)]
  show Result.ok (Value.slice (some ((⟨b, 0, none⟩ : Addr).add (i * 1))) (n - i) (lc - i)) w = _
  rw [Addr.add_lit, Nat.zero_add, Nat.mul_one]
/-- room for m more behind n. -/
theorem make_roomB (n m : Nat) (hn : n + m ≤ 140737488355328) : ∃ L : List Value, L.length = n + m ∧ ∀ w : World, (Instr.makeSlice 22 (.int .i64 (n : Int)) (.int .i64 ((n : Int) + (m : Int)))).run Tryd.prog w = .ok (.slice (some ⟨w.heap.size, 0, none⟩) n (n + m)) (w.alloc (.cells L.toArray 5)) := by
  obtain ⟨i0, hi, hz0, hz1, hz2⟩ := infoB
  refine ⟨(madeCells (Value.int .u8 0).cells (n + m)).toList, by simp [madeCells], fun w => ?_⟩
  have h := run_make (P := Tryd.prog) w 22 5 i0 (.int .u8 0) Tryd.underlying22 hi hz0 .i64 .i64 (n : Int) ((n : Int) + (m : Int)) (by omega) (by omega) (by rw [hz2]; omega) (by omega)
  rw [h, hz1, Array.toArray_toList]
  have e1 : (n : Int).toNat = n := by omega
  have e2 : ((n : Int) + (m : Int)).toNat = n + m := by omega
  rw [e1, e2, Nat.mul_one]
theorem bown_copied {w : World} {B g m : Nat} {L : List Value} {xs : List Nat} (h : w.heap[g]? = some (.cells (splice L 0 (bv xs)).toArray 5)) (hl : L.length = xs.length + m) (hm : xs.length + m ≤ 140737488355328) (hB : B ≤ g) :
    w.ownsRow B 5 1 (.slice (some ⟨g, 0, none⟩) xs.length (xs.length + m)) xs.length (bv xs) := by
  have hv := bv_len xs
  refine ⟨hv, .inr ⟨g, xs.length + m, _, rfl, hB, h, by omega, by unfold maxLen; omega, ?_, ?_⟩⟩
  · rw [List.size_toArray, length_splice _ _ _ (by rw [hv]; omega)]
    omega
  · simp [splice, hv]
theorem bown_cut {w : World} {B g n cap m : Nat} {l : List Nat} (h : w.ownsRow B 5 1 (.slice (some ⟨g, 0, none⟩) n cap) n (bv l)) (hm : m ≤ n) : w.ownsRow B 5 1 (.slice (some ⟨g, 0, none⟩) m cap) m (bv (l.take m)) := by
  have hl : l.length = n := by have := h.1; rw [bv_len, Nat.mul_one, Nat.mul_one] at this; exact this
  refine ⟨by rw [bv_len, List.length_take, hl]; congr 1; omega, ?_⟩
  rcases h.2 with ⟨e, _⟩ | ⟨g', cap', cur, e, hb, hh, hle, hmx, hsz, ht⟩
  · cases e
  · cases e
    refine .inr ⟨g, cap, cur, rfl, hb, hh, by omega, hmx, hsz, ?_⟩
    have e2 : cur.toList.take (m * 1) = (cur.toList.take (n * 1)).take m := by rw [List.take_take]; congr 1; omega
    rw [e2, ht]
    simp [bv, List.map_take]
theorem bown_alloc {w : World} {B n : Nat} {v : Value} {xs : List Value} (h : w.ownsRow B 5 1 v n xs) (o : Obj) : (w.alloc o).ownsRow B 5 1 v n xs := bown_keep h fun k hk => Below.heap_alloc _ _ _ (h.lt k hk).2
theorem bbelow_g {w wr w1 : World} {row : Option Nat} (h : Below w.heap.size w wr) (hg : wr.grownBy w1 row) (hr : ∀ k, some k = row → w.heap.size ≤ k) : Below w.heap.size w w1 :=
  h.trans ⟨hg.os, hg.tape, hg.output, hg.size, fun k hk => hg.block k (Nat.lt_of_lt_of_le hk h.size) (fun e => by have := hr k e; omega)⟩
/-- the end of a row, as a list of its own. -/
theorem hasB_end {w : World} {B g n cap m : Nat} {l : List Nat} (h : w.ownsRow B 5 1 (.slice (some ⟨g, 0, none⟩) n cap) n (bv l)) (c : Nat) : HasB w (.slice (some ⟨g, m, none⟩) (l.drop m).length c) (l.drop m) := by
  have hl : l.length = n := by have := h.1; rw [bv_len, Nat.mul_one, Nat.mul_one] at this; exact this
  refine ⟨_, c, rfl, fun j a hj => ⟨g, m, rfl, (h.lt g rfl).2, ?_⟩⟩
  rw [List.getElem?_drop] at hj
  have hlt := (List.getElem?_eq_some_iff.1 hj).1
  rw [h.cellAt (m + j) (by omega)]
  simp [bv, hj]
theorem hasB_src {w wx : World} {lo : Option Addr} {lc : Nat} {l : List Nat} (hb : Below w.heap.size w wx) (h : HasB w (.slice lo l.length lc) l) (h0 : 0 < (bv l).length) : ∃ ad, lo = some ad ∧ ∀ j v, (bv l)[j]? = some v → wx.cell? (ad.add j) = some v := by
  cases lo with
  | none => rw [hasB_nil h] at h0; simp [bv] at h0
  | some ad => exact ⟨ad, rfl, hasB_cells' (h.keep hb)⟩
end Go.Proofs.YtemdocnhdnhliabDoor
