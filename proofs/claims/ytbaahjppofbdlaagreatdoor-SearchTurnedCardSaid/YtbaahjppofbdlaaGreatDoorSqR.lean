/- slices.Reverse at a row of one's own; rows of one's own that grow. (Cut out of WkS, WkB, WkC, for seats without walk.) -/
import Derived.Test.YtbaahjppofbdlaaGreatDoorRefBuW
import Derived.Shelf.Slices.Reverse
import Derived.Lib.SliceRun
import Derived.OwnWalk
namespace Go.Proofs
open Go.Shelf in
def Tryz.rv_ren : Go.Shelf.Ren := ⟨fun | 112 => 61 | n => n, fun | 28 => 27 | n => n, fun | n => n⟩
theorem Tryz.rv : Go.Proofs.Lays.n112 Tryz.prog Tryz.rv_ren := {
  mixed := by kernel_rfl
  f112 := Tryz.func61.trans (congrArg some (by kernel_rfl))
  t0 := Tryz.underlying0
  a0 := Tryz.isAgg0
  z0 := Tryz.sizeOf0
  v0 := Tryz.zeroValue0
  t3 := Tryz.underlying3
  a3 := Tryz.isAgg3
  z3 := Tryz.sizeOf3
  v3 := Tryz.zeroValue3
  t4 := Tryz.underlying4
  a4 := Tryz.isAgg4
  z4 := Tryz.sizeOf4
  v4 := Tryz.zeroValue4
  t28 := Tryz.underlying27
  a28 := Tryz.isAgg27
  z28 := Tryz.sizeOf27
  v28 := Tryz.zeroValue27 }
namespace YtbaahjppofbdlaaGreatDoor
open Go.RowKit Go.Extern Go.Sort

attribute [local go_sem] Oper.semAt_some

theorem reverse_own (B g cap : Nat) (zs : List Int) (w : World) (h : w.ownsRow B 3 1 (.slice (some ⟨g, 0, none⟩) zs.length cap) zs.length (iv zs)) (hm : zs.length ≤ 9223372036854775807) :
    Calls Tryz.prog 61 #[.slice (some ⟨g, 0, none⟩) zs.length cap] w fun e w' => e = .returned (.tuple #[]) ∧ w'.ownsRow B 3 1 (.slice (some ⟨g, 0, none⟩) zs.length cap) zs.length (iv zs.reverse) ∧ w.grownBy w' (some g) := by
  have hH : Holds (Value.int .i64) w g 0 zs.toArray := fun j hj => by
    have hj' : j < zs.length := by simpa using hj
    refine ⟨?_, by rw [Nat.zero_add]; exact h.frozenAt j⟩
    rw [Nat.zero_add, h.cellAt j (by omega)]
    simp [iv, hj']
  have hc := Any.slices_Reverse_int Tryz.rv g 0 cap zs w hH hm
  refine hc.mono ?_
  rintro e w' ⟨he, n, rfl⟩
  refine ⟨he, ?_, ?_⟩
  · rcases h.2 with ⟨e, _⟩ | ⟨g', cap', cur, e, hb, hh, hle, hmx, hsz, ht⟩
    · cases e
    · cases e
      refine ⟨by simp [iv], .inr ⟨g, cap, putCells (Value.int .i64) 0 zs.reverse.toArray cur, rfl, hb, ?_, hle, hmx, by simp [putCells]; simpa using hsz, ?_⟩⟩
      · simp only [putRow, mapBlock, Sort.ahead, Array.getElem?_modify]
        rw [if_pos trivial, hh]
        rfl
      · apply List.ext_getElem?
        intro j
        rw [List.getElem?_take]
        by_cases hj : j < zs.length * 1
        · rw [if_pos hj]
          have hj' : j < zs.length := by omega
          have hjc : j < cur.size := by omega
          simp [putCells, iv, hjc, hj']
        · rw [if_neg hj, List.getElem?_eq_none (by simp [iv]; omega)]
  · refine ⟨rfl, rfl, rfl, by simp [putRow, mapBlock, Sort.ahead], fun k hk hne => ?_⟩
    simp only [putRow, mapBlock, Sort.ahead, Array.getElem?_modify]
    rw [if_neg (fun e => hne (by rw [e]))]
theorem reverse_any (B sc : Nat) (so : Option Addr) (zs : List Int) (w : World) (h : w.ownsRow B 3 1 (.slice so zs.length sc) zs.length (iv zs)) (hm : zs.length ≤ 9223372036854775807) (hB : w.heap.size ≤ w.heap.size) :
    Calls Tryz.prog 61 #[.slice so zs.length sc] w fun e w' => e = .returned (.tuple #[]) ∧ w'.ownsRow B 3 1 (.slice so zs.length sc) zs.length (iv zs.reverse) ∧ w.grownBy w' (Value.slice so zs.length sc).ownBlock := by
  rcases h.2 with ⟨e, h0⟩ | ⟨g, cap, cur, e, _⟩
  · injection e with e1 e2 e3
    subst e1
    subst e3
    have hz : zs = [] := List.eq_nil_of_length_eq_zero h0
    subst hz
    refine (Any.slices_Reverse_int_empty Tryz.rv none 0 w).mono ?_
    rintro e w' ⟨he, rfl⟩
    exact ⟨he, World.ownsRow_nil _ _ _ _, ⟨rfl, rfl, rfl, Nat.le_refl _, fun _ _ _ => rfl⟩⟩
  · injection e with e1 e2 e3
    subst e1
    subst e3
    exact reverse_own B g sc zs w h hm
theorem take_snoc {xs : List Int} {k : Nat} {a : Int} (h : xs[k]? = some a) : xs.take (k + 1) = xs.take k ++ [a] := by
  rw [List.take_add_one, h]
  rfl
theorem iown_alloc {w : World} {B n : Nat} {v : Value} {xs : List Value} (h : w.ownsRow B 3 1 v n xs) (o : Obj) : (w.alloc o).ownsRow B 3 1 v n xs := iown_keep h fun k hk => Below.heap_alloc _ _ _ (h.lt k hk).2
theorem cell_one1 (w : World) (v : Value) : ∀ j u, [v][j]? = some u → (w.alloc (.cells #[v] 3)).cell? ((⟨w.heap.size, 0, none⟩ : Addr).add j) = some u := by
  intro j u hj
  rcases j with _ | j
  · simp at hj
    subst hj
    have hg := heap_new w (.cells #[v] 3)
    rw [Addr.add_lit]
    generalize w.alloc (.cells #[v] 3) = W at hg ⊢
    simp [World.cell?, hg]
  · simp at hj
theorem below_g {w wr w1 : World} {row : Option Nat} (h : Below w.heap.size w wr) (hg : wr.grownBy w1 row) (hr : ∀ k, some k = row → w.heap.size ≤ k) : Below w.heap.size w w1 :=
  h.trans ⟨hg.os, hg.tape, hg.output, hg.size, fun k hk => hg.block k (Nat.lt_of_lt_of_le hk h.size) (fun e => by have := hr k e; omega)⟩
theorem iown_old {w w' : World} {M n : Nat} {v : Value} {xs : List Value} (h : w.ownsRow (M + 1) 3 1 v n xs) (hg : w.grownBy w' (some M)) : w'.ownsRow (M + 1) 3 1 v n xs := iown_keep h fun k hk => hg.block k (h.lt k hk).2 (fun e => by have h1 := (h.lt k hk).1; have := Option.some.inj e; omega)
end YtbaahjppofbdlaaGreatDoor
end Go.Proofs
