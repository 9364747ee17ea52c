/- CrcFixed walked: the document's examples. -/
import Derived.Test.YtjjfnioplddppaaDoorCrH
import Derived.Test.YtjjfnioplddppaaDoorCrJ
import Derived.Deep.RegionHeld3
namespace Go.Proofs.YtjjfnioplddppaaDoor
open Go.RowKit Go.Extern Cr

attribute [local go_sem] Oper.semAt_some u32_signed u32_max

theorem bal {w W : World} (h : Below w.heap.size w W) (o : Obj) : Below w.heap.size w (W.alloc o) := h.alloc h.size o
theorem bdr {w W : World} (h : Below w.heap.size w W) (k : Nat) : Below w.heap.size w (W.drewN k) := ⟨h.os, h.tape, h.output, h.size, h.block⟩
theorem hn1 (W : World) (o : Obj) : (W.alloc o).heap[W.heap.size]? = some o := by show (W.heap.push _)[W.heap.size]? = _; simp
theorem hn20 (W : World) (o p : Obj) : ((W.alloc o).alloc p).heap[W.heap.size]? = some o := by
  have h := hn1 W o
  have hlt : W.heap.size < (W.alloc o).heap.size := b_lt_get h
  show ((W.alloc o).heap.push p)[W.heap.size]? = _
  rw [Array.getElem?_push_lt hlt]
  rw [← h, Array.getElem?_eq_getElem hlt]
theorem hn21 (W : World) (o p : Obj) : ((W.alloc o).alloc p).heap[W.heap.size + 1]? = some p := by
  have := hn1 (W.alloc o) p
  rw [World.size_alloc] at this
  exact this
theorem conv_top (w : World) (o : Obj) (C : Array Value) (n c : Nat) : (convert 25 25 (.slice (some ⟨w.heap.size + 1, 0, none⟩) n c)).run Tryd.prog ((w.alloc o).alloc (.cells C 5)) = .ok (.slice (some ⟨w.heap.size + 1, 0, none⟩) n c) ((w.alloc o).alloc (.cells C 5 (C.size, C.size + 1))) := by
  have h := conv_const (w.alloc o) C n c
  rw [World.size_alloc] at h
  exact h
theorem conv_low (w : World) (p : Obj) (C : Array Value) (n c : Nat) : (convert 25 25 (.slice (some ⟨w.heap.size, 0, none⟩) n c)).run Tryd.prog ((w.alloc (.cells C 5)).alloc p) = .ok (.slice (some ⟨w.heap.size, 0, none⟩) n c) ((w.alloc (.cells C 5 (C.size, C.size + 1))).alloc p) := by
  have hsh : ((w.alloc (.cells C 5)).alloc p).shape? w.heap.size = some (5, C.size) := by
    unfold World.shape?
    rw [hn20]
  have hfr : ∀ (k : Nat), ((w.alloc (.cells C 5)).alloc p).freeze ⟨w.heap.size, k, none⟩ 1 = (w.alloc (.cells C 5 (k, k + 1))).alloc p := fun k => by
    have hm : ∀ (a : Array Obj) (x y : Obj) (f : Obj → Obj), ((a.push x).push y).modify a.size f = (a.push (f x)).push y := by
      intro a x y f
      apply Array.ext
      · simp
      · intro i h1 h2
        simp only [Array.getElem_modify, Array.getElem_push]
        by_cases h : a.size = i
        · subst h
          simp
        · by_cases hi : i < a.size
          · simp [h, hi, Nat.lt_succ_of_lt hi]
          · simp at h1
            have : i = a.size + 1 := by omega
            subst this
            simp
    unfold World.freeze
    rw [if_neg (by decide)]
    show ({ (w.alloc (.cells C 5)).alloc p with heap := ((w.heap.push (.cells C 5)).push p).modify w.heap.size _ } : World) = _
    rw [hm]
    rfl
  simp [convert, run_underlying Tryd.underlying25, run_underlying Tryd.underlying5, markStringish, hsh]
  exact hfr _
theorem hasB_at {W : World} {b cap n : Nat} {fr : Nat × Nat} {xs : List Nat} (hn : n = xs.length) (h : W.heap[b]? = some (.cells (bv xs).toArray 5 fr)) : HasB W (.slice (some ⟨b, 0, none⟩) n cap) xs := by
  subst hn
  refine ⟨_, cap, rfl, fun j x hj => ⟨b, 0, rfl, b_lt_get h, ?_⟩⟩
  rw [Nat.zero_add]
  simp only [World.cell?, h]
  simp [bv, hj]
theorem hasB_none (W : World) : HasB W (.slice none 0 0) [] := ⟨none, 0, rfl, fun j x hj => by simp at hj⟩
theorem make_four (w : World) : (Instr.makeSlice 25 (.int .i64 4) (.int .i64 4)).run Tryd.prog w = .ok (.slice (some ⟨w.heap.size, 0, none⟩) 4 4) (w.alloc (.cells #[.int .u8 0, .int .u8 0, .int .u8 0, .int .u8 0] 5)) := by
  obtain ⟨i0, hi, hz0, hz1, hz2⟩ := infoB
  have h := run_make (P := Tryd.prog) w 25 5 i0 (.int .u8 0) Tryd.underlying25 hi hz0 .i64 .i64 4 4 (by omega) (by omega) (by rw [hz2]; omega) (by omega)
  have e : madeCells (Value.int .u8 0).cells (Int.toNat 4 * 1) = #[.int .u8 0, .int .u8 0, .int .u8 0, .int .u8 0] := by kernel_rfl
  rw [h, hz1, e]
  rfl
theorem upd_a : upd 0 [97] = 3904355907 := by kernel_rfl
theorem upd_z : upd 0 [0, 0, 0, 0] = 558161692 := by kernel_rfl
theorem upd_n : upd 0 [] = 0 := by kernel_rfl
theorem upd_4 : upd 0 [49, 50, 51, 52] = 2615402659 := by kernel_rfl
theorem upd_5 : upd 0 [53, 54, 55, 56, 57] = 320708720 := by kernel_rfl
theorem seal_n : sealOf [] = [0, 0, 0, 0] := by kernel_rfl
theorem seal_a : sealOf [97] = [97, 67, 190, 183, 232] := by kernel_rfl
theorem fits_z : fits [0, 0, 0, 0] = true := by kernel_rfl

end Go.Proofs.YtjjfnioplddppaaDoor
