/- CrcFixed's region, stage by stage. (gencm.py) -/
import Derived.Test.YtjjfnioplddppaaDoorCfW
import Derived.Test.YtjjfnioplddppaaDoorHdM
namespace Go.Proofs.YtjjfnioplddppaaDoor
open Go.RowKit Go.Extern Cr Hi

attribute [local go_sem] Oper.semAt_some u32_signed u32_max

theorem bld1 (wx : World) : (Instr.buildSlice 25 1 #[(0, .int .u8 97)]).run Tryd.prog wx = .ok (.slice (some ⟨wx.heap.size, 0, none⟩) 1 1) (wx.alloc (.cells #[.int .u8 97] 5)) := by kernel_rfl
theorem bld4 (wx : World) : (Instr.buildSlice 25 4 #[(0, .int .u8 49), (1, .int .u8 50), (2, .int .u8 51), (3, .int .u8 52)]).run Tryd.prog wx = .ok (.slice (some ⟨wx.heap.size, 0, none⟩) 4 4) (wx.alloc (.cells #[.int .u8 49, .int .u8 50, .int .u8 51, .int .u8 52] 5)) := by kernel_rfl
theorem bld5a (wx : World) : (Instr.buildSlice 25 5 #[(0, .int .u8 97), (1, .int .u8 67), (2, .int .u8 190), (3, .int .u8 183), (4, .int .u8 232)]).run Tryd.prog wx = .ok (.slice (some ⟨wx.heap.size, 0, none⟩) 5 5) (wx.alloc (.cells #[.int .u8 97, .int .u8 67, .int .u8 190, .int .u8 183, .int .u8 232] 5)) := by kernel_rfl
theorem bld5b (wx : World) : (Instr.buildSlice 25 5 #[(0, .int .u8 53), (1, .int .u8 54), (2, .int .u8 55), (3, .int .u8 56), (4, .int .u8 57)]).run Tryd.prog wx = .ok (.slice (some ⟨wx.heap.size, 0, none⟩) 5 5) (wx.alloc (.cells #[.int .u8 53, .int .u8 54, .int .u8 55, .int .u8 56, .int .u8 57] 5)) := by kernel_rfl
theorem conv_at {u : World} {b : Nat} {C : Array Value} (h : u.heap[b]? = some (.cells C 5)) (n c : Nat) : (convert 25 25 (.slice (some ⟨b, 0, none⟩) n c)).run Tryd.prog u = .ok (.slice (some ⟨b, 0, none⟩) n c) (u.freeze ⟨b, C.size, none⟩ 1) := by
  have hsh : u.shape? b = some (5, C.size) := by
    unfold World.shape?
    rw [h]
  simp [convert, run_underlying Tryd.underlying25, run_underlying Tryd.underlying5, markStringish, hsh]
theorem freeze_at {w u : World} {b k : Nat} {C : Array Value} (h : u.heap[b]? = some (.cells C 5)) (hS : Below w.heap.size w u) (hb : w.heap.size ≤ b) : (u.freeze ⟨b, k, none⟩ 1).heap[b]? = some (.cells C 5 (k, k + 1)) ∧ (∀ j, j ≠ b → (u.freeze ⟨b, k, none⟩ 1).heap[j]? = u.heap[j]?) ∧ Below w.heap.size w (u.freeze ⟨b, k, none⟩ 1) := by
  have e1 : (u.freeze ⟨b, k, none⟩ 1).heap[b]? = some (.cells C 5 (k, k + 1)) := by
    unfold World.freeze
    rw [if_neg (by decide)]
    simp only [Array.getElem?_modify]
    simp [h]
  have e2 : ∀ j, j ≠ b → (u.freeze ⟨b, k, none⟩ 1).heap[j]? = u.heap[j]? := fun j hj => by
    unfold World.freeze
    rw [if_neg (by decide)]
    simp only [Array.getElem?_modify]
    rw [if_neg (fun e => hj e.symm)]
  have e3 : (u.freeze ⟨b, k, none⟩ 1).heap.size = u.heap.size := by
    unfold World.freeze
    rw [if_neg (by decide)]
    simp
  refine ⟨e1, e2, ?_, ?_, ?_, by rw [e3]; exact hS.size, fun j hj => (e2 j (by omega)).trans (hS.block j hj)⟩
  · unfold World.freeze; rw [if_neg (by decide)]; exact hS.os
  · unfold World.freeze; rw [if_neg (by decide)]; exact hS.tape
  · unfold World.freeze; rw [if_neg (by decide)]; exact hS.output
theorem cast_list {P : Program} {md : Region.Mode} {ops : Array Oper} {Q : Exit → Act → World → Prop} {S : World → Prop} {f : Nat} {l l' : Array Bool} {a : Act} {w : World} (e : l = l') (h : wpAnyM P md ops Q S f l' a w) : wpAnyM P md ops Q S f l a w := by rw [e]; exact h
def cfOps : Array Oper := #[{ dst := Option.some 1, op := Op.call { callee := Callee.value (Operand.func 4), args := #[], argTypes := #[] }, type := 4, pos := "law.go:69", after := #[], guard := Option.none }, { dst := Option.some 2, op := Op.move (Operand.tmp 1), type := 4, pos := "law.go:69", after := #[{ on := 0, ground := Ground.data }, { on := 0, ground := Ground.chain }], guard := Option.none }, { dst := Option.some 3, op := Op.call { callee := Callee.value (Operand.func 5), args := #[Operand.const (Value.slice Option.none 0 0)], argTypes := #[25] }, type := 23, pos := "law.go:69", after := #[{ on := 1, ground := Ground.chain }, { on := 1, ground := Ground.guard }], guard := Option.some (1, Bool.true) }, { dst := Option.some 4, op := Op.binOp BinOp.eql 23 (Operand.tmp 3) (Operand.const (Value.int IntKind.u32 0)) 23, type := 4, pos := "law.go:69", after := #[{ on := 2, ground := Ground.data }, { on := 1, ground := Ground.guard }], guard := Option.some (1, Bool.true) }, { dst := Option.some 5, op := Op.pick (Operand.tmp 2) (Operand.tmp 4) (Operand.const (Value.bool Bool.false)), type := 4, pos := "law.go:69", after := #[{ on := 1, ground := Ground.data }, { on := 3, ground := Ground.data }], guard := Option.none }, { dst := Option.some 6, op := Op.move (Operand.tmp 5), type := 4, pos := "law.go:69", after := #[{ on := 4, ground := Ground.data }, { on := 2, ground := Ground.chain }], guard := Option.none }, { dst := Option.some 7, op := Op.buildSlice 25 1 #[(0, Operand.const (Value.int IntKind.u8 97))], type := 25, pos := "law.go:69", after := #[{ on := 5, ground := Ground.guard }], guard := Option.some (5, Bool.true) }, { dst := Option.some 8, op := Op.convert 25 25 (Operand.tmp 7), type := 25, pos := "law.go:69", after := #[{ on := 6, ground := Ground.data }, { on := 5, ground := Ground.guard }], guard := Option.some (5, Bool.true) }, { dst := Option.some 9, op := Op.call { callee := Callee.value (Operand.func 5), args := #[Operand.tmp 8], argTypes := #[25] }, type := 23, pos := "law.go:69", after := #[{ on := 7, ground := Ground.data }, { on := 5, ground := Ground.chain }, { on := 5, ground := Ground.guard }], guard := Option.some (5, Bool.true) }, { dst := Option.some 10, op := Op.binOp BinOp.eql 23 (Operand.tmp 9) (Operand.const (Value.int IntKind.u32 3904355907)) 23, type := 4, pos := "law.go:69", after := #[{ on := 8, ground := Ground.data }, { on := 5, ground := Ground.guard }], guard := Option.some (5, Bool.true) }, { dst := Option.some 11, op := Op.pick (Operand.tmp 6) (Operand.tmp 10) (Operand.const (Value.bool Bool.false)), type := 4, pos := "law.go:69", after := #[{ on := 5, ground := Ground.data }, { on := 9, ground := Ground.data }], guard := Option.none }, { dst := Option.some 12, op := Op.move (Operand.tmp 11), type := 4, pos := "law.go:69", after := #[{ on := 10, ground := Ground.data }, { on := 8, ground := Ground.chain }], guard := Option.none }, { dst := Option.some 13, op := Op.makeSlice 25 (Operand.const (Value.int IntKind.i64 4)) (Operand.const (Value.int IntKind.i64 4)), type := 25, pos := "law.go:69", after := #[{ on := 11, ground := Ground.guard }], guard := Option.some (11, Bool.true) }, { dst := Option.some 14, op := Op.call { callee := Callee.value (Operand.func 5), args := #[Operand.tmp 13], argTypes := #[25] }, type := 23, pos := "law.go:69", after := #[{ on := 12, ground := Ground.data }, { on := 11, ground := Ground.chain }, { on := 11, ground := Ground.guard }], guard := Option.some (11, Bool.true) }, { dst := Option.some 15, op := Op.binOp BinOp.eql 23 (Operand.tmp 14) (Operand.const (Value.int IntKind.u32 558161692)) 23, type := 4, pos := "law.go:69", after := #[{ on := 13, ground := Ground.data }, { on := 11, ground := Ground.guard }], guard := Option.some (11, Bool.true) }, { dst := Option.some 16, op := Op.pick (Operand.tmp 12) (Operand.tmp 15) (Operand.const (Value.bool Bool.false)), type := 4, pos := "law.go:69", after := #[{ on := 11, ground := Ground.data }, { on := 14, ground := Ground.data }], guard := Option.none }, { dst := Option.some 17, op := Op.move (Operand.tmp 16), type := 4, pos := "law.go:69", after := #[{ on := 15, ground := Ground.data }, { on := 13, ground := Ground.chain }], guard := Option.none }, { dst := Option.some 18, op := Op.call { callee := Callee.value (Operand.func 7), args := #[Operand.const (Value.slice Option.none 0 0)], argTypes := #[25] }, type := 25, pos := "law.go:69", after := #[{ on := 16, ground := Ground.chain }, { on := 16, ground := Ground.guard }], guard := Option.some (16, Bool.true) }, { dst := Option.some 19, op := Op.makeSlice 25 (Operand.const (Value.int IntKind.i64 4)) (Operand.const (Value.int IntKind.i64 4)), type := 25, pos := "law.go:69", after := #[{ on := 16, ground := Ground.guard }], guard := Option.some (16, Bool.true) }, { dst := Option.some 20, op := Op.call { callee := Callee.value (Operand.func 6), args := #[Operand.tmp 18, Operand.tmp 19], argTypes := #[25, 25] }, type := 4, pos := "law.go:69", after := #[{ on := 17, ground := Ground.data }, { on := 18, ground := Ground.data }, { on := 17, ground := Ground.chain }, { on := 16, ground := Ground.guard }], guard := Option.some (16, Bool.true) }, { dst := Option.some 21, op := Op.pick (Operand.tmp 17) (Operand.tmp 20) (Operand.const (Value.bool Bool.false)), type := 4, pos := "law.go:69", after := #[{ on := 16, ground := Ground.data }, { on := 19, ground := Ground.data }], guard := Option.none }, { dst := Option.some 22, op := Op.move (Operand.tmp 21), type := 4, pos := "law.go:69", after := #[{ on := 20, ground := Ground.data }, { on := 19, ground := Ground.chain }], guard := Option.none }, { dst := Option.some 23, op := Op.makeSlice 25 (Operand.const (Value.int IntKind.i64 4)) (Operand.const (Value.int IntKind.i64 4)), type := 25, pos := "law.go:69", after := #[{ on := 21, ground := Ground.guard }], guard := Option.some (21, Bool.true) }, { dst := Option.some 24, op := Op.call { callee := Callee.value (Operand.func 8), args := #[Operand.tmp 23], argTypes := #[25] }, type := 4, pos := "law.go:69", after := #[{ on := 22, ground := Ground.data }, { on := 21, ground := Ground.chain }, { on := 21, ground := Ground.guard }], guard := Option.some (21, Bool.true) }, { dst := Option.some 25, op := Op.pick (Operand.tmp 22) (Operand.tmp 24) (Operand.const (Value.bool Bool.false)), type := 4, pos := "law.go:69", after := #[{ on := 21, ground := Ground.data }, { on := 23, ground := Ground.data }], guard := Option.none }, { dst := Option.some 26, op := Op.move (Operand.tmp 25), type := 4, pos := "law.go:69", after := #[{ on := 24, ground := Ground.data }, { on := 23, ground := Ground.chain }], guard := Option.none }, { dst := Option.some 27, op := Op.buildSlice 25 1 #[(0, Operand.const (Value.int IntKind.u8 97))], type := 25, pos := "law.go:69", after := #[{ on := 25, ground := Ground.guard }], guard := Option.some (25, Bool.true) }, { dst := Option.some 28, op := Op.convert 25 25 (Operand.tmp 27), type := 25, pos := "law.go:69", after := #[{ on := 26, ground := Ground.data }, { on := 25, ground := Ground.guard }], guard := Option.some (25, Bool.true) }, { dst := Option.some 29, op := Op.call { callee := Callee.value (Operand.func 7), args := #[Operand.tmp 28], argTypes := #[25] }, type := 25, pos := "law.go:69", after := #[{ on := 27, ground := Ground.data }, { on := 25, ground := Ground.chain }, { on := 25, ground := Ground.guard }], guard := Option.some (25, Bool.true) }, { dst := Option.some 30, op := Op.buildSlice 25 5 #[(0, Operand.const (Value.int IntKind.u8 97)), (1, Operand.const (Value.int IntKind.u8 67)), (2, Operand.const (Value.int IntKind.u8 190)), (3, Operand.const (Value.int IntKind.u8 183)), (4, Operand.const (Value.int IntKind.u8 232))], type := 25, pos := "law.go:69", after := #[{ on := 25, ground := Ground.guard }], guard := Option.some (25, Bool.true) }, { dst := Option.some 31, op := Op.call { callee := Callee.value (Operand.func 6), args := #[Operand.tmp 29, Operand.tmp 30], argTypes := #[25, 25] }, type := 4, pos := "law.go:69", after := #[{ on := 28, ground := Ground.data }, { on := 29, ground := Ground.data }, { on := 28, ground := Ground.chain }, { on := 25, ground := Ground.guard }], guard := Option.some (25, Bool.true) }, { dst := Option.some 32, op := Op.pick (Operand.tmp 26) (Operand.tmp 31) (Operand.const (Value.bool Bool.false)), type := 4, pos := "law.go:69", after := #[{ on := 25, ground := Ground.data }, { on := 30, ground := Ground.data }], guard := Option.none }, { dst := Option.some 33, op := Op.move (Operand.tmp 32), type := 4, pos := "law.go:69", after := #[{ on := 31, ground := Ground.data }, { on := 30, ground := Ground.chain }], guard := Option.none }, { dst := Option.some 34, op := Op.call { callee := Callee.value (Operand.func 9), args := #[Operand.const (Value.int IntKind.u32 5), Operand.const (Value.int IntKind.u32 3), Operand.const (Value.int IntKind.i64 0)], argTypes := #[23, 23, 3] }, type := 23, pos := "law.go:69", after := #[{ on := 32, ground := Ground.chain }, { on := 32, ground := Ground.guard }], guard := Option.some (32, Bool.true) }, { dst := Option.some 35, op := Op.binOp BinOp.eql 23 (Operand.tmp 34) (Operand.const (Value.int IntKind.u32 6)) 23, type := 4, pos := "law.go:69", after := #[{ on := 33, ground := Ground.data }, { on := 32, ground := Ground.guard }], guard := Option.some (32, Bool.true) }, { dst := Option.some 36, op := Op.pick (Operand.tmp 33) (Operand.tmp 35) (Operand.const (Value.bool Bool.false)), type := 4, pos := "law.go:69", after := #[{ on := 32, ground := Ground.data }, { on := 34, ground := Ground.data }], guard := Option.none }, { dst := Option.some 37, op := Op.move (Operand.tmp 36), type := 4, pos := "law.go:69", after := #[{ on := 35, ground := Ground.data }, { on := 33, ground := Ground.chain }], guard := Option.none }, { dst := Option.some 38, op := Op.call { callee := Callee.value (Operand.func 9), args := #[Operand.const (Value.int IntKind.u32 5), Operand.const (Value.int IntKind.u32 3), Operand.const (Value.int IntKind.i64 (-7))], argTypes := #[23, 23, 3] }, type := 23, pos := "law.go:69", after := #[{ on := 36, ground := Ground.chain }, { on := 36, ground := Ground.guard }], guard := Option.some (36, Bool.true) }, { dst := Option.some 39, op := Op.binOp BinOp.eql 23 (Operand.tmp 38) (Operand.const (Value.int IntKind.u32 6)) 23, type := 4, pos := "law.go:69", after := #[{ on := 37, ground := Ground.data }, { on := 36, ground := Ground.guard }], guard := Option.some (36, Bool.true) }, { dst := Option.some 40, op := Op.pick (Operand.tmp 37) (Operand.tmp 39) (Operand.const (Value.bool Bool.false)), type := 4, pos := "law.go:69", after := #[{ on := 36, ground := Ground.data }, { on := 38, ground := Ground.data }], guard := Option.none }, { dst := Option.some 41, op := Op.move (Operand.tmp 40), type := 4, pos := "law.go:69", after := #[{ on := 39, ground := Ground.data }, { on := 37, ground := Ground.chain }], guard := Option.none }, { dst := Option.some 42, op := Op.buildSlice 25 4 #[(0, Operand.const (Value.int IntKind.u8 49)), (1, Operand.const (Value.int IntKind.u8 50)), (2, Operand.const (Value.int IntKind.u8 51)), (3, Operand.const (Value.int IntKind.u8 52))], type := 25, pos := "law.go:69", after := #[{ on := 40, ground := Ground.guard }], guard := Option.some (40, Bool.true) }, { dst := Option.some 43, op := Op.convert 25 25 (Operand.tmp 42), type := 25, pos := "law.go:69", after := #[{ on := 41, ground := Ground.data }, { on := 40, ground := Ground.guard }], guard := Option.some (40, Bool.true) }, { dst := Option.some 44, op := Op.call { callee := Callee.value (Operand.func 5), args := #[Operand.tmp 43], argTypes := #[25] }, type := 23, pos := "law.go:69", after := #[{ on := 42, ground := Ground.data }, { on := 40, ground := Ground.chain }, { on := 40, ground := Ground.guard }], guard := Option.some (40, Bool.true) }, { dst := Option.some 45, op := Op.buildSlice 25 5 #[(0, Operand.const (Value.int IntKind.u8 53)), (1, Operand.const (Value.int IntKind.u8 54)), (2, Operand.const (Value.int IntKind.u8 55)), (3, Operand.const (Value.int IntKind.u8 56)), (4, Operand.const (Value.int IntKind.u8 57))], type := 25, pos := "law.go:69", after := #[{ on := 40, ground := Ground.guard }], guard := Option.some (40, Bool.true) }, { dst := Option.some 46, op := Op.convert 25 25 (Operand.tmp 45), type := 25, pos := "law.go:69", after := #[{ on := 44, ground := Ground.data }, { on := 40, ground := Ground.guard }], guard := Option.some (40, Bool.true) }, { dst := Option.some 47, op := Op.call { callee := Callee.value (Operand.func 5), args := #[Operand.tmp 46], argTypes := #[25] }, type := 23, pos := "law.go:69", after := #[{ on := 45, ground := Ground.data }, { on := 43, ground := Ground.chain }, { on := 40, ground := Ground.guard }], guard := Option.some (40, Bool.true) }, { dst := Option.some 48, op := Op.call { callee := Callee.value (Operand.func 9), args := #[Operand.tmp 44, Operand.tmp 47, Operand.const (Value.int IntKind.i64 5)], argTypes := #[23, 23, 3] }, type := 23, pos := "law.go:69", after := #[{ on := 43, ground := Ground.data }, { on := 46, ground := Ground.data }, { on := 46, ground := Ground.chain }, { on := 40, ground := Ground.guard }], guard := Option.some (40, Bool.true) }, { dst := Option.some 49, op := Op.binOp BinOp.eql 23 (Operand.tmp 48) (Operand.const (Value.int IntKind.u32 3421780262)) 23, type := 4, pos := "law.go:69", after := #[{ on := 47, ground := Ground.data }, { on := 40, ground := Ground.guard }], guard := Option.some (40, Bool.true) }, { dst := Option.some 50, op := Op.pick (Operand.tmp 41) (Operand.tmp 49) (Operand.const (Value.bool Bool.false)), type := 4, pos := "law.go:69", after := #[{ on := 40, ground := Ground.data }, { on := 48, ground := Ground.data }], guard := Option.none }, { dst := Option.some 0, op := Op.assign (Operand.tmp 50), type := 4, pos := "law.go:69", after := #[{ on := 49, ground := Ground.data }, { on := 47, ground := Ground.chain }, { on := 0, ground := Ground.phase }, { on := 1, ground := Ground.phase }, { on := 2, ground := Ground.phase }, { on := 3, ground := Ground.phase }, { on := 4, ground := Ground.phase }, { on := 5, ground := Ground.phase }, { on := 6, ground := Ground.phase }, { on := 7, ground := Ground.phase }, { on := 8, ground := Ground.phase }, { on := 9, ground := Ground.phase }, { on := 10, ground := Ground.phase }, { on := 11, ground := Ground.phase }, { on := 12, ground := Ground.phase }, { on := 13, ground := Ground.phase }, { on := 14, ground := Ground.phase }, { on := 15, ground := Ground.phase }, { on := 16, ground := Ground.phase }, { on := 17, ground := Ground.phase }, { on := 18, ground := Ground.phase }, { on := 19, ground := Ground.phase }, { on := 20, ground := Ground.phase }, { on := 21, ground := Ground.phase }, { on := 22, ground := Ground.phase }, { on := 23, ground := Ground.phase }, { on := 24, ground := Ground.phase }, { on := 25, ground := Ground.phase }, { on := 26, ground := Ground.phase }, { on := 27, ground := Ground.phase }, { on := 28, ground := Ground.phase }, { on := 29, ground := Ground.phase }, { on := 30, ground := Ground.phase }, { on := 31, ground := Ground.phase }, { on := 32, ground := Ground.phase }, { on := 33, ground := Ground.phase }, { on := 34, ground := Ground.phase }, { on := 35, ground := Ground.phase }, { on := 36, ground := Ground.phase }, { on := 37, ground := Ground.phase }, { on := 38, ground := Ground.phase }, { on := 39, ground := Ground.phase }, { on := 40, ground := Ground.phase }, { on := 41, ground := Ground.phase }, { on := 42, ground := Ground.phase }, { on := 43, ground := Ground.phase }, { on := 44, ground := Ground.phase }, { on := 45, ground := Ground.phase }, { on := 46, ground := Ground.phase }, { on := 47, ground := Ground.phase }, { on := 48, ground := Ground.phase }, { on := 49, ground := Ground.phase }], guard := Option.none }]

set_option maxRecDepth 100000 in
set_option maxHeartbeats 8000000 in
theorem cfG (w : World) (hf : HasFours w) (hg : 0 < w.heap.size) {Q : Exit → Act → World → Prop} (hQP : ∀ c (a : Act) d v w, Q (.panic c) (a.put d v) w → Q (.panic c) a w) (hQ : ∀ (b1 b2 b3 b4 b5 b6 b7 b8 b9 b10 b11 b12 b13 b14 b15 b16 b17 b18 b19 b20 b21 b22 b23 b24 b25 b26 b27 b28 b29 b30 b31 b32 b33 b34 b35 b36 b37 b38 b39 b40 b41 b42 b43 b44 b45 b46 b47 b48 b49 b50 : Value) (wx : World), Below w.heap.size w wx → Q .normal { tmps := #[(.bool true), b1, b2, b3, b4, b5, b6, b7, b8, b9, b10, b11, b12, b13, b14, b15, b16, b17, b18, b19, b20, b21, b22, b23, b24, b25, b26, b27, b28, b29, b30, b31, b32, b33, b34, b35, b36, b37, b38, b39, b40, b41, b42, b43, b44, b45, b46, b47, b48, b49, b50], defers := [] } wx) (b0 b1 b2 b3 b4 b5 b6 b7 b8 b9 b10 b11 b12 b13 b14 b15 b16 b17 b18 b19 b20 b21 b22 b23 b24 b25 b26 b27 b28 b29 b30 b31 b32 b33 b34 b35 b36 b37 b38 b39 b40 b42 b43 b45 b46 b48 b49 b50 : Value) (v : World) (hv : Below w.heap.size w v) : wpAnyM Tryd.prog .any cfOps Q (fun w' => Below w.heap.size w w') 4 #[true, true, true, true, true, true, true, true, true, true, true, true, true, true, true, true, true, true, true, true, true, true, true, true, true, true, true, true, true, true, true, true, true, true, true, true, true, true, true, true, true, true, true, true, true, true, true, false, false, false, false] { tmps := #[b0, b1, b2, b3, b4, b5, b6, b7, b8, b9, b10, b11, b12, b13, b14, b15, b16, b17, b18, b19, b20, b21, b22, b23, b24, b25, b26, b27, b28, b29, b30, b31, b32, b33, b34, b35, b36, b37, b38, b39, b40, (.bool true), b42, b43, (.int .u32 2615402659), b45, b46, (.int .u32 320708720), b48, b49, b50], defers := [] } v := by
  have HF : Hid (∀ wx, Below w.heap.size w wx → HasFours wx ∧ 0 < wx.heap.size) := fun wx hx => ⟨fours_keep hf hg hx, Nat.lt_of_lt_of_le hg hx.size⟩
  have J9 : Hid (∀ wx, Calls Tryd.prog 9 #[.int .u32 2615402659, .int .u32 320708720, .int .i64 5] wx fun e w' => e = .returned (.int .u32 3421780262) ∧ w' = wx) := fun wx => by
    have g := cJoin_calls 2615402659 320708720 (by decide) (by decide) 5 (by decide) wx
    rw [show joinN 2615402659 320708720 5 = 3421780262 by kernel_rfl] at g
    exact g
  clear hf
  have HBv : Hid (Below w.heap.size w v) := hv
  have F0 : Hid (∀ wx : World, Below v.heap.size v wx → True) := fun _ _ => trivial
  have HFW : Hid (HasFours w ∧ 0 < w.heap.size) := HF.out w (Below.refl _ _)
  refine readyM (i := 47) (o := { dst := Option.some 48, op := Op.call { callee := Callee.value (Operand.func 9), args := #[Operand.tmp 44, Operand.tmp 47, Operand.const (Value.int IntKind.i64 5)], argTypes := #[23, 23, 3] }, type := 23, pos := "law.go:69", after := #[{ on := 43, ground := Ground.data }, { on := 46, ground := Ground.data }, { on := 46, ground := Ground.chain }, { on := 40, ground := Ground.guard }], guard := Option.some (40, Bool.true) }) rfl (by kernel_rfl) ?_
  intro u1 hg1 hS1 K hK
  go_simp
  refine (J9.out u1).mono ?_
  rintro e y1 ⟨rfl, hy1⟩
  subst hy1
  have F1 : Hid (∀ wx : World, Below y1.heap.size y1 wx → True) := fun _ _ => trivial
  have HB1 : Hid (Below w.heap.size w y1) := hS1
  go_wp2_with fail
  refine hK.out _ _ hS1 ?_
  clear hK K hg1 hS1 
  try simp only [List.setIfInBounds_toArray, List.set_cons_zero, List.set_cons_succ]
  refine wpAnyM_take (i := 48) (oi := { dst := Option.some 49, op := Op.binOp BinOp.eql 23 (Operand.tmp 48) (Operand.const (Value.int IntKind.u32 3421780262)) 23, type := 4, pos := "law.go:69", after := #[{ on := 47, ground := Ground.data }, { on := 40, ground := Ground.guard }], guard := Option.some (40, Bool.true) }) (v := ?vk2z48) rfl (by kernel_rfl) (by kernel_rfl) (by kernel_rfl) (fun c a w h => hQP c a _ _ w h) (YieldsM.of_if (Or.inl ⟨by rfl, ?hk2z48⟩)) ?rk2z48
  case hk2z48 => ((intro wz hSw; (try dsimp only at hSw); go_simp); try (with_reducible rfl))
  try simp only [Act.put, List.setIfInBounds_toArray, List.set_cons_zero, List.set_cons_succ]
  refine wpAnyM_take (i := 49) (oi := { dst := Option.some 50, op := Op.pick (Operand.tmp 41) (Operand.tmp 49) (Operand.const (Value.bool Bool.false)), type := 4, pos := "law.go:69", after := #[{ on := 40, ground := Ground.data }, { on := 48, ground := Ground.data }], guard := Option.none }) (v := ?vk3z49) rfl (by kernel_rfl) (by kernel_rfl) (by kernel_rfl) (fun c a w h => hQP c a _ _ w h) (YieldsM.of_if (Or.inl ⟨by rfl, ?hk3z49⟩)) ?rk3z49
  case hk3z49 => ((intro wz hSw; (try dsimp only at hSw); go_simp); try (with_reducible rfl))
  try simp only [Act.put, List.setIfInBounds_toArray, List.set_cons_zero, List.set_cons_succ]
  refine wpAnyM_take (i := 50) (oi := { dst := Option.some 0, op := Op.assign (Operand.tmp 50), type := 4, pos := "law.go:69", after := #[{ on := 49, ground := Ground.data }, { on := 47, ground := Ground.chain }, { on := 0, ground := Ground.phase }, { on := 1, ground := Ground.phase }, { on := 2, ground := Ground.phase }, { on := 3, ground := Ground.phase }, { on := 4, ground := Ground.phase }, { on := 5, ground := Ground.phase }, { on := 6, ground := Ground.phase }, { on := 7, ground := Ground.phase }, { on := 8, ground := Ground.phase }, { on := 9, ground := Ground.phase }, { on := 10, ground := Ground.phase }, { on := 11, ground := Ground.phase }, { on := 12, ground := Ground.phase }, { on := 13, ground := Ground.phase }, { on := 14, ground := Ground.phase }, { on := 15, ground := Ground.phase }, { on := 16, ground := Ground.phase }, { on := 17, ground := Ground.phase }, { on := 18, ground := Ground.phase }, { on := 19, ground := Ground.phase }, { on := 20, ground := Ground.phase }, { on := 21, ground := Ground.phase }, { on := 22, ground := Ground.phase }, { on := 23, ground := Ground.phase }, { on := 24, ground := Ground.phase }, { on := 25, ground := Ground.phase }, { on := 26, ground := Ground.phase }, { on := 27, ground := Ground.phase }, { on := 28, ground := Ground.phase }, { on := 29, ground := Ground.phase }, { on := 30, ground := Ground.phase }, { on := 31, ground := Ground.phase }, { on := 32, ground := Ground.phase }, { on := 33, ground := Ground.phase }, { on := 34, ground := Ground.phase }, { on := 35, ground := Ground.phase }, { on := 36, ground := Ground.phase }, { on := 37, ground := Ground.phase }, { on := 38, ground := Ground.phase }, { on := 39, ground := Ground.phase }, { on := 40, ground := Ground.phase }, { on := 41, ground := Ground.phase }, { on := 42, ground := Ground.phase }, { on := 43, ground := Ground.phase }, { on := 44, ground := Ground.phase }, { on := 45, ground := Ground.phase }, { on := 46, ground := Ground.phase }, { on := 47, ground := Ground.phase }, { on := 48, ground := Ground.phase }, { on := 49, ground := Ground.phase }], guard := Option.none }) (v := ?vk4z50) rfl (by kernel_rfl) (by kernel_rfl) (by kernel_rfl) (fun c a w h => hQP c a _ _ w h) (YieldsM.of_if (Or.inl ⟨by rfl, ?hk4z50⟩)) ?rk4z50
  case hk4z50 => ((intro wz hSw; (try dsimp only at hSw); go_simp); try (with_reducible rfl))
  try simp only [Act.put, List.setIfInBounds_toArray, List.set_cons_zero, List.set_cons_succ]
  refine wpAnyM_done (by kernel_rfl) ?_ _
  intro wz hgz hSz
  exact hQ _ _ _ _ _ _ _ _ _ _ _ _ _ _ _ _ _ _ _ _ _ _ _ _ _ _ _ _ _ _ _ _ _ _ _ _ _ _ _ _ _ _ _ _ _ _ _ _ _ _ _ hSz

set_option maxRecDepth 100000 in
set_option maxHeartbeats 8000000 in
theorem cfF (w : World) (hf : HasFours w) (hg : 0 < w.heap.size) {Q : Exit → Act → World → Prop} (hQP : ∀ c (a : Act) d v w, Q (.panic c) (a.put d v) w → Q (.panic c) a w) (hQ : ∀ (b1 b2 b3 b4 b5 b6 b7 b8 b9 b10 b11 b12 b13 b14 b15 b16 b17 b18 b19 b20 b21 b22 b23 b24 b25 b26 b27 b28 b29 b30 b31 b32 b33 b34 b35 b36 b37 b38 b39 b40 b41 b42 b43 b44 b45 b46 b47 b48 b49 b50 : Value) (wx : World), Below w.heap.size w wx → Q .normal { tmps := #[(.bool true), b1, b2, b3, b4, b5, b6, b7, b8, b9, b10, b11, b12, b13, b14, b15, b16, b17, b18, b19, b20, b21, b22, b23, b24, b25, b26, b27, b28, b29, b30, b31, b32, b33, b34, b35, b36, b37, b38, b39, b40, b41, b42, b43, b44, b45, b46, b47, b48, b49, b50], defers := [] } wx) (b0 b1 b2 b3 b4 b5 b6 b7 b8 b9 b10 b11 b12 b13 b14 b15 b16 b17 b18 b19 b20 b21 b22 b23 b24 b25 b26 b27 b28 b29 b30 b31 b32 b33 b34 b35 b36 b37 b38 b39 b40 b42 b43 b44 b45 b46 b47 b48 b49 b50 : Value) (v : World) (hv : Below w.heap.size w v) : wpAnyM Tryd.prog .any cfOps Q (fun w' => Below w.heap.size w w') 10 #[true, true, true, true, true, true, true, true, true, true, true, true, true, true, true, true, true, true, true, true, true, true, true, true, true, true, true, true, true, true, true, true, true, true, true, true, true, true, true, true, true, false, false, false, false, false, false, false, false, false, false] { tmps := #[b0, b1, b2, b3, b4, b5, b6, b7, b8, b9, b10, b11, b12, b13, b14, b15, b16, b17, b18, b19, b20, b21, b22, b23, b24, b25, b26, b27, b28, b29, b30, b31, b32, b33, b34, b35, b36, b37, b38, b39, b40, (.bool true), b42, b43, b44, b45, b46, b47, b48, b49, b50], defers := [] } v := by
  have HF : Hid (∀ wx, Below w.heap.size w wx → HasFours wx ∧ 0 < wx.heap.size) := fun wx hx => ⟨fours_keep hf hg hx, Nat.lt_of_lt_of_le hg hx.size⟩
  have S4 : Hid (∀ wx b fr, Below w.heap.size w wx → wx.heap[b]? = some (.cells #[.int .u8 49, .int .u8 50, .int .u8 51, .int .u8 52] 5 fr) → Calls Tryd.prog 5 #[.slice (some ⟨b, 0, none⟩) 4 4] wx fun e w' => e = .returned (.int .u32 2615402659) ∧ w' = wx) := fun wx b fr hx hc => by
    have g := cSum_calls (some ⟨b, 0, none⟩) 4 [49, 50, 51, 52] wx (HF.out wx hx).1 (hasB_at rfl (fr := fr) hc) (bts_of rfl) (by decide)
    rw [upd_4] at g
    exact g
  have S5 : Hid (∀ wx b fr, Below w.heap.size w wx → wx.heap[b]? = some (.cells #[.int .u8 53, .int .u8 54, .int .u8 55, .int .u8 56, .int .u8 57] 5 fr) → Calls Tryd.prog 5 #[.slice (some ⟨b, 0, none⟩) 5 5] wx fun e w' => e = .returned (.int .u32 320708720) ∧ w' = wx) := fun wx b fr hx hc => by
    have g := cSum_calls (some ⟨b, 0, none⟩) 5 [53, 54, 55, 56, 57] wx (HF.out wx hx).1 (hasB_at rfl (fr := fr) hc) (bts_of rfl) (by decide)
    rw [upd_5] at g
    exact g
  clear hf
  have HBv : Hid (Below w.heap.size w v) := hv
  have F0 : Hid (∀ wx : World, Below v.heap.size v wx → True) := fun _ _ => trivial
  have HFW : Hid (HasFours w ∧ 0 < w.heap.size) := HF.out w (Below.refl _ _)
  refine ready2M (i := 41) (j := 44) (oi := { dst := Option.some 42, op := Op.buildSlice 25 4 #[(0, Operand.const (Value.int IntKind.u8 49)), (1, Operand.const (Value.int IntKind.u8 50)), (2, Operand.const (Value.int IntKind.u8 51)), (3, Operand.const (Value.int IntKind.u8 52))], type := 25, pos := "law.go:69", after := #[{ on := 40, ground := Ground.guard }], guard := Option.some (40, Bool.true) }) (oj := { dst := Option.some 45, op := Op.buildSlice 25 5 #[(0, Operand.const (Value.int IntKind.u8 53)), (1, Operand.const (Value.int IntKind.u8 54)), (2, Operand.const (Value.int IntKind.u8 55)), (3, Operand.const (Value.int IntKind.u8 56)), (4, Operand.const (Value.int IntKind.u8 57))], type := 25, pos := "law.go:69", after := #[{ on := 40, ground := Ground.guard }], guard := Option.some (40, Bool.true) }) rfl rfl (by kernel_rfl) ?_ ?_
  · intro u5 hg5 hS5 K hK
    have km := bld4
    go_simp
    clear km
    have hnw := hn1 u5 (.cells #[.int .u8 49, .int .u8 50, .int .u8 51, .int .u8 52] 5)
    have hal : Below u5.heap.size u5 (u5.alloc (.cells #[.int .u8 49, .int .u8 50, .int .u8 51, .int .u8 52] 5)) := (Below.refl _ _).alloc (Nat.le_refl _) _
    have hbb : Below w.heap.size w (u5.alloc (.cells #[.int .u8 49, .int .u8 50, .int .u8 51, .int .u8 52] 5)) := bal hS5 _
    obtain ⟨x, hq5⟩ : ∃ b, u5.heap.size = b := ⟨_, rfl⟩
    have hlx : w.heap.size ≤ x := by rw [← hq5]; exact Below.size hS5
    rw [hq5] at hnw ⊢
    generalize u5.alloc (.cells #[.int .u8 49, .int .u8 50, .int .u8 51, .int .u8 52] 5) = y5 at *
    have F5 : Hid (∀ wx, Below y5.heap.size y5 wx → (wx.heap[x]? = some (.cells #[.int .u8 49, .int .u8 50, .int .u8 51, .int .u8 52] 5)) ∧ (True)) := fun wx hx => ⟨((Below.block hx _ (b_lt_get hnw)).trans hnw), trivial⟩
    have HB5 : Hid (Below w.heap.size w y5) := hbb
    refine hK.out _ _ hbb ?_
    clear hK K hnw hal hbb hq5 hg5 hS5  
    try simp only [List.setIfInBounds_toArray, List.set_cons_zero, List.set_cons_succ]
    refine ready2M (i := 42) (j := 44) (oi := { dst := Option.some 43, op := Op.convert 25 25 (Operand.tmp 42), type := 25, pos := "law.go:69", after := #[{ on := 41, ground := Ground.data }, { on := 40, ground := Ground.guard }], guard := Option.some (40, Bool.true) }) (oj := { dst := Option.some 45, op := Op.buildSlice 25 5 #[(0, Operand.const (Value.int IntKind.u8 53)), (1, Operand.const (Value.int IntKind.u8 54)), (2, Operand.const (Value.int IntKind.u8 55)), (3, Operand.const (Value.int IntKind.u8 56)), (4, Operand.const (Value.int IntKind.u8 57))], type := 25, pos := "law.go:69", after := #[{ on := 40, ground := Ground.guard }], guard := Option.some (40, Bool.true) }) rfl rfl (by kernel_rfl) ?_ ?_
    · intro u7 hg7 hS7 K hK
      obtain ⟨fx7, _⟩ := F5.out u7 hg7
      have kv := conv_at fx7 4 4
      go_simp
      clear kv
      obtain ⟨z1, z2, z3⟩ := freeze_at fx7 hS7 hlx (k := 4)
      generalize (u7.freeze ⟨x, 4, none⟩ 1) = y7 at *
      have F7 : Hid (∀ wx, Below y7.heap.size y7 wx → (wx.heap[x]? = some (.cells #[.int .u8 49, .int .u8 50, .int .u8 51, .int .u8 52] 5 (4, 5))) ∧ (True)) := fun wx hx => ⟨((Below.block hx _ (b_lt_get z1)).trans z1), trivial⟩
      have HB7 : Hid (Below w.heap.size w y7) := z3
      refine hK.out _ _ z3 ?_
      clear hK K z1 z2 z3 hg7 hS7 fx7 
      try simp only [List.setIfInBounds_toArray, List.set_cons_zero, List.set_cons_succ]
      refine ready2M (i := 43) (j := 44) (oi := { dst := Option.some 44, op := Op.call { callee := Callee.value (Operand.func 5), args := #[Operand.tmp 43], argTypes := #[25] }, type := 23, pos := "law.go:69", after := #[{ on := 42, ground := Ground.data }, { on := 40, ground := Ground.chain }, { on := 40, ground := Ground.guard }], guard := Option.some (40, Bool.true) }) (oj := { dst := Option.some 45, op := Op.buildSlice 25 5 #[(0, Operand.const (Value.int IntKind.u8 53)), (1, Operand.const (Value.int IntKind.u8 54)), (2, Operand.const (Value.int IntKind.u8 55)), (3, Operand.const (Value.int IntKind.u8 56)), (4, Operand.const (Value.int IntKind.u8 57))], type := 25, pos := "law.go:69", after := #[{ on := 40, ground := Ground.guard }], guard := Option.some (40, Bool.true) }) rfl rfl (by kernel_rfl) ?_ ?_
      · intro u9 hg9 hS9 K hK
        obtain ⟨fx9, _⟩ := F7.out u9 hg9
        go_simp
        refine (S4.out u9 x (4, 5) hS9 fx9).mono ?_
        rintro e y9 ⟨rfl, hy9⟩
        subst hy9
        have F9 : Hid (∀ wx, Below y9.heap.size y9 wx → (wx.heap[x]? = some (.cells #[.int .u8 49, .int .u8 50, .int .u8 51, .int .u8 52] 5 (4, 5))) ∧ (True)) := fun wx hx => ⟨((Below.block hx _ (b_lt_get fx9)).trans fx9), trivial⟩
        have HB9 : Hid (Below w.heap.size w y9) := hS9
        go_wp2_with fail
        refine hK.out _ _ hS9 ?_
        clear hK K hg9 hS9 fx9
        try simp only [List.setIfInBounds_toArray, List.set_cons_zero, List.set_cons_succ]
        refine readyM (i := 44) (o := { dst := Option.some 45, op := Op.buildSlice 25 5 #[(0, Operand.const (Value.int IntKind.u8 53)), (1, Operand.const (Value.int IntKind.u8 54)), (2, Operand.const (Value.int IntKind.u8 55)), (3, Operand.const (Value.int IntKind.u8 56)), (4, Operand.const (Value.int IntKind.u8 57))], type := 25, pos := "law.go:69", after := #[{ on := 40, ground := Ground.guard }], guard := Option.some (40, Bool.true) }) rfl (by kernel_rfl) ?_
        intro u11 hg11 hS11 K hK
        obtain ⟨fx11, _⟩ := F9.out u11 hg11
        have km := bld5b
        go_simp
        clear km
        have hnw := hn1 u11 (.cells #[.int .u8 53, .int .u8 54, .int .u8 55, .int .u8 56, .int .u8 57] 5)
        have hal : Below u11.heap.size u11 (u11.alloc (.cells #[.int .u8 53, .int .u8 54, .int .u8 55, .int .u8 56, .int .u8 57] 5)) := (Below.refl _ _).alloc (Nat.le_refl _) _
        have hbb : Below w.heap.size w (u11.alloc (.cells #[.int .u8 53, .int .u8 54, .int .u8 55, .int .u8 56, .int .u8 57] 5)) := bal hS11 _
        obtain ⟨y, hq11⟩ : ∃ b, u11.heap.size = b := ⟨_, rfl⟩
        have hly : w.heap.size ≤ y := by rw [← hq11]; exact Below.size hS11
        have nxy : x ≠ y := by have := b_lt_get fx11; omega
        rw [hq11] at hnw ⊢
        generalize u11.alloc (.cells #[.int .u8 53, .int .u8 54, .int .u8 55, .int .u8 56, .int .u8 57] 5) = y11 at *
        have gx11 := (Below.block hal _ (b_lt_get fx11)).trans fx11
        have F11 : Hid (∀ wx, Below y11.heap.size y11 wx → (wx.heap[x]? = some (.cells #[.int .u8 49, .int .u8 50, .int .u8 51, .int .u8 52] 5 (4, 5))) ∧ (wx.heap[y]? = some (.cells #[.int .u8 53, .int .u8 54, .int .u8 55, .int .u8 56, .int .u8 57] 5)) ∧ (True)) := fun wx hx => ⟨((Below.block hx _ (b_lt_get gx11)).trans gx11), ((Below.block hx _ (b_lt_get hnw)).trans hnw), trivial⟩
        have HB11 : Hid (Below w.heap.size w y11) := hbb
        refine hK.out _ _ hbb ?_
        clear hK K hnw hal hbb hq11 hg11 hS11 fx11 gx11
        try simp only [List.setIfInBounds_toArray, List.set_cons_zero, List.set_cons_succ]
        refine readyM (i := 45) (o := { dst := Option.some 46, op := Op.convert 25 25 (Operand.tmp 45), type := 25, pos := "law.go:69", after := #[{ on := 44, ground := Ground.data }, { on := 40, ground := Ground.guard }], guard := Option.some (40, Bool.true) }) rfl (by kernel_rfl) ?_
        intro u12 hg12 hS12 K hK
        obtain ⟨fx12, fy12, _⟩ := F11.out u12 hg12
        have kv := conv_at fy12 5 5
        go_simp
        clear kv
        obtain ⟨z1, z2, z3⟩ := freeze_at fy12 hS12 hly (k := 5)
        generalize (u12.freeze ⟨y, 5, none⟩ 1) = y12 at *
        have gx12 := (z2 x nxy).trans fx12
        have F12 : Hid (∀ wx, Below y12.heap.size y12 wx → (wx.heap[x]? = some (.cells #[.int .u8 49, .int .u8 50, .int .u8 51, .int .u8 52] 5 (4, 5))) ∧ (wx.heap[y]? = some (.cells #[.int .u8 53, .int .u8 54, .int .u8 55, .int .u8 56, .int .u8 57] 5 (5, 6))) ∧ (True)) := fun wx hx => ⟨((Below.block hx _ (b_lt_get gx12)).trans gx12), ((Below.block hx _ (b_lt_get z1)).trans z1), trivial⟩
        have HB12 : Hid (Below w.heap.size w y12) := z3
        refine hK.out _ _ z3 ?_
        clear hK K z1 z2 z3 hg12 hS12 fx12 fy12 gx12
        try simp only [List.setIfInBounds_toArray, List.set_cons_zero, List.set_cons_succ]
        refine readyM (i := 46) (o := { dst := Option.some 47, op := Op.call { callee := Callee.value (Operand.func 5), args := #[Operand.tmp 46], argTypes := #[25] }, type := 23, pos := "law.go:69", after := #[{ on := 45, ground := Ground.data }, { on := 43, ground := Ground.chain }, { on := 40, ground := Ground.guard }], guard := Option.some (40, Bool.true) }) rfl (by kernel_rfl) ?_
        intro u13 hg13 hS13 K hK
        obtain ⟨fx13, fy13, _⟩ := F12.out u13 hg13
        go_simp
        refine (S5.out u13 y (5, 6) hS13 fy13).mono ?_
        rintro e y13 ⟨rfl, hy13⟩
        subst hy13
        have F13 : Hid (∀ wx : World, Below y13.heap.size y13 wx → True) := fun _ _ => trivial
        have HB13 : Hid (Below w.heap.size w y13) := hS13
        go_wp2_with fail
        refine hK.out _ _ hS13 ?_
        clear hK K hg13 hS13 fx13 fy13
        try simp only [List.setIfInBounds_toArray, List.set_cons_zero, List.set_cons_succ]
        refine cast_list (l' := #[true, true, true, true, true, true, true, true, true, true, true, true, true, true, true, true, true, true, true, true, true, true, true, true, true, true, true, true, true, true, true, true, true, true, true, true, true, true, true, true, true, true, true, true, true, true, true, false, false, false, false]) (by kernel_rfl) ?_
        exact cfG w HFW.out.1 HFW.out.2 hQP hQ _ _ _ _ _ _ _ _ _ _ _ _ _ _ _ _ _ _ _ _ _ _ _ _ _ _ _ _ _ _ _ _ _ _ _ _ _ _ _ _ _ _ _ _ _ _ _ _ _ HB13.out
      · intro u10 hg10 hS10 K hK
        obtain ⟨fx10, _⟩ := F7.out u10 hg10
        have km := bld5b
        go_simp
        clear km
        have hnw := hn1 u10 (.cells #[.int .u8 53, .int .u8 54, .int .u8 55, .int .u8 56, .int .u8 57] 5)
        have hal : Below u10.heap.size u10 (u10.alloc (.cells #[.int .u8 53, .int .u8 54, .int .u8 55, .int .u8 56, .int .u8 57] 5)) := (Below.refl _ _).alloc (Nat.le_refl _) _
        have hbb : Below w.heap.size w (u10.alloc (.cells #[.int .u8 53, .int .u8 54, .int .u8 55, .int .u8 56, .int .u8 57] 5)) := bal hS10 _
        obtain ⟨y, hq10⟩ : ∃ b, u10.heap.size = b := ⟨_, rfl⟩
        have hly : w.heap.size ≤ y := by rw [← hq10]; exact Below.size hS10
        have nxy : x ≠ y := by have := b_lt_get fx10; omega
        rw [hq10] at hnw ⊢
        generalize u10.alloc (.cells #[.int .u8 53, .int .u8 54, .int .u8 55, .int .u8 56, .int .u8 57] 5) = y10 at *
        have gx10 := (Below.block hal _ (b_lt_get fx10)).trans fx10
        have F10 : Hid (∀ wx, Below y10.heap.size y10 wx → (wx.heap[x]? = some (.cells #[.int .u8 49, .int .u8 50, .int .u8 51, .int .u8 52] 5 (4, 5))) ∧ (wx.heap[y]? = some (.cells #[.int .u8 53, .int .u8 54, .int .u8 55, .int .u8 56, .int .u8 57] 5)) ∧ (True)) := fun wx hx => ⟨((Below.block hx _ (b_lt_get gx10)).trans gx10), ((Below.block hx _ (b_lt_get hnw)).trans hnw), trivial⟩
        have HB10 : Hid (Below w.heap.size w y10) := hbb
        refine hK.out _ _ hbb ?_
        clear hK K hnw hal hbb hq10 hg10 hS10 fx10 gx10
        try simp only [List.setIfInBounds_toArray, List.set_cons_zero, List.set_cons_succ]
        refine ready2M (i := 43) (j := 45) (oi := { dst := Option.some 44, op := Op.call { callee := Callee.value (Operand.func 5), args := #[Operand.tmp 43], argTypes := #[25] }, type := 23, pos := "law.go:69", after := #[{ on := 42, ground := Ground.data }, { on := 40, ground := Ground.chain }, { on := 40, ground := Ground.guard }], guard := Option.some (40, Bool.true) }) (oj := { dst := Option.some 46, op := Op.convert 25 25 (Operand.tmp 45), type := 25, pos := "law.go:69", after := #[{ on := 44, ground := Ground.data }, { on := 40, ground := Ground.guard }], guard := Option.some (40, Bool.true) }) rfl rfl (by kernel_rfl) ?_ ?_
        · intro u14 hg14 hS14 K hK
          obtain ⟨fx14, fy14, _⟩ := F10.out u14 hg14
          go_simp
          refine (S4.out u14 x (4, 5) hS14 fx14).mono ?_
          rintro e y14 ⟨rfl, hy14⟩
          subst hy14
          have F14 : Hid (∀ wx, Below y14.heap.size y14 wx → (wx.heap[x]? = some (.cells #[.int .u8 49, .int .u8 50, .int .u8 51, .int .u8 52] 5 (4, 5))) ∧ (wx.heap[y]? = some (.cells #[.int .u8 53, .int .u8 54, .int .u8 55, .int .u8 56, .int .u8 57] 5)) ∧ (True)) := fun wx hx => ⟨((Below.block hx _ (b_lt_get fx14)).trans fx14), ((Below.block hx _ (b_lt_get fy14)).trans fy14), trivial⟩
          have HB14 : Hid (Below w.heap.size w y14) := hS14
          go_wp2_with fail
          refine hK.out _ _ hS14 ?_
          clear hK K hg14 hS14 fx14 fy14
          try simp only [List.setIfInBounds_toArray, List.set_cons_zero, List.set_cons_succ]
          refine readyM (i := 45) (o := { dst := Option.some 46, op := Op.convert 25 25 (Operand.tmp 45), type := 25, pos := "law.go:69", after := #[{ on := 44, ground := Ground.data }, { on := 40, ground := Ground.guard }], guard := Option.some (40, Bool.true) }) rfl (by kernel_rfl) ?_
          intro u16 hg16 hS16 K hK
          obtain ⟨fx16, fy16, _⟩ := F14.out u16 hg16
          have kv := conv_at fy16 5 5
          go_simp
          clear kv
          obtain ⟨z1, z2, z3⟩ := freeze_at fy16 hS16 hly (k := 5)
          generalize (u16.freeze ⟨y, 5, none⟩ 1) = y16 at *
          have gx16 := (z2 x nxy).trans fx16
          have F16 : Hid (∀ wx, Below y16.heap.size y16 wx → (wx.heap[x]? = some (.cells #[.int .u8 49, .int .u8 50, .int .u8 51, .int .u8 52] 5 (4, 5))) ∧ (wx.heap[y]? = some (.cells #[.int .u8 53, .int .u8 54, .int .u8 55, .int .u8 56, .int .u8 57] 5 (5, 6))) ∧ (True)) := fun wx hx => ⟨((Below.block hx _ (b_lt_get gx16)).trans gx16), ((Below.block hx _ (b_lt_get z1)).trans z1), trivial⟩
          have HB16 : Hid (Below w.heap.size w y16) := z3
          refine hK.out _ _ z3 ?_
          clear hK K z1 z2 z3 hg16 hS16 fx16 fy16 gx16
          try simp only [List.setIfInBounds_toArray, List.set_cons_zero, List.set_cons_succ]
          refine readyM (i := 46) (o := { dst := Option.some 47, op := Op.call { callee := Callee.value (Operand.func 5), args := #[Operand.tmp 46], argTypes := #[25] }, type := 23, pos := "law.go:69", after := #[{ on := 45, ground := Ground.data }, { on := 43, ground := Ground.chain }, { on := 40, ground := Ground.guard }], guard := Option.some (40, Bool.true) }) rfl (by kernel_rfl) ?_
          intro u17 hg17 hS17 K hK
          obtain ⟨fx17, fy17, _⟩ := F16.out u17 hg17
          go_simp
          refine (S5.out u17 y (5, 6) hS17 fy17).mono ?_
          rintro e y17 ⟨rfl, hy17⟩
          subst hy17
          have F17 : Hid (∀ wx : World, Below y17.heap.size y17 wx → True) := fun _ _ => trivial
          have HB17 : Hid (Below w.heap.size w y17) := hS17
          go_wp2_with fail
          refine hK.out _ _ hS17 ?_
          clear hK K hg17 hS17 fx17 fy17
          try simp only [List.setIfInBounds_toArray, List.set_cons_zero, List.set_cons_succ]
          refine cast_list (l' := #[true, true, true, true, true, true, true, true, true, true, true, true, true, true, true, true, true, true, true, true, true, true, true, true, true, true, true, true, true, true, true, true, true, true, true, true, true, true, true, true, true, true, true, true, true, true, true, false, false, false, false]) (by kernel_rfl) ?_
          exact cfG w HFW.out.1 HFW.out.2 hQP hQ _ _ _ _ _ _ _ _ _ _ _ _ _ _ _ _ _ _ _ _ _ _ _ _ _ _ _ _ _ _ _ _ _ _ _ _ _ _ _ _ _ _ _ _ _ _ _ _ _ HB17.out
        · intro u15 hg15 hS15 K hK
          obtain ⟨fx15, fy15, _⟩ := F10.out u15 hg15
          have kv := conv_at fy15 5 5
          go_simp
          clear kv
          obtain ⟨z1, z2, z3⟩ := freeze_at fy15 hS15 hly (k := 5)
          generalize (u15.freeze ⟨y, 5, none⟩ 1) = y15 at *
          have gx15 := (z2 x nxy).trans fx15
          have F15 : Hid (∀ wx, Below y15.heap.size y15 wx → (wx.heap[x]? = some (.cells #[.int .u8 49, .int .u8 50, .int .u8 51, .int .u8 52] 5 (4, 5))) ∧ (wx.heap[y]? = some (.cells #[.int .u8 53, .int .u8 54, .int .u8 55, .int .u8 56, .int .u8 57] 5 (5, 6))) ∧ (True)) := fun wx hx => ⟨((Below.block hx _ (b_lt_get gx15)).trans gx15), ((Below.block hx _ (b_lt_get z1)).trans z1), trivial⟩
          have HB15 : Hid (Below w.heap.size w y15) := z3
          refine hK.out _ _ z3 ?_
          clear hK K z1 z2 z3 hg15 hS15 fx15 fy15 gx15
          try simp only [List.setIfInBounds_toArray, List.set_cons_zero, List.set_cons_succ]
          refine readyM (i := 43) (o := { dst := Option.some 44, op := Op.call { callee := Callee.value (Operand.func 5), args := #[Operand.tmp 43], argTypes := #[25] }, type := 23, pos := "law.go:69", after := #[{ on := 42, ground := Ground.data }, { on := 40, ground := Ground.chain }, { on := 40, ground := Ground.guard }], guard := Option.some (40, Bool.true) }) rfl (by kernel_rfl) ?_
          intro u18 hg18 hS18 K hK
          obtain ⟨fx18, fy18, _⟩ := F15.out u18 hg18
          go_simp
          refine (S4.out u18 x (4, 5) hS18 fx18).mono ?_
          rintro e y18 ⟨rfl, hy18⟩
          subst hy18
          have F18 : Hid (∀ wx, Below y18.heap.size y18 wx → (wx.heap[x]? = some (.cells #[.int .u8 49, .int .u8 50, .int .u8 51, .int .u8 52] 5 (4, 5))) ∧ (wx.heap[y]? = some (.cells #[.int .u8 53, .int .u8 54, .int .u8 55, .int .u8 56, .int .u8 57] 5 (5, 6))) ∧ (True)) := fun wx hx => ⟨((Below.block hx _ (b_lt_get fx18)).trans fx18), ((Below.block hx _ (b_lt_get fy18)).trans fy18), trivial⟩
          have HB18 : Hid (Below w.heap.size w y18) := hS18
          go_wp2_with fail
          refine hK.out _ _ hS18 ?_
          clear hK K hg18 hS18 fx18 fy18
          try simp only [List.setIfInBounds_toArray, List.set_cons_zero, List.set_cons_succ]
          refine readyM (i := 46) (o := { dst := Option.some 47, op := Op.call { callee := Callee.value (Operand.func 5), args := #[Operand.tmp 46], argTypes := #[25] }, type := 23, pos := "law.go:69", after := #[{ on := 45, ground := Ground.data }, { on := 43, ground := Ground.chain }, { on := 40, ground := Ground.guard }], guard := Option.some (40, Bool.true) }) rfl (by kernel_rfl) ?_
          intro u19 hg19 hS19 K hK
          obtain ⟨fx19, fy19, _⟩ := F18.out u19 hg19
          go_simp
          refine (S5.out u19 y (5, 6) hS19 fy19).mono ?_
          rintro e y19 ⟨rfl, hy19⟩
          subst hy19
          have F19 : Hid (∀ wx : World, Below y19.heap.size y19 wx → True) := fun _ _ => trivial
          have HB19 : Hid (Below w.heap.size w y19) := hS19
          go_wp2_with fail
          refine hK.out _ _ hS19 ?_
          clear hK K hg19 hS19 fx19 fy19
          try simp only [List.setIfInBounds_toArray, List.set_cons_zero, List.set_cons_succ]
          refine cast_list (l' := #[true, true, true, true, true, true, true, true, true, true, true, true, true, true, true, true, true, true, true, true, true, true, true, true, true, true, true, true, true, true, true, true, true, true, true, true, true, true, true, true, true, true, true, true, true, true, true, false, false, false, false]) (by kernel_rfl) ?_
          exact cfG w HFW.out.1 HFW.out.2 hQP hQ _ _ _ _ _ _ _ _ _ _ _ _ _ _ _ _ _ _ _ _ _ _ _ _ _ _ _ _ _ _ _ _ _ _ _ _ _ _ _ _ _ _ _ _ _ _ _ _ _ HB19.out
    · intro u8 hg8 hS8 K hK
      obtain ⟨fx8, _⟩ := F5.out u8 hg8
      have km := bld5b
      go_simp
      clear km
      have hnw := hn1 u8 (.cells #[.int .u8 53, .int .u8 54, .int .u8 55, .int .u8 56, .int .u8 57] 5)
      have hal : Below u8.heap.size u8 (u8.alloc (.cells #[.int .u8 53, .int .u8 54, .int .u8 55, .int .u8 56, .int .u8 57] 5)) := (Below.refl _ _).alloc (Nat.le_refl _) _
      have hbb : Below w.heap.size w (u8.alloc (.cells #[.int .u8 53, .int .u8 54, .int .u8 55, .int .u8 56, .int .u8 57] 5)) := bal hS8 _
      obtain ⟨y, hq8⟩ : ∃ b, u8.heap.size = b := ⟨_, rfl⟩
      have hly : w.heap.size ≤ y := by rw [← hq8]; exact Below.size hS8
      have nxy : x ≠ y := by have := b_lt_get fx8; omega
      rw [hq8] at hnw ⊢
      generalize u8.alloc (.cells #[.int .u8 53, .int .u8 54, .int .u8 55, .int .u8 56, .int .u8 57] 5) = y8 at *
      have gx8 := (Below.block hal _ (b_lt_get fx8)).trans fx8
      have F8 : Hid (∀ wx, Below y8.heap.size y8 wx → (wx.heap[x]? = some (.cells #[.int .u8 49, .int .u8 50, .int .u8 51, .int .u8 52] 5)) ∧ (wx.heap[y]? = some (.cells #[.int .u8 53, .int .u8 54, .int .u8 55, .int .u8 56, .int .u8 57] 5)) ∧ (True)) := fun wx hx => ⟨((Below.block hx _ (b_lt_get gx8)).trans gx8), ((Below.block hx _ (b_lt_get hnw)).trans hnw), trivial⟩
      have HB8 : Hid (Below w.heap.size w y8) := hbb
      refine hK.out _ _ hbb ?_
      clear hK K hnw hal hbb hq8 hg8 hS8 fx8 gx8
      try simp only [List.setIfInBounds_toArray, List.set_cons_zero, List.set_cons_succ]
      refine ready2M (i := 42) (j := 45) (oi := { dst := Option.some 43, op := Op.convert 25 25 (Operand.tmp 42), type := 25, pos := "law.go:69", after := #[{ on := 41, ground := Ground.data }, { on := 40, ground := Ground.guard }], guard := Option.some (40, Bool.true) }) (oj := { dst := Option.some 46, op := Op.convert 25 25 (Operand.tmp 45), type := 25, pos := "law.go:69", after := #[{ on := 44, ground := Ground.data }, { on := 40, ground := Ground.guard }], guard := Option.some (40, Bool.true) }) rfl rfl (by kernel_rfl) ?_ ?_
      · intro u20 hg20 hS20 K hK
        obtain ⟨fx20, fy20, _⟩ := F8.out u20 hg20
        have kv := conv_at fx20 4 4
        go_simp
        clear kv
        obtain ⟨z1, z2, z3⟩ := freeze_at fx20 hS20 hlx (k := 4)
        generalize (u20.freeze ⟨x, 4, none⟩ 1) = y20 at *
        have gy20 := (z2 y (Ne.symm nxy)).trans fy20
        have F20 : Hid (∀ wx, Below y20.heap.size y20 wx → (wx.heap[x]? = some (.cells #[.int .u8 49, .int .u8 50, .int .u8 51, .int .u8 52] 5 (4, 5))) ∧ (wx.heap[y]? = some (.cells #[.int .u8 53, .int .u8 54, .int .u8 55, .int .u8 56, .int .u8 57] 5)) ∧ (True)) := fun wx hx => ⟨((Below.block hx _ (b_lt_get z1)).trans z1), ((Below.block hx _ (b_lt_get gy20)).trans gy20), trivial⟩
        have HB20 : Hid (Below w.heap.size w y20) := z3
        refine hK.out _ _ z3 ?_
        clear hK K z1 z2 z3 hg20 hS20 fx20 fy20 gy20
        try simp only [List.setIfInBounds_toArray, List.set_cons_zero, List.set_cons_succ]
        refine ready2M (i := 43) (j := 45) (oi := { dst := Option.some 44, op := Op.call { callee := Callee.value (Operand.func 5), args := #[Operand.tmp 43], argTypes := #[25] }, type := 23, pos := "law.go:69", after := #[{ on := 42, ground := Ground.data }, { on := 40, ground := Ground.chain }, { on := 40, ground := Ground.guard }], guard := Option.some (40, Bool.true) }) (oj := { dst := Option.some 46, op := Op.convert 25 25 (Operand.tmp 45), type := 25, pos := "law.go:69", after := #[{ on := 44, ground := Ground.data }, { on := 40, ground := Ground.guard }], guard := Option.some (40, Bool.true) }) rfl rfl (by kernel_rfl) ?_ ?_
        · intro u22 hg22 hS22 K hK
          obtain ⟨fx22, fy22, _⟩ := F20.out u22 hg22
          go_simp
          refine (S4.out u22 x (4, 5) hS22 fx22).mono ?_
          rintro e y22 ⟨rfl, hy22⟩
          subst hy22
          have F22 : Hid (∀ wx, Below y22.heap.size y22 wx → (wx.heap[x]? = some (.cells #[.int .u8 49, .int .u8 50, .int .u8 51, .int .u8 52] 5 (4, 5))) ∧ (wx.heap[y]? = some (.cells #[.int .u8 53, .int .u8 54, .int .u8 55, .int .u8 56, .int .u8 57] 5)) ∧ (True)) := fun wx hx => ⟨((Below.block hx _ (b_lt_get fx22)).trans fx22), ((Below.block hx _ (b_lt_get fy22)).trans fy22), trivial⟩
          have HB22 : Hid (Below w.heap.size w y22) := hS22
          go_wp2_with fail
          refine hK.out _ _ hS22 ?_
          clear hK K hg22 hS22 fx22 fy22
          try simp only [List.setIfInBounds_toArray, List.set_cons_zero, List.set_cons_succ]
          refine readyM (i := 45) (o := { dst := Option.some 46, op := Op.convert 25 25 (Operand.tmp 45), type := 25, pos := "law.go:69", after := #[{ on := 44, ground := Ground.data }, { on := 40, ground := Ground.guard }], guard := Option.some (40, Bool.true) }) rfl (by kernel_rfl) ?_
          intro u24 hg24 hS24 K hK
          obtain ⟨fx24, fy24, _⟩ := F22.out u24 hg24
          have kv := conv_at fy24 5 5
          go_simp
          clear kv
          obtain ⟨z1, z2, z3⟩ := freeze_at fy24 hS24 hly (k := 5)
          generalize (u24.freeze ⟨y, 5, none⟩ 1) = y24 at *
          have gx24 := (z2 x nxy).trans fx24
          have F24 : Hid (∀ wx, Below y24.heap.size y24 wx → (wx.heap[x]? = some (.cells #[.int .u8 49, .int .u8 50, .int .u8 51, .int .u8 52] 5 (4, 5))) ∧ (wx.heap[y]? = some (.cells #[.int .u8 53, .int .u8 54, .int .u8 55, .int .u8 56, .int .u8 57] 5 (5, 6))) ∧ (True)) := fun wx hx => ⟨((Below.block hx _ (b_lt_get gx24)).trans gx24), ((Below.block hx _ (b_lt_get z1)).trans z1), trivial⟩
          have HB24 : Hid (Below w.heap.size w y24) := z3
          refine hK.out _ _ z3 ?_
          clear hK K z1 z2 z3 hg24 hS24 fx24 fy24 gx24
          try simp only [List.setIfInBounds_toArray, List.set_cons_zero, List.set_cons_succ]
          refine readyM (i := 46) (o := { dst := Option.some 47, op := Op.call { callee := Callee.value (Operand.func 5), args := #[Operand.tmp 46], argTypes := #[25] }, type := 23, pos := "law.go:69", after := #[{ on := 45, ground := Ground.data }, { on := 43, ground := Ground.chain }, { on := 40, ground := Ground.guard }], guard := Option.some (40, Bool.true) }) rfl (by kernel_rfl) ?_
          intro u25 hg25 hS25 K hK
          obtain ⟨fx25, fy25, _⟩ := F24.out u25 hg25
          go_simp
          refine (S5.out u25 y (5, 6) hS25 fy25).mono ?_
          rintro e y25 ⟨rfl, hy25⟩
          subst hy25
          have F25 : Hid (∀ wx : World, Below y25.heap.size y25 wx → True) := fun _ _ => trivial
          have HB25 : Hid (Below w.heap.size w y25) := hS25
          go_wp2_with fail
          refine hK.out _ _ hS25 ?_
          clear hK K hg25 hS25 fx25 fy25
          try simp only [List.setIfInBounds_toArray, List.set_cons_zero, List.set_cons_succ]
          refine cast_list (l' := #[true, true, true, true, true, true, true, true, true, true, true, true, true, true, true, true, true, true, true, true, true, true, true, true, true, true, true, true, true, true, true, true, true, true, true, true, true, true, true, true, true, true, true, true, true, true, true, false, false, false, false]) (by kernel_rfl) ?_
          exact cfG w HFW.out.1 HFW.out.2 hQP hQ _ _ _ _ _ _ _ _ _ _ _ _ _ _ _ _ _ _ _ _ _ _ _ _ _ _ _ _ _ _ _ _ _ _ _ _ _ _ _ _ _ _ _ _ _ _ _ _ _ HB25.out
        · intro u23 hg23 hS23 K hK
          obtain ⟨fx23, fy23, _⟩ := F20.out u23 hg23
          have kv := conv_at fy23 5 5
          go_simp
          clear kv
          obtain ⟨z1, z2, z3⟩ := freeze_at fy23 hS23 hly (k := 5)
          generalize (u23.freeze ⟨y, 5, none⟩ 1) = y23 at *
          have gx23 := (z2 x nxy).trans fx23
          have F23 : Hid (∀ wx, Below y23.heap.size y23 wx → (wx.heap[x]? = some (.cells #[.int .u8 49, .int .u8 50, .int .u8 51, .int .u8 52] 5 (4, 5))) ∧ (wx.heap[y]? = some (.cells #[.int .u8 53, .int .u8 54, .int .u8 55, .int .u8 56, .int .u8 57] 5 (5, 6))) ∧ (True)) := fun wx hx => ⟨((Below.block hx _ (b_lt_get gx23)).trans gx23), ((Below.block hx _ (b_lt_get z1)).trans z1), trivial⟩
          have HB23 : Hid (Below w.heap.size w y23) := z3
          refine hK.out _ _ z3 ?_
          clear hK K z1 z2 z3 hg23 hS23 fx23 fy23 gx23
          try simp only [List.setIfInBounds_toArray, List.set_cons_zero, List.set_cons_succ]
          refine readyM (i := 43) (o := { dst := Option.some 44, op := Op.call { callee := Callee.value (Operand.func 5), args := #[Operand.tmp 43], argTypes := #[25] }, type := 23, pos := "law.go:69", after := #[{ on := 42, ground := Ground.data }, { on := 40, ground := Ground.chain }, { on := 40, ground := Ground.guard }], guard := Option.some (40, Bool.true) }) rfl (by kernel_rfl) ?_
          intro u26 hg26 hS26 K hK
          obtain ⟨fx26, fy26, _⟩ := F23.out u26 hg26
          go_simp
          refine (S4.out u26 x (4, 5) hS26 fx26).mono ?_
          rintro e y26 ⟨rfl, hy26⟩
          subst hy26
          have F26 : Hid (∀ wx, Below y26.heap.size y26 wx → (wx.heap[x]? = some (.cells #[.int .u8 49, .int .u8 50, .int .u8 51, .int .u8 52] 5 (4, 5))) ∧ (wx.heap[y]? = some (.cells #[.int .u8 53, .int .u8 54, .int .u8 55, .int .u8 56, .int .u8 57] 5 (5, 6))) ∧ (True)) := fun wx hx => ⟨((Below.block hx _ (b_lt_get fx26)).trans fx26), ((Below.block hx _ (b_lt_get fy26)).trans fy26), trivial⟩
          have HB26 : Hid (Below w.heap.size w y26) := hS26
          go_wp2_with fail
          refine hK.out _ _ hS26 ?_
          clear hK K hg26 hS26 fx26 fy26
          try simp only [List.setIfInBounds_toArray, List.set_cons_zero, List.set_cons_succ]
          refine readyM (i := 46) (o := { dst := Option.some 47, op := Op.call { callee := Callee.value (Operand.func 5), args := #[Operand.tmp 46], argTypes := #[25] }, type := 23, pos := "law.go:69", after := #[{ on := 45, ground := Ground.data }, { on := 43, ground := Ground.chain }, { on := 40, ground := Ground.guard }], guard := Option.some (40, Bool.true) }) rfl (by kernel_rfl) ?_
          intro u27 hg27 hS27 K hK
          obtain ⟨fx27, fy27, _⟩ := F26.out u27 hg27
          go_simp
          refine (S5.out u27 y (5, 6) hS27 fy27).mono ?_
          rintro e y27 ⟨rfl, hy27⟩
          subst hy27
          have F27 : Hid (∀ wx : World, Below y27.heap.size y27 wx → True) := fun _ _ => trivial
          have HB27 : Hid (Below w.heap.size w y27) := hS27
          go_wp2_with fail
          refine hK.out _ _ hS27 ?_
          clear hK K hg27 hS27 fx27 fy27
          try simp only [List.setIfInBounds_toArray, List.set_cons_zero, List.set_cons_succ]
          refine cast_list (l' := #[true, true, true, true, true, true, true, true, true, true, true, true, true, true, true, true, true, true, true, true, true, true, true, true, true, true, true, true, true, true, true, true, true, true, true, true, true, true, true, true, true, true, true, true, true, true, true, false, false, false, false]) (by kernel_rfl) ?_
          exact cfG w HFW.out.1 HFW.out.2 hQP hQ _ _ _ _ _ _ _ _ _ _ _ _ _ _ _ _ _ _ _ _ _ _ _ _ _ _ _ _ _ _ _ _ _ _ _ _ _ _ _ _ _ _ _ _ _ _ _ _ _ HB27.out
      · intro u21 hg21 hS21 K hK
        obtain ⟨fx21, fy21, _⟩ := F8.out u21 hg21
        have kv := conv_at fy21 5 5
        go_simp
        clear kv
        obtain ⟨z1, z2, z3⟩ := freeze_at fy21 hS21 hly (k := 5)
        generalize (u21.freeze ⟨y, 5, none⟩ 1) = y21 at *
        have gx21 := (z2 x nxy).trans fx21
        have F21 : Hid (∀ wx, Below y21.heap.size y21 wx → (wx.heap[x]? = some (.cells #[.int .u8 49, .int .u8 50, .int .u8 51, .int .u8 52] 5)) ∧ (wx.heap[y]? = some (.cells #[.int .u8 53, .int .u8 54, .int .u8 55, .int .u8 56, .int .u8 57] 5 (5, 6))) ∧ (True)) := fun wx hx => ⟨((Below.block hx _ (b_lt_get gx21)).trans gx21), ((Below.block hx _ (b_lt_get z1)).trans z1), trivial⟩
        have HB21 : Hid (Below w.heap.size w y21) := z3
        refine hK.out _ _ z3 ?_
        clear hK K z1 z2 z3 hg21 hS21 fx21 fy21 gx21
        try simp only [List.setIfInBounds_toArray, List.set_cons_zero, List.set_cons_succ]
        refine readyM (i := 42) (o := { dst := Option.some 43, op := Op.convert 25 25 (Operand.tmp 42), type := 25, pos := "law.go:69", after := #[{ on := 41, ground := Ground.data }, { on := 40, ground := Ground.guard }], guard := Option.some (40, Bool.true) }) rfl (by kernel_rfl) ?_
        intro u28 hg28 hS28 K hK
        obtain ⟨fx28, fy28, _⟩ := F21.out u28 hg28
        have kv := conv_at fx28 4 4
        go_simp
        clear kv
        obtain ⟨z1, z2, z3⟩ := freeze_at fx28 hS28 hlx (k := 4)
        generalize (u28.freeze ⟨x, 4, none⟩ 1) = y28 at *
        have gy28 := (z2 y (Ne.symm nxy)).trans fy28
        have F28 : Hid (∀ wx, Below y28.heap.size y28 wx → (wx.heap[x]? = some (.cells #[.int .u8 49, .int .u8 50, .int .u8 51, .int .u8 52] 5 (4, 5))) ∧ (wx.heap[y]? = some (.cells #[.int .u8 53, .int .u8 54, .int .u8 55, .int .u8 56, .int .u8 57] 5 (5, 6))) ∧ (True)) := fun wx hx => ⟨((Below.block hx _ (b_lt_get z1)).trans z1), ((Below.block hx _ (b_lt_get gy28)).trans gy28), trivial⟩
        have HB28 : Hid (Below w.heap.size w y28) := z3
        refine hK.out _ _ z3 ?_
        clear hK K z1 z2 z3 hg28 hS28 fx28 fy28 gy28
        try simp only [List.setIfInBounds_toArray, List.set_cons_zero, List.set_cons_succ]
        refine readyM (i := 43) (o := { dst := Option.some 44, op := Op.call { callee := Callee.value (Operand.func 5), args := #[Operand.tmp 43], argTypes := #[25] }, type := 23, pos := "law.go:69", after := #[{ on := 42, ground := Ground.data }, { on := 40, ground := Ground.chain }, { on := 40, ground := Ground.guard }], guard := Option.some (40, Bool.true) }) rfl (by kernel_rfl) ?_
        intro u29 hg29 hS29 K hK
        obtain ⟨fx29, fy29, _⟩ := F28.out u29 hg29
        go_simp
        refine (S4.out u29 x (4, 5) hS29 fx29).mono ?_
        rintro e y29 ⟨rfl, hy29⟩
        subst hy29
        have F29 : Hid (∀ wx, Below y29.heap.size y29 wx → (wx.heap[x]? = some (.cells #[.int .u8 49, .int .u8 50, .int .u8 51, .int .u8 52] 5 (4, 5))) ∧ (wx.heap[y]? = some (.cells #[.int .u8 53, .int .u8 54, .int .u8 55, .int .u8 56, .int .u8 57] 5 (5, 6))) ∧ (True)) := fun wx hx => ⟨((Below.block hx _ (b_lt_get fx29)).trans fx29), ((Below.block hx _ (b_lt_get fy29)).trans fy29), trivial⟩
        have HB29 : Hid (Below w.heap.size w y29) := hS29
        go_wp2_with fail
        refine hK.out _ _ hS29 ?_
        clear hK K hg29 hS29 fx29 fy29
        try simp only [List.setIfInBounds_toArray, List.set_cons_zero, List.set_cons_succ]
        refine readyM (i := 46) (o := { dst := Option.some 47, op := Op.call { callee := Callee.value (Operand.func 5), args := #[Operand.tmp 46], argTypes := #[25] }, type := 23, pos := "law.go:69", after := #[{ on := 45, ground := Ground.data }, { on := 43, ground := Ground.chain }, { on := 40, ground := Ground.guard }], guard := Option.some (40, Bool.true) }) rfl (by kernel_rfl) ?_
        intro u30 hg30 hS30 K hK
        obtain ⟨fx30, fy30, _⟩ := F29.out u30 hg30
        go_simp
        refine (S5.out u30 y (5, 6) hS30 fy30).mono ?_
        rintro e y30 ⟨rfl, hy30⟩
        subst hy30
        have F30 : Hid (∀ wx : World, Below y30.heap.size y30 wx → True) := fun _ _ => trivial
        have HB30 : Hid (Below w.heap.size w y30) := hS30
        go_wp2_with fail
        refine hK.out _ _ hS30 ?_
        clear hK K hg30 hS30 fx30 fy30
        try simp only [List.setIfInBounds_toArray, List.set_cons_zero, List.set_cons_succ]
        refine cast_list (l' := #[true, true, true, true, true, true, true, true, true, true, true, true, true, true, true, true, true, true, true, true, true, true, true, true, true, true, true, true, true, true, true, true, true, true, true, true, true, true, true, true, true, true, true, true, true, true, true, false, false, false, false]) (by kernel_rfl) ?_
        exact cfG w HFW.out.1 HFW.out.2 hQP hQ _ _ _ _ _ _ _ _ _ _ _ _ _ _ _ _ _ _ _ _ _ _ _ _ _ _ _ _ _ _ _ _ _ _ _ _ _ _ _ _ _ _ _ _ _ _ _ _ _ HB30.out
  · intro u6 hg6 hS6 K hK
    have km := bld5b
    go_simp
    clear km
    have hnw := hn1 u6 (.cells #[.int .u8 53, .int .u8 54, .int .u8 55, .int .u8 56, .int .u8 57] 5)
    have hal : Below u6.heap.size u6 (u6.alloc (.cells #[.int .u8 53, .int .u8 54, .int .u8 55, .int .u8 56, .int .u8 57] 5)) := (Below.refl _ _).alloc (Nat.le_refl _) _
    have hbb : Below w.heap.size w (u6.alloc (.cells #[.int .u8 53, .int .u8 54, .int .u8 55, .int .u8 56, .int .u8 57] 5)) := bal hS6 _
    obtain ⟨y, hq6⟩ : ∃ b, u6.heap.size = b := ⟨_, rfl⟩
    have hly : w.heap.size ≤ y := by rw [← hq6]; exact Below.size hS6
    rw [hq6] at hnw ⊢
    generalize u6.alloc (.cells #[.int .u8 53, .int .u8 54, .int .u8 55, .int .u8 56, .int .u8 57] 5) = y6 at *
    have F6 : Hid (∀ wx, Below y6.heap.size y6 wx → (wx.heap[y]? = some (.cells #[.int .u8 53, .int .u8 54, .int .u8 55, .int .u8 56, .int .u8 57] 5)) ∧ (True)) := fun wx hx => ⟨((Below.block hx _ (b_lt_get hnw)).trans hnw), trivial⟩
    have HB6 : Hid (Below w.heap.size w y6) := hbb
    refine hK.out _ _ hbb ?_
    clear hK K hnw hal hbb hq6 hg6 hS6  
    try simp only [List.setIfInBounds_toArray, List.set_cons_zero, List.set_cons_succ]
    refine ready2M (i := 41) (j := 45) (oi := { dst := Option.some 42, op := Op.buildSlice 25 4 #[(0, Operand.const (Value.int IntKind.u8 49)), (1, Operand.const (Value.int IntKind.u8 50)), (2, Operand.const (Value.int IntKind.u8 51)), (3, Operand.const (Value.int IntKind.u8 52))], type := 25, pos := "law.go:69", after := #[{ on := 40, ground := Ground.guard }], guard := Option.some (40, Bool.true) }) (oj := { dst := Option.some 46, op := Op.convert 25 25 (Operand.tmp 45), type := 25, pos := "law.go:69", after := #[{ on := 44, ground := Ground.data }, { on := 40, ground := Ground.guard }], guard := Option.some (40, Bool.true) }) rfl rfl (by kernel_rfl) ?_ ?_
    · intro u31 hg31 hS31 K hK
      obtain ⟨fy31, _⟩ := F6.out u31 hg31
      have km := bld4
      go_simp
      clear km
      have hnw := hn1 u31 (.cells #[.int .u8 49, .int .u8 50, .int .u8 51, .int .u8 52] 5)
      have hal : Below u31.heap.size u31 (u31.alloc (.cells #[.int .u8 49, .int .u8 50, .int .u8 51, .int .u8 52] 5)) := (Below.refl _ _).alloc (Nat.le_refl _) _
      have hbb : Below w.heap.size w (u31.alloc (.cells #[.int .u8 49, .int .u8 50, .int .u8 51, .int .u8 52] 5)) := bal hS31 _
      obtain ⟨x, hq31⟩ : ∃ b, u31.heap.size = b := ⟨_, rfl⟩
      have hlx : w.heap.size ≤ x := by rw [← hq31]; exact Below.size hS31
      have nyx : y ≠ x := by have := b_lt_get fy31; omega
      rw [hq31] at hnw ⊢
      generalize u31.alloc (.cells #[.int .u8 49, .int .u8 50, .int .u8 51, .int .u8 52] 5) = y31 at *
      have gy31 := (Below.block hal _ (b_lt_get fy31)).trans fy31
      have F31 : Hid (∀ wx, Below y31.heap.size y31 wx → (wx.heap[y]? = some (.cells #[.int .u8 53, .int .u8 54, .int .u8 55, .int .u8 56, .int .u8 57] 5)) ∧ (wx.heap[x]? = some (.cells #[.int .u8 49, .int .u8 50, .int .u8 51, .int .u8 52] 5)) ∧ (True)) := fun wx hx => ⟨((Below.block hx _ (b_lt_get gy31)).trans gy31), ((Below.block hx _ (b_lt_get hnw)).trans hnw), trivial⟩
      have HB31 : Hid (Below w.heap.size w y31) := hbb
      refine hK.out _ _ hbb ?_
      clear hK K hnw hal hbb hq31 hg31 hS31 fy31 gy31
      try simp only [List.setIfInBounds_toArray, List.set_cons_zero, List.set_cons_succ]
      refine ready2M (i := 42) (j := 45) (oi := { dst := Option.some 43, op := Op.convert 25 25 (Operand.tmp 42), type := 25, pos := "law.go:69", after := #[{ on := 41, ground := Ground.data }, { on := 40, ground := Ground.guard }], guard := Option.some (40, Bool.true) }) (oj := { dst := Option.some 46, op := Op.convert 25 25 (Operand.tmp 45), type := 25, pos := "law.go:69", after := #[{ on := 44, ground := Ground.data }, { on := 40, ground := Ground.guard }], guard := Option.some (40, Bool.true) }) rfl rfl (by kernel_rfl) ?_ ?_
      · intro u33 hg33 hS33 K hK
        obtain ⟨fy33, fx33, _⟩ := F31.out u33 hg33
        have kv := conv_at fx33 4 4
        go_simp
        clear kv
        obtain ⟨z1, z2, z3⟩ := freeze_at fx33 hS33 hlx (k := 4)
        generalize (u33.freeze ⟨x, 4, none⟩ 1) = y33 at *
        have gy33 := (z2 y nyx).trans fy33
        have F33 : Hid (∀ wx, Below y33.heap.size y33 wx → (wx.heap[y]? = some (.cells #[.int .u8 53, .int .u8 54, .int .u8 55, .int .u8 56, .int .u8 57] 5)) ∧ (wx.heap[x]? = some (.cells #[.int .u8 49, .int .u8 50, .int .u8 51, .int .u8 52] 5 (4, 5))) ∧ (True)) := fun wx hx => ⟨((Below.block hx _ (b_lt_get gy33)).trans gy33), ((Below.block hx _ (b_lt_get z1)).trans z1), trivial⟩
        have HB33 : Hid (Below w.heap.size w y33) := z3
        refine hK.out _ _ z3 ?_
        clear hK K z1 z2 z3 hg33 hS33 fy33 fx33 gy33
        try simp only [List.setIfInBounds_toArray, List.set_cons_zero, List.set_cons_succ]
        refine ready2M (i := 43) (j := 45) (oi := { dst := Option.some 44, op := Op.call { callee := Callee.value (Operand.func 5), args := #[Operand.tmp 43], argTypes := #[25] }, type := 23, pos := "law.go:69", after := #[{ on := 42, ground := Ground.data }, { on := 40, ground := Ground.chain }, { on := 40, ground := Ground.guard }], guard := Option.some (40, Bool.true) }) (oj := { dst := Option.some 46, op := Op.convert 25 25 (Operand.tmp 45), type := 25, pos := "law.go:69", after := #[{ on := 44, ground := Ground.data }, { on := 40, ground := Ground.guard }], guard := Option.some (40, Bool.true) }) rfl rfl (by kernel_rfl) ?_ ?_
        · intro u35 hg35 hS35 K hK
          obtain ⟨fy35, fx35, _⟩ := F33.out u35 hg35
          go_simp
          refine (S4.out u35 x (4, 5) hS35 fx35).mono ?_
          rintro e y35 ⟨rfl, hy35⟩
          subst hy35
          have F35 : Hid (∀ wx, Below y35.heap.size y35 wx → (wx.heap[y]? = some (.cells #[.int .u8 53, .int .u8 54, .int .u8 55, .int .u8 56, .int .u8 57] 5)) ∧ (wx.heap[x]? = some (.cells #[.int .u8 49, .int .u8 50, .int .u8 51, .int .u8 52] 5 (4, 5))) ∧ (True)) := fun wx hx => ⟨((Below.block hx _ (b_lt_get fy35)).trans fy35), ((Below.block hx _ (b_lt_get fx35)).trans fx35), trivial⟩
          have HB35 : Hid (Below w.heap.size w y35) := hS35
          go_wp2_with fail
          refine hK.out _ _ hS35 ?_
          clear hK K hg35 hS35 fy35 fx35
          try simp only [List.setIfInBounds_toArray, List.set_cons_zero, List.set_cons_succ]
          refine readyM (i := 45) (o := { dst := Option.some 46, op := Op.convert 25 25 (Operand.tmp 45), type := 25, pos := "law.go:69", after := #[{ on := 44, ground := Ground.data }, { on := 40, ground := Ground.guard }], guard := Option.some (40, Bool.true) }) rfl (by kernel_rfl) ?_
          intro u37 hg37 hS37 K hK
          obtain ⟨fy37, fx37, _⟩ := F35.out u37 hg37
          have kv := conv_at fy37 5 5
          go_simp
          clear kv
          obtain ⟨z1, z2, z3⟩ := freeze_at fy37 hS37 hly (k := 5)
          generalize (u37.freeze ⟨y, 5, none⟩ 1) = y37 at *
          have gx37 := (z2 x (Ne.symm nyx)).trans fx37
          have F37 : Hid (∀ wx, Below y37.heap.size y37 wx → (wx.heap[y]? = some (.cells #[.int .u8 53, .int .u8 54, .int .u8 55, .int .u8 56, .int .u8 57] 5 (5, 6))) ∧ (wx.heap[x]? = some (.cells #[.int .u8 49, .int .u8 50, .int .u8 51, .int .u8 52] 5 (4, 5))) ∧ (True)) := fun wx hx => ⟨((Below.block hx _ (b_lt_get z1)).trans z1), ((Below.block hx _ (b_lt_get gx37)).trans gx37), trivial⟩
          have HB37 : Hid (Below w.heap.size w y37) := z3
          refine hK.out _ _ z3 ?_
          clear hK K z1 z2 z3 hg37 hS37 fy37 fx37 gx37
          try simp only [List.setIfInBounds_toArray, List.set_cons_zero, List.set_cons_succ]
          refine readyM (i := 46) (o := { dst := Option.some 47, op := Op.call { callee := Callee.value (Operand.func 5), args := #[Operand.tmp 46], argTypes := #[25] }, type := 23, pos := "law.go:69", after := #[{ on := 45, ground := Ground.data }, { on := 43, ground := Ground.chain }, { on := 40, ground := Ground.guard }], guard := Option.some (40, Bool.true) }) rfl (by kernel_rfl) ?_
          intro u38 hg38 hS38 K hK
          obtain ⟨fy38, fx38, _⟩ := F37.out u38 hg38
          go_simp
          refine (S5.out u38 y (5, 6) hS38 fy38).mono ?_
          rintro e y38 ⟨rfl, hy38⟩
          subst hy38
          have F38 : Hid (∀ wx : World, Below y38.heap.size y38 wx → True) := fun _ _ => trivial
          have HB38 : Hid (Below w.heap.size w y38) := hS38
          go_wp2_with fail
          refine hK.out _ _ hS38 ?_
          clear hK K hg38 hS38 fy38 fx38
          try simp only [List.setIfInBounds_toArray, List.set_cons_zero, List.set_cons_succ]
          refine cast_list (l' := #[true, true, true, true, true, true, true, true, true, true, true, true, true, true, true, true, true, true, true, true, true, true, true, true, true, true, true, true, true, true, true, true, true, true, true, true, true, true, true, true, true, true, true, true, true, true, true, false, false, false, false]) (by kernel_rfl) ?_
          exact cfG w HFW.out.1 HFW.out.2 hQP hQ _ _ _ _ _ _ _ _ _ _ _ _ _ _ _ _ _ _ _ _ _ _ _ _ _ _ _ _ _ _ _ _ _ _ _ _ _ _ _ _ _ _ _ _ _ _ _ _ _ HB38.out
        · intro u36 hg36 hS36 K hK
          obtain ⟨fy36, fx36, _⟩ := F33.out u36 hg36
          have kv := conv_at fy36 5 5
          go_simp
          clear kv
          obtain ⟨z1, z2, z3⟩ := freeze_at fy36 hS36 hly (k := 5)
          generalize (u36.freeze ⟨y, 5, none⟩ 1) = y36 at *
          have gx36 := (z2 x (Ne.symm nyx)).trans fx36
          have F36 : Hid (∀ wx, Below y36.heap.size y36 wx → (wx.heap[y]? = some (.cells #[.int .u8 53, .int .u8 54, .int .u8 55, .int .u8 56, .int .u8 57] 5 (5, 6))) ∧ (wx.heap[x]? = some (.cells #[.int .u8 49, .int .u8 50, .int .u8 51, .int .u8 52] 5 (4, 5))) ∧ (True)) := fun wx hx => ⟨((Below.block hx _ (b_lt_get z1)).trans z1), ((Below.block hx _ (b_lt_get gx36)).trans gx36), trivial⟩
          have HB36 : Hid (Below w.heap.size w y36) := z3
          refine hK.out _ _ z3 ?_
          clear hK K z1 z2 z3 hg36 hS36 fy36 fx36 gx36
          try simp only [List.setIfInBounds_toArray, List.set_cons_zero, List.set_cons_succ]
          refine readyM (i := 43) (o := { dst := Option.some 44, op := Op.call { callee := Callee.value (Operand.func 5), args := #[Operand.tmp 43], argTypes := #[25] }, type := 23, pos := "law.go:69", after := #[{ on := 42, ground := Ground.data }, { on := 40, ground := Ground.chain }, { on := 40, ground := Ground.guard }], guard := Option.some (40, Bool.true) }) rfl (by kernel_rfl) ?_
          intro u39 hg39 hS39 K hK
          obtain ⟨fy39, fx39, _⟩ := F36.out u39 hg39
          go_simp
          refine (S4.out u39 x (4, 5) hS39 fx39).mono ?_
          rintro e y39 ⟨rfl, hy39⟩
          subst hy39
          have F39 : Hid (∀ wx, Below y39.heap.size y39 wx → (wx.heap[y]? = some (.cells #[.int .u8 53, .int .u8 54, .int .u8 55, .int .u8 56, .int .u8 57] 5 (5, 6))) ∧ (wx.heap[x]? = some (.cells #[.int .u8 49, .int .u8 50, .int .u8 51, .int .u8 52] 5 (4, 5))) ∧ (True)) := fun wx hx => ⟨((Below.block hx _ (b_lt_get fy39)).trans fy39), ((Below.block hx _ (b_lt_get fx39)).trans fx39), trivial⟩
          have HB39 : Hid (Below w.heap.size w y39) := hS39
          go_wp2_with fail
          refine hK.out _ _ hS39 ?_
          clear hK K hg39 hS39 fy39 fx39
          try simp only [List.setIfInBounds_toArray, List.set_cons_zero, List.set_cons_succ]
          refine readyM (i := 46) (o := { dst := Option.some 47, op := Op.call { callee := Callee.value (Operand.func 5), args := #[Operand.tmp 46], argTypes := #[25] }, type := 23, pos := "law.go:69", after := #[{ on := 45, ground := Ground.data }, { on := 43, ground := Ground.chain }, { on := 40, ground := Ground.guard }], guard := Option.some (40, Bool.true) }) rfl (by kernel_rfl) ?_
          intro u40 hg40 hS40 K hK
          obtain ⟨fy40, fx40, _⟩ := F39.out u40 hg40
          go_simp
          refine (S5.out u40 y (5, 6) hS40 fy40).mono ?_
          rintro e y40 ⟨rfl, hy40⟩
          subst hy40
          have F40 : Hid (∀ wx : World, Below y40.heap.size y40 wx → True) := fun _ _ => trivial
          have HB40 : Hid (Below w.heap.size w y40) := hS40
          go_wp2_with fail
          refine hK.out _ _ hS40 ?_
          clear hK K hg40 hS40 fy40 fx40
          try simp only [List.setIfInBounds_toArray, List.set_cons_zero, List.set_cons_succ]
          refine cast_list (l' := #[true, true, true, true, true, true, true, true, true, true, true, true, true, true, true, true, true, true, true, true, true, true, true, true, true, true, true, true, true, true, true, true, true, true, true, true, true, true, true, true, true, true, true, true, true, true, true, false, false, false, false]) (by kernel_rfl) ?_
          exact cfG w HFW.out.1 HFW.out.2 hQP hQ _ _ _ _ _ _ _ _ _ _ _ _ _ _ _ _ _ _ _ _ _ _ _ _ _ _ _ _ _ _ _ _ _ _ _ _ _ _ _ _ _ _ _ _ _ _ _ _ _ HB40.out
      · intro u34 hg34 hS34 K hK
        obtain ⟨fy34, fx34, _⟩ := F31.out u34 hg34
        have kv := conv_at fy34 5 5
        go_simp
        clear kv
        obtain ⟨z1, z2, z3⟩ := freeze_at fy34 hS34 hly (k := 5)
        generalize (u34.freeze ⟨y, 5, none⟩ 1) = y34 at *
        have gx34 := (z2 x (Ne.symm nyx)).trans fx34
        have F34 : Hid (∀ wx, Below y34.heap.size y34 wx → (wx.heap[y]? = some (.cells #[.int .u8 53, .int .u8 54, .int .u8 55, .int .u8 56, .int .u8 57] 5 (5, 6))) ∧ (wx.heap[x]? = some (.cells #[.int .u8 49, .int .u8 50, .int .u8 51, .int .u8 52] 5)) ∧ (True)) := fun wx hx => ⟨((Below.block hx _ (b_lt_get z1)).trans z1), ((Below.block hx _ (b_lt_get gx34)).trans gx34), trivial⟩
        have HB34 : Hid (Below w.heap.size w y34) := z3
        refine hK.out _ _ z3 ?_
        clear hK K z1 z2 z3 hg34 hS34 fy34 fx34 gx34
        try simp only [List.setIfInBounds_toArray, List.set_cons_zero, List.set_cons_succ]
        refine readyM (i := 42) (o := { dst := Option.some 43, op := Op.convert 25 25 (Operand.tmp 42), type := 25, pos := "law.go:69", after := #[{ on := 41, ground := Ground.data }, { on := 40, ground := Ground.guard }], guard := Option.some (40, Bool.true) }) rfl (by kernel_rfl) ?_
        intro u41 hg41 hS41 K hK
        obtain ⟨fy41, fx41, _⟩ := F34.out u41 hg41
        have kv := conv_at fx41 4 4
        go_simp
        clear kv
        obtain ⟨z1, z2, z3⟩ := freeze_at fx41 hS41 hlx (k := 4)
        generalize (u41.freeze ⟨x, 4, none⟩ 1) = y41 at *
        have gy41 := (z2 y nyx).trans fy41
        have F41 : Hid (∀ wx, Below y41.heap.size y41 wx → (wx.heap[y]? = some (.cells #[.int .u8 53, .int .u8 54, .int .u8 55, .int .u8 56, .int .u8 57] 5 (5, 6))) ∧ (wx.heap[x]? = some (.cells #[.int .u8 49, .int .u8 50, .int .u8 51, .int .u8 52] 5 (4, 5))) ∧ (True)) := fun wx hx => ⟨((Below.block hx _ (b_lt_get gy41)).trans gy41), ((Below.block hx _ (b_lt_get z1)).trans z1), trivial⟩
        have HB41 : Hid (Below w.heap.size w y41) := z3
        refine hK.out _ _ z3 ?_
        clear hK K z1 z2 z3 hg41 hS41 fy41 fx41 gy41
        try simp only [List.setIfInBounds_toArray, List.set_cons_zero, List.set_cons_succ]
        refine readyM (i := 43) (o := { dst := Option.some 44, op := Op.call { callee := Callee.value (Operand.func 5), args := #[Operand.tmp 43], argTypes := #[25] }, type := 23, pos := "law.go:69", after := #[{ on := 42, ground := Ground.data }, { on := 40, ground := Ground.chain }, { on := 40, ground := Ground.guard }], guard := Option.some (40, Bool.true) }) rfl (by kernel_rfl) ?_
        intro u42 hg42 hS42 K hK
        obtain ⟨fy42, fx42, _⟩ := F41.out u42 hg42
        go_simp
        refine (S4.out u42 x (4, 5) hS42 fx42).mono ?_
        rintro e y42 ⟨rfl, hy42⟩
        subst hy42
        have F42 : Hid (∀ wx, Below y42.heap.size y42 wx → (wx.heap[y]? = some (.cells #[.int .u8 53, .int .u8 54, .int .u8 55, .int .u8 56, .int .u8 57] 5 (5, 6))) ∧ (wx.heap[x]? = some (.cells #[.int .u8 49, .int .u8 50, .int .u8 51, .int .u8 52] 5 (4, 5))) ∧ (True)) := fun wx hx => ⟨((Below.block hx _ (b_lt_get fy42)).trans fy42), ((Below.block hx _ (b_lt_get fx42)).trans fx42), trivial⟩
        have HB42 : Hid (Below w.heap.size w y42) := hS42
        go_wp2_with fail
        refine hK.out _ _ hS42 ?_
        clear hK K hg42 hS42 fy42 fx42
        try simp only [List.setIfInBounds_toArray, List.set_cons_zero, List.set_cons_succ]
        refine readyM (i := 46) (o := { dst := Option.some 47, op := Op.call { callee := Callee.value (Operand.func 5), args := #[Operand.tmp 46], argTypes := #[25] }, type := 23, pos := "law.go:69", after := #[{ on := 45, ground := Ground.data }, { on := 43, ground := Ground.chain }, { on := 40, ground := Ground.guard }], guard := Option.some (40, Bool.true) }) rfl (by kernel_rfl) ?_
        intro u43 hg43 hS43 K hK
        obtain ⟨fy43, fx43, _⟩ := F42.out u43 hg43
        go_simp
        refine (S5.out u43 y (5, 6) hS43 fy43).mono ?_
        rintro e y43 ⟨rfl, hy43⟩
        subst hy43
        have F43 : Hid (∀ wx : World, Below y43.heap.size y43 wx → True) := fun _ _ => trivial
        have HB43 : Hid (Below w.heap.size w y43) := hS43
        go_wp2_with fail
        refine hK.out _ _ hS43 ?_
        clear hK K hg43 hS43 fy43 fx43
        try simp only [List.setIfInBounds_toArray, List.set_cons_zero, List.set_cons_succ]
        refine cast_list (l' := #[true, true, true, true, true, true, true, true, true, true, true, true, true, true, true, true, true, true, true, true, true, true, true, true, true, true, true, true, true, true, true, true, true, true, true, true, true, true, true, true, true, true, true, true, true, true, true, false, false, false, false]) (by kernel_rfl) ?_
        exact cfG w HFW.out.1 HFW.out.2 hQP hQ _ _ _ _ _ _ _ _ _ _ _ _ _ _ _ _ _ _ _ _ _ _ _ _ _ _ _ _ _ _ _ _ _ _ _ _ _ _ _ _ _ _ _ _ _ _ _ _ _ HB43.out
    · intro u32 hg32 hS32 K hK
      obtain ⟨fy32, _⟩ := F6.out u32 hg32
      have kv := conv_at fy32 5 5
      go_simp
      clear kv
      obtain ⟨z1, z2, z3⟩ := freeze_at fy32 hS32 hly (k := 5)
      generalize (u32.freeze ⟨y, 5, none⟩ 1) = y32 at *
      have F32 : Hid (∀ wx, Below y32.heap.size y32 wx → (wx.heap[y]? = some (.cells #[.int .u8 53, .int .u8 54, .int .u8 55, .int .u8 56, .int .u8 57] 5 (5, 6))) ∧ (True)) := fun wx hx => ⟨((Below.block hx _ (b_lt_get z1)).trans z1), trivial⟩
      have HB32 : Hid (Below w.heap.size w y32) := z3
      refine hK.out _ _ z3 ?_
      clear hK K z1 z2 z3 hg32 hS32 fy32 
      try simp only [List.setIfInBounds_toArray, List.set_cons_zero, List.set_cons_succ]
      refine readyM (i := 41) (o := { dst := Option.some 42, op := Op.buildSlice 25 4 #[(0, Operand.const (Value.int IntKind.u8 49)), (1, Operand.const (Value.int IntKind.u8 50)), (2, Operand.const (Value.int IntKind.u8 51)), (3, Operand.const (Value.int IntKind.u8 52))], type := 25, pos := "law.go:69", after := #[{ on := 40, ground := Ground.guard }], guard := Option.some (40, Bool.true) }) rfl (by kernel_rfl) ?_
      intro u44 hg44 hS44 K hK
      obtain ⟨fy44, _⟩ := F32.out u44 hg44
      have km := bld4
      go_simp
      clear km
      have hnw := hn1 u44 (.cells #[.int .u8 49, .int .u8 50, .int .u8 51, .int .u8 52] 5)
      have hal : Below u44.heap.size u44 (u44.alloc (.cells #[.int .u8 49, .int .u8 50, .int .u8 51, .int .u8 52] 5)) := (Below.refl _ _).alloc (Nat.le_refl _) _
      have hbb : Below w.heap.size w (u44.alloc (.cells #[.int .u8 49, .int .u8 50, .int .u8 51, .int .u8 52] 5)) := bal hS44 _
      obtain ⟨x, hq44⟩ : ∃ b, u44.heap.size = b := ⟨_, rfl⟩
      have hlx : w.heap.size ≤ x := by rw [← hq44]; exact Below.size hS44
      have nyx : y ≠ x := by have := b_lt_get fy44; omega
      rw [hq44] at hnw ⊢
      generalize u44.alloc (.cells #[.int .u8 49, .int .u8 50, .int .u8 51, .int .u8 52] 5) = y44 at *
      have gy44 := (Below.block hal _ (b_lt_get fy44)).trans fy44
      have F44 : Hid (∀ wx, Below y44.heap.size y44 wx → (wx.heap[y]? = some (.cells #[.int .u8 53, .int .u8 54, .int .u8 55, .int .u8 56, .int .u8 57] 5 (5, 6))) ∧ (wx.heap[x]? = some (.cells #[.int .u8 49, .int .u8 50, .int .u8 51, .int .u8 52] 5)) ∧ (True)) := fun wx hx => ⟨((Below.block hx _ (b_lt_get gy44)).trans gy44), ((Below.block hx _ (b_lt_get hnw)).trans hnw), trivial⟩
      have HB44 : Hid (Below w.heap.size w y44) := hbb
      refine hK.out _ _ hbb ?_
      clear hK K hnw hal hbb hq44 hg44 hS44 fy44 gy44
      try simp only [List.setIfInBounds_toArray, List.set_cons_zero, List.set_cons_succ]
      refine readyM (i := 42) (o := { dst := Option.some 43, op := Op.convert 25 25 (Operand.tmp 42), type := 25, pos := "law.go:69", after := #[{ on := 41, ground := Ground.data }, { on := 40, ground := Ground.guard }], guard := Option.some (40, Bool.true) }) rfl (by kernel_rfl) ?_
      intro u45 hg45 hS45 K hK
      obtain ⟨fy45, fx45, _⟩ := F44.out u45 hg45
      have kv := conv_at fx45 4 4
      go_simp
      clear kv
      obtain ⟨z1, z2, z3⟩ := freeze_at fx45 hS45 hlx (k := 4)
      generalize (u45.freeze ⟨x, 4, none⟩ 1) = y45 at *
      have gy45 := (z2 y nyx).trans fy45
      have F45 : Hid (∀ wx, Below y45.heap.size y45 wx → (wx.heap[y]? = some (.cells #[.int .u8 53, .int .u8 54, .int .u8 55, .int .u8 56, .int .u8 57] 5 (5, 6))) ∧ (wx.heap[x]? = some (.cells #[.int .u8 49, .int .u8 50, .int .u8 51, .int .u8 52] 5 (4, 5))) ∧ (True)) := fun wx hx => ⟨((Below.block hx _ (b_lt_get gy45)).trans gy45), ((Below.block hx _ (b_lt_get z1)).trans z1), trivial⟩
      have HB45 : Hid (Below w.heap.size w y45) := z3
      refine hK.out _ _ z3 ?_
      clear hK K z1 z2 z3 hg45 hS45 fy45 fx45 gy45
      try simp only [List.setIfInBounds_toArray, List.set_cons_zero, List.set_cons_succ]
      refine readyM (i := 43) (o := { dst := Option.some 44, op := Op.call { callee := Callee.value (Operand.func 5), args := #[Operand.tmp 43], argTypes := #[25] }, type := 23, pos := "law.go:69", after := #[{ on := 42, ground := Ground.data }, { on := 40, ground := Ground.chain }, { on := 40, ground := Ground.guard }], guard := Option.some (40, Bool.true) }) rfl (by kernel_rfl) ?_
      intro u46 hg46 hS46 K hK
      obtain ⟨fy46, fx46, _⟩ := F45.out u46 hg46
      go_simp
      refine (S4.out u46 x (4, 5) hS46 fx46).mono ?_
      rintro e y46 ⟨rfl, hy46⟩
      subst hy46
      have F46 : Hid (∀ wx, Below y46.heap.size y46 wx → (wx.heap[y]? = some (.cells #[.int .u8 53, .int .u8 54, .int .u8 55, .int .u8 56, .int .u8 57] 5 (5, 6))) ∧ (wx.heap[x]? = some (.cells #[.int .u8 49, .int .u8 50, .int .u8 51, .int .u8 52] 5 (4, 5))) ∧ (True)) := fun wx hx => ⟨((Below.block hx _ (b_lt_get fy46)).trans fy46), ((Below.block hx _ (b_lt_get fx46)).trans fx46), trivial⟩
      have HB46 : Hid (Below w.heap.size w y46) := hS46
      go_wp2_with fail
      refine hK.out _ _ hS46 ?_
      clear hK K hg46 hS46 fy46 fx46
      try simp only [List.setIfInBounds_toArray, List.set_cons_zero, List.set_cons_succ]
      refine readyM (i := 46) (o := { dst := Option.some 47, op := Op.call { callee := Callee.value (Operand.func 5), args := #[Operand.tmp 46], argTypes := #[25] }, type := 23, pos := "law.go:69", after := #[{ on := 45, ground := Ground.data }, { on := 43, ground := Ground.chain }, { on := 40, ground := Ground.guard }], guard := Option.some (40, Bool.true) }) rfl (by kernel_rfl) ?_
      intro u47 hg47 hS47 K hK
      obtain ⟨fy47, fx47, _⟩ := F46.out u47 hg47
      go_simp
      refine (S5.out u47 y (5, 6) hS47 fy47).mono ?_
      rintro e y47 ⟨rfl, hy47⟩
      subst hy47
      have F47 : Hid (∀ wx : World, Below y47.heap.size y47 wx → True) := fun _ _ => trivial
      have HB47 : Hid (Below w.heap.size w y47) := hS47
      go_wp2_with fail
      refine hK.out _ _ hS47 ?_
      clear hK K hg47 hS47 fy47 fx47
      try simp only [List.setIfInBounds_toArray, List.set_cons_zero, List.set_cons_succ]
      refine cast_list (l' := #[true, true, true, true, true, true, true, true, true, true, true, true, true, true, true, true, true, true, true, true, true, true, true, true, true, true, true, true, true, true, true, true, true, true, true, true, true, true, true, true, true, true, true, true, true, true, true, false, false, false, false]) (by kernel_rfl) ?_
      exact cfG w HFW.out.1 HFW.out.2 hQP hQ _ _ _ _ _ _ _ _ _ _ _ _ _ _ _ _ _ _ _ _ _ _ _ _ _ _ _ _ _ _ _ _ _ _ _ _ _ _ _ _ _ _ _ _ _ _ _ _ _ HB47.out

set_option maxRecDepth 100000 in
set_option maxHeartbeats 8000000 in
theorem cfE (w : World) (hf : HasFours w) (hg : 0 < w.heap.size) {Q : Exit → Act → World → Prop} (hQP : ∀ c (a : Act) d v w, Q (.panic c) (a.put d v) w → Q (.panic c) a w) (hQ : ∀ (b1 b2 b3 b4 b5 b6 b7 b8 b9 b10 b11 b12 b13 b14 b15 b16 b17 b18 b19 b20 b21 b22 b23 b24 b25 b26 b27 b28 b29 b30 b31 b32 b33 b34 b35 b36 b37 b38 b39 b40 b41 b42 b43 b44 b45 b46 b47 b48 b49 b50 : Value) (wx : World), Below w.heap.size w wx → Q .normal { tmps := #[(.bool true), b1, b2, b3, b4, b5, b6, b7, b8, b9, b10, b11, b12, b13, b14, b15, b16, b17, b18, b19, b20, b21, b22, b23, b24, b25, b26, b27, b28, b29, b30, b31, b32, b33, b34, b35, b36, b37, b38, b39, b40, b41, b42, b43, b44, b45, b46, b47, b48, b49, b50], defers := [] } wx) (b0 b1 b2 b3 b4 b5 b6 b7 b8 b9 b10 b11 b12 b13 b14 b15 b16 b17 b18 b19 b20 b21 b22 b23 b24 b25 b26 b27 b28 b29 b30 b31 b33 b34 b35 b36 b37 b38 b39 b40 b41 b42 b43 b44 b45 b46 b47 b48 b49 b50 : Value) (v : World) (hv : Below w.heap.size w v) : wpAnyM Tryd.prog .any cfOps Q (fun w' => Below w.heap.size w w') 19 #[true, true, true, true, true, true, true, true, true, true, true, true, true, true, true, true, true, true, true, true, true, true, true, true, true, true, true, true, true, true, true, true, false, false, false, false, false, false, false, false, false, false, false, false, false, false, false, false, false, false, false] { tmps := #[b0, b1, b2, b3, b4, b5, b6, b7, b8, b9, b10, b11, b12, b13, b14, b15, b16, b17, b18, b19, b20, b21, b22, b23, b24, b25, b26, b27, b28, b29, b30, b31, (.bool true), b33, b34, b35, b36, b37, b38, b39, b40, b41, b42, b43, b44, b45, b46, b47, b48, b49, b50], defers := [] } v := by
  have HF : Hid (∀ wx, Below w.heap.size w wx → HasFours wx ∧ 0 < wx.heap.size) := fun wx hx => ⟨fours_keep hf hg hx, Nat.lt_of_lt_of_le hg hx.size⟩
  have J0 : Hid (∀ wx, Calls Tryd.prog 9 #[.int .u32 5, .int .u32 3, .int .i64 0] wx fun e w' => e = .returned (.int .u32 6) ∧ w' = wx) := fun wx => by
    have g := cJoin_calls 5 3 (by decide) (by decide) 0 (by decide) wx
    rw [show joinN 5 3 0 = 6 by kernel_rfl] at g
    exact g
  have J7 : Hid (∀ wx, Calls Tryd.prog 9 #[.int .u32 5, .int .u32 3, .int .i64 (-7)] wx fun e w' => e = .returned (.int .u32 6) ∧ w' = wx) := fun wx => by
    have g := cJoin_neg 5 3 (by decide) (by decide) (-7) (by decide) wx
    rw [show (5 ^^^ 3 : Nat) = 6 by kernel_rfl] at g
    exact g
  clear hf
  have HBv : Hid (Below w.heap.size w v) := hv
  have F0 : Hid (∀ wx : World, Below v.heap.size v wx → True) := fun _ _ => trivial
  have HFW : Hid (HasFours w ∧ 0 < w.heap.size) := HF.out w (Below.refl _ _)
  refine wpAnyM_take (i := 32) (oi := { dst := Option.some 33, op := Op.move (Operand.tmp 32), type := 4, pos := "law.go:69", after := #[{ on := 31, ground := Ground.data }, { on := 30, ground := Ground.chain }], guard := Option.none }) (v := ?vk48z32) rfl (by kernel_rfl) (by kernel_rfl) (by kernel_rfl) (fun c a w h => hQP c a _ _ w h) (YieldsM.of_if (Or.inl ⟨by rfl, ?hk48z32⟩)) ?rk48z32
  case hk48z32 => ((intro wz hSw; (try dsimp only at hSw); go_simp); try (with_reducible rfl))
  try simp only [Act.put, List.setIfInBounds_toArray, List.set_cons_zero, List.set_cons_succ]
  refine readyM (i := 33) (o := { dst := Option.some 34, op := Op.call { callee := Callee.value (Operand.func 9), args := #[Operand.const (Value.int IntKind.u32 5), Operand.const (Value.int IntKind.u32 3), Operand.const (Value.int IntKind.i64 0)], argTypes := #[23, 23, 3] }, type := 23, pos := "law.go:69", after := #[{ on := 32, ground := Ground.chain }, { on := 32, ground := Ground.guard }], guard := Option.some (32, Bool.true) }) rfl (by kernel_rfl) ?_
  intro u49 hg49 hS49 K hK
  go_simp
  refine (J0.out u49).mono ?_
  rintro e y49 ⟨rfl, hy49⟩
  subst hy49
  have F49 : Hid (∀ wx : World, Below y49.heap.size y49 wx → True) := fun _ _ => trivial
  have HB49 : Hid (Below w.heap.size w y49) := hS49
  go_wp2_with fail
  refine hK.out _ _ hS49 ?_
  clear hK K hg49 hS49 
  try simp only [List.setIfInBounds_toArray, List.set_cons_zero, List.set_cons_succ]
  refine wpAnyM_take (i := 34) (oi := { dst := Option.some 35, op := Op.binOp BinOp.eql 23 (Operand.tmp 34) (Operand.const (Value.int IntKind.u32 6)) 23, type := 4, pos := "law.go:69", after := #[{ on := 33, ground := Ground.data }, { on := 32, ground := Ground.guard }], guard := Option.some (32, Bool.true) }) (v := ?vk50z34) rfl (by kernel_rfl) (by kernel_rfl) (by kernel_rfl) (fun c a w h => hQP c a _ _ w h) (YieldsM.of_if (Or.inl ⟨by rfl, ?hk50z34⟩)) ?rk50z34
  case hk50z34 => ((intro wz hSw; (try dsimp only at hSw); go_simp); try (with_reducible rfl))
  try simp only [Act.put, List.setIfInBounds_toArray, List.set_cons_zero, List.set_cons_succ]
  refine wpAnyM_take (i := 35) (oi := { dst := Option.some 36, op := Op.pick (Operand.tmp 33) (Operand.tmp 35) (Operand.const (Value.bool Bool.false)), type := 4, pos := "law.go:69", after := #[{ on := 32, ground := Ground.data }, { on := 34, ground := Ground.data }], guard := Option.none }) (v := ?vk51z35) rfl (by kernel_rfl) (by kernel_rfl) (by kernel_rfl) (fun c a w h => hQP c a _ _ w h) (YieldsM.of_if (Or.inl ⟨by rfl, ?hk51z35⟩)) ?rk51z35
  case hk51z35 => ((intro wz hSw; (try dsimp only at hSw); go_simp); try (with_reducible rfl))
  try simp only [Act.put, List.setIfInBounds_toArray, List.set_cons_zero, List.set_cons_succ]
  refine wpAnyM_take (i := 36) (oi := { dst := Option.some 37, op := Op.move (Operand.tmp 36), type := 4, pos := "law.go:69", after := #[{ on := 35, ground := Ground.data }, { on := 33, ground := Ground.chain }], guard := Option.none }) (v := ?vk52z36) rfl (by kernel_rfl) (by kernel_rfl) (by kernel_rfl) (fun c a w h => hQP c a _ _ w h) (YieldsM.of_if (Or.inl ⟨by rfl, ?hk52z36⟩)) ?rk52z36
  case hk52z36 => ((intro wz hSw; (try dsimp only at hSw); go_simp); try (with_reducible rfl))
  try simp only [Act.put, List.setIfInBounds_toArray, List.set_cons_zero, List.set_cons_succ]
  refine readyM (i := 37) (o := { dst := Option.some 38, op := Op.call { callee := Callee.value (Operand.func 9), args := #[Operand.const (Value.int IntKind.u32 5), Operand.const (Value.int IntKind.u32 3), Operand.const (Value.int IntKind.i64 (-7))], argTypes := #[23, 23, 3] }, type := 23, pos := "law.go:69", after := #[{ on := 36, ground := Ground.chain }, { on := 36, ground := Ground.guard }], guard := Option.some (36, Bool.true) }) rfl (by kernel_rfl) ?_
  intro u53 hg53 hS53 K hK
  go_simp
  refine (J7.out u53).mono ?_
  rintro e y53 ⟨rfl, hy53⟩
  subst hy53
  have F53 : Hid (∀ wx : World, Below y53.heap.size y53 wx → True) := fun _ _ => trivial
  have HB53 : Hid (Below w.heap.size w y53) := hS53
  go_wp2_with fail
  refine hK.out _ _ hS53 ?_
  clear hK K hg53 hS53 
  try simp only [List.setIfInBounds_toArray, List.set_cons_zero, List.set_cons_succ]
  refine wpAnyM_take (i := 38) (oi := { dst := Option.some 39, op := Op.binOp BinOp.eql 23 (Operand.tmp 38) (Operand.const (Value.int IntKind.u32 6)) 23, type := 4, pos := "law.go:69", after := #[{ on := 37, ground := Ground.data }, { on := 36, ground := Ground.guard }], guard := Option.some (36, Bool.true) }) (v := ?vk54z38) rfl (by kernel_rfl) (by kernel_rfl) (by kernel_rfl) (fun c a w h => hQP c a _ _ w h) (YieldsM.of_if (Or.inl ⟨by rfl, ?hk54z38⟩)) ?rk54z38
  case hk54z38 => ((intro wz hSw; (try dsimp only at hSw); go_simp); try (with_reducible rfl))
  try simp only [Act.put, List.setIfInBounds_toArray, List.set_cons_zero, List.set_cons_succ]
  refine wpAnyM_take (i := 39) (oi := { dst := Option.some 40, op := Op.pick (Operand.tmp 37) (Operand.tmp 39) (Operand.const (Value.bool Bool.false)), type := 4, pos := "law.go:69", after := #[{ on := 36, ground := Ground.data }, { on := 38, ground := Ground.data }], guard := Option.none }) (v := ?vk55z39) rfl (by kernel_rfl) (by kernel_rfl) (by kernel_rfl) (fun c a w h => hQP c a _ _ w h) (YieldsM.of_if (Or.inl ⟨by rfl, ?hk55z39⟩)) ?rk55z39
  case hk55z39 => ((intro wz hSw; (try dsimp only at hSw); go_simp); try (with_reducible rfl))
  try simp only [Act.put, List.setIfInBounds_toArray, List.set_cons_zero, List.set_cons_succ]
  refine wpAnyM_take (i := 40) (oi := { dst := Option.some 41, op := Op.move (Operand.tmp 40), type := 4, pos := "law.go:69", after := #[{ on := 39, ground := Ground.data }, { on := 37, ground := Ground.chain }], guard := Option.none }) (v := ?vk56z40) rfl (by kernel_rfl) (by kernel_rfl) (by kernel_rfl) (fun c a w h => hQP c a _ _ w h) (YieldsM.of_if (Or.inl ⟨by rfl, ?hk56z40⟩)) ?rk56z40
  case hk56z40 => ((intro wz hSw; (try dsimp only at hSw); go_simp); try (with_reducible rfl))
  try simp only [Act.put, List.setIfInBounds_toArray, List.set_cons_zero, List.set_cons_succ]
  refine cast_list (l' := #[true, true, true, true, true, true, true, true, true, true, true, true, true, true, true, true, true, true, true, true, true, true, true, true, true, true, true, true, true, true, true, true, true, true, true, true, true, true, true, true, true, false, false, false, false, false, false, false, false, false, false]) (by kernel_rfl) ?_
  exact cfF w HFW.out.1 HFW.out.2 hQP hQ _ _ _ _ _ _ _ _ _ _ _ _ _ _ _ _ _ _ _ _ _ _ _ _ _ _ _ _ _ _ _ _ _ _ _ _ _ _ _ _ _ _ _ _ _ _ _ _ _ _ _ HB53.out

set_option maxRecDepth 100000 in
set_option maxHeartbeats 8000000 in
theorem cfD (w : World) (hf : HasFours w) (hg : 0 < w.heap.size) {Q : Exit → Act → World → Prop} (hQP : ∀ c (a : Act) d v w, Q (.panic c) (a.put d v) w → Q (.panic c) a w) (hQ : ∀ (b1 b2 b3 b4 b5 b6 b7 b8 b9 b10 b11 b12 b13 b14 b15 b16 b17 b18 b19 b20 b21 b22 b23 b24 b25 b26 b27 b28 b29 b30 b31 b32 b33 b34 b35 b36 b37 b38 b39 b40 b41 b42 b43 b44 b45 b46 b47 b48 b49 b50 : Value) (wx : World), Below w.heap.size w wx → Q .normal { tmps := #[(.bool true), b1, b2, b3, b4, b5, b6, b7, b8, b9, b10, b11, b12, b13, b14, b15, b16, b17, b18, b19, b20, b21, b22, b23, b24, b25, b26, b27, b28, b29, b30, b31, b32, b33, b34, b35, b36, b37, b38, b39, b40, b41, b42, b43, b44, b45, b46, b47, b48, b49, b50], defers := [] } wx) (b0 b1 b2 b3 b4 b5 b6 b7 b8 b9 b10 b11 b12 b13 b14 b15 b16 b17 b18 b19 b20 b21 b22 b23 b24 b25 b27 b28 b29 b30 b31 b32 b33 b34 b35 b36 b37 b38 b39 b40 b41 b42 b43 b44 b45 b46 b47 b48 b49 b50 : Value) (v : World) (hv : Below w.heap.size w v) : wpAnyM Tryd.prog .any cfOps Q (fun w' => Below w.heap.size w w') 25 #[true, true, true, true, true, true, true, true, true, true, true, true, true, true, true, true, true, true, true, true, true, true, true, true, true, true, false, false, false, false, false, false, false, false, false, false, false, false, false, false, false, false, false, false, false, false, false, false, false, false, false] { tmps := #[b0, b1, b2, b3, b4, b5, b6, b7, b8, b9, b10, b11, b12, b13, b14, b15, b16, b17, b18, b19, b20, b21, b22, b23, b24, b25, (.bool true), b27, b28, b29, b30, b31, b32, b33, b34, b35, b36, b37, b38, b39, b40, b41, b42, b43, b44, b45, b46, b47, b48, b49, b50], defers := [] } v := by
  have HF : Hid (∀ wx, Below w.heap.size w wx → HasFours wx ∧ 0 < wx.heap.size) := fun wx hx => ⟨fours_keep hf hg hx, Nat.lt_of_lt_of_le hg hx.size⟩
  have EA : Hid (∀ wx b fr, Below w.heap.size w wx → wx.heap[b]? = some (.cells #[.int .u8 97] 5 fr) → Calls Tryd.prog 7 #[.slice (some ⟨b, 0, none⟩) 1 1] wx fun e w' => ∃ mo mc, e = .returned (.slice mo 5 mc) ∧ HasB w' (.slice mo 5 mc) [97, 67, 190, 183, 232] ∧ Below w.heap.size w w' ∧ Below wx.heap.size wx w') := fun wx b fr hx hc => (cSeal_fits (some ⟨b, 0, none⟩) 1 1 [97] rfl wx (HF.out wx hx).1 (HF.out wx hx).2 (hasB_at rfl (fr := fr) hc) (bts_of rfl) (by decide) (fun e => by cases e)).mono (by
    rintro e w' ⟨mo, mc, S, rfl, hS, _, hB, _, _, _, hb⟩
    rw [seal_a] at hS
    subst hS
    exact ⟨mo, mc, rfl, hB, hx.trans (hb.mono hx.size), hb⟩)
  have SM5 : Hid (∀ wx mo mc b fr, HasB wx (.slice mo 5 mc) [97, 67, 190, 183, 232] → wx.heap[b]? = some (.cells #[.int .u8 97, .int .u8 67, .int .u8 190, .int .u8 183, .int .u8 232] 5 fr) → Calls Tryd.prog 6 #[.slice mo 5 mc, .slice (some ⟨b, 0, none⟩) 5 5] wx fun e w' => e = .returned (.bool true) ∧ w' = wx) := fun wx mo mc b fr hB hc => kSame_calls mo (some ⟨b, 0, none⟩) mc 5 [97, 67, 190, 183, 232] wx hB (hasB_at rfl (fr := fr) hc)
  clear hf
  have HBv : Hid (Below w.heap.size w v) := hv
  have F0 : Hid (∀ wx : World, Below v.heap.size v wx → True) := fun _ _ => trivial
  have HFW : Hid (HasFours w ∧ 0 < w.heap.size) := HF.out w (Below.refl _ _)
  refine ready2M (i := 26) (j := 29) (oi := { dst := Option.some 27, op := Op.buildSlice 25 1 #[(0, Operand.const (Value.int IntKind.u8 97))], type := 25, pos := "law.go:69", after := #[{ on := 25, ground := Ground.guard }], guard := Option.some (25, Bool.true) }) (oj := { dst := Option.some 30, op := Op.buildSlice 25 5 #[(0, Operand.const (Value.int IntKind.u8 97)), (1, Operand.const (Value.int IntKind.u8 67)), (2, Operand.const (Value.int IntKind.u8 190)), (3, Operand.const (Value.int IntKind.u8 183)), (4, Operand.const (Value.int IntKind.u8 232))], type := 25, pos := "law.go:69", after := #[{ on := 25, ground := Ground.guard }], guard := Option.some (25, Bool.true) }) rfl rfl (by kernel_rfl) ?_ ?_
  · intro u57 hg57 hS57 K hK
    have km := bld1
    go_simp
    clear km
    have hnw := hn1 u57 (.cells #[.int .u8 97] 5)
    have hal : Below u57.heap.size u57 (u57.alloc (.cells #[.int .u8 97] 5)) := (Below.refl _ _).alloc (Nat.le_refl _) _
    have hbb : Below w.heap.size w (u57.alloc (.cells #[.int .u8 97] 5)) := bal hS57 _
    obtain ⟨x, hq57⟩ : ∃ b, u57.heap.size = b := ⟨_, rfl⟩
    have hlx : w.heap.size ≤ x := by rw [← hq57]; exact Below.size hS57
    rw [hq57] at hnw ⊢
    generalize u57.alloc (.cells #[.int .u8 97] 5) = y57 at *
    have F57 : Hid (∀ wx, Below y57.heap.size y57 wx → (wx.heap[x]? = some (.cells #[.int .u8 97] 5)) ∧ (True)) := fun wx hx => ⟨((Below.block hx _ (b_lt_get hnw)).trans hnw), trivial⟩
    have HB57 : Hid (Below w.heap.size w y57) := hbb
    refine hK.out _ _ hbb ?_
    clear hK K hnw hal hbb hq57 hg57 hS57  
    try simp only [List.setIfInBounds_toArray, List.set_cons_zero, List.set_cons_succ]
    refine ready2M (i := 27) (j := 29) (oi := { dst := Option.some 28, op := Op.convert 25 25 (Operand.tmp 27), type := 25, pos := "law.go:69", after := #[{ on := 26, ground := Ground.data }, { on := 25, ground := Ground.guard }], guard := Option.some (25, Bool.true) }) (oj := { dst := Option.some 30, op := Op.buildSlice 25 5 #[(0, Operand.const (Value.int IntKind.u8 97)), (1, Operand.const (Value.int IntKind.u8 67)), (2, Operand.const (Value.int IntKind.u8 190)), (3, Operand.const (Value.int IntKind.u8 183)), (4, Operand.const (Value.int IntKind.u8 232))], type := 25, pos := "law.go:69", after := #[{ on := 25, ground := Ground.guard }], guard := Option.some (25, Bool.true) }) rfl rfl (by kernel_rfl) ?_ ?_
    · intro u59 hg59 hS59 K hK
      obtain ⟨fx59, _⟩ := F57.out u59 hg59
      have kv := conv_at fx59 1 1
      go_simp
      clear kv
      obtain ⟨z1, z2, z3⟩ := freeze_at fx59 hS59 hlx (k := 1)
      generalize (u59.freeze ⟨x, 1, none⟩ 1) = y59 at *
      have F59 : Hid (∀ wx, Below y59.heap.size y59 wx → (wx.heap[x]? = some (.cells #[.int .u8 97] 5 (1, 2))) ∧ (True)) := fun wx hx => ⟨((Below.block hx _ (b_lt_get z1)).trans z1), trivial⟩
      have HB59 : Hid (Below w.heap.size w y59) := z3
      refine hK.out _ _ z3 ?_
      clear hK K z1 z2 z3 hg59 hS59 fx59 
      try simp only [List.setIfInBounds_toArray, List.set_cons_zero, List.set_cons_succ]
      refine ready2M (i := 28) (j := 29) (oi := { dst := Option.some 29, op := Op.call { callee := Callee.value (Operand.func 7), args := #[Operand.tmp 28], argTypes := #[25] }, type := 25, pos := "law.go:69", after := #[{ on := 27, ground := Ground.data }, { on := 25, ground := Ground.chain }, { on := 25, ground := Ground.guard }], guard := Option.some (25, Bool.true) }) (oj := { dst := Option.some 30, op := Op.buildSlice 25 5 #[(0, Operand.const (Value.int IntKind.u8 97)), (1, Operand.const (Value.int IntKind.u8 67)), (2, Operand.const (Value.int IntKind.u8 190)), (3, Operand.const (Value.int IntKind.u8 183)), (4, Operand.const (Value.int IntKind.u8 232))], type := 25, pos := "law.go:69", after := #[{ on := 25, ground := Ground.guard }], guard := Option.some (25, Bool.true) }) rfl rfl (by kernel_rfl) ?_ ?_
      · intro u61 hg61 hS61 K hK
        obtain ⟨fx61, _⟩ := F59.out u61 hg61
        go_simp
        refine (EA.out u61 x (1, 2) hS61 fx61).mono ?_
        rintro e y61 ⟨mo, mc, rfl, hh, hx9, hy61⟩
        have gx61 := (Below.block hy61 _ (b_lt_get fx61)).trans fx61
        have F61 : Hid (∀ wx, Below y61.heap.size y61 wx → (wx.heap[x]? = some (.cells #[.int .u8 97] 5 (1, 2))) ∧ (HasB wx (.slice mo 5 mc) [97, 67, 190, 183, 232]) ∧ (True)) := fun wx hx => ⟨((Below.block hx _ (b_lt_get gx61)).trans gx61), (HasB.keep hh hx), trivial⟩
        have HB61 : Hid (Below w.heap.size w y61) := hx9
        go_wp2_with fail
        refine hK.out _ _ hx9 ?_
        clear hK K hh hx9 hy61 hg61 hS61 fx61 gx61
        try simp only [List.setIfInBounds_toArray, List.set_cons_zero, List.set_cons_succ]
        refine readyM (i := 29) (o := { dst := Option.some 30, op := Op.buildSlice 25 5 #[(0, Operand.const (Value.int IntKind.u8 97)), (1, Operand.const (Value.int IntKind.u8 67)), (2, Operand.const (Value.int IntKind.u8 190)), (3, Operand.const (Value.int IntKind.u8 183)), (4, Operand.const (Value.int IntKind.u8 232))], type := 25, pos := "law.go:69", after := #[{ on := 25, ground := Ground.guard }], guard := Option.some (25, Bool.true) }) rfl (by kernel_rfl) ?_
        intro u63 hg63 hS63 K hK
        obtain ⟨fx63, fH63, _⟩ := F61.out u63 hg63
        have km := bld5a
        go_simp
        clear km
        have hnw := hn1 u63 (.cells #[.int .u8 97, .int .u8 67, .int .u8 190, .int .u8 183, .int .u8 232] 5)
        have hal : Below u63.heap.size u63 (u63.alloc (.cells #[.int .u8 97, .int .u8 67, .int .u8 190, .int .u8 183, .int .u8 232] 5)) := (Below.refl _ _).alloc (Nat.le_refl _) _
        have hbb : Below w.heap.size w (u63.alloc (.cells #[.int .u8 97, .int .u8 67, .int .u8 190, .int .u8 183, .int .u8 232] 5)) := bal hS63 _
        obtain ⟨y, hq63⟩ : ∃ b, u63.heap.size = b := ⟨_, rfl⟩
        have hly : w.heap.size ≤ y := by rw [← hq63]; exact Below.size hS63
        have nxy : x ≠ y := by have := b_lt_get fx63; omega
        rw [hq63] at hnw ⊢
        generalize u63.alloc (.cells #[.int .u8 97, .int .u8 67, .int .u8 190, .int .u8 183, .int .u8 232] 5) = y63 at *
        have gx63 := (Below.block hal _ (b_lt_get fx63)).trans fx63
        have gH63 := HasB.keep fH63 hal
        have F63 : Hid (∀ wx, Below y63.heap.size y63 wx → (wx.heap[x]? = some (.cells #[.int .u8 97] 5 (1, 2))) ∧ (wx.heap[y]? = some (.cells #[.int .u8 97, .int .u8 67, .int .u8 190, .int .u8 183, .int .u8 232] 5)) ∧ (HasB wx (.slice mo 5 mc) [97, 67, 190, 183, 232]) ∧ (True)) := fun wx hx => ⟨((Below.block hx _ (b_lt_get gx63)).trans gx63), ((Below.block hx _ (b_lt_get hnw)).trans hnw), (HasB.keep gH63 hx), trivial⟩
        have HB63 : Hid (Below w.heap.size w y63) := hbb
        refine hK.out _ _ hbb ?_
        clear hK K hnw hal hbb hq63 hg63 hS63 fx63 fH63 gx63 gH63
        try simp only [List.setIfInBounds_toArray, List.set_cons_zero, List.set_cons_succ]
        refine readyM (i := 30) (o := { dst := Option.some 31, op := Op.call { callee := Callee.value (Operand.func 6), args := #[Operand.tmp 29, Operand.tmp 30], argTypes := #[25, 25] }, type := 4, pos := "law.go:69", after := #[{ on := 28, ground := Ground.data }, { on := 29, ground := Ground.data }, { on := 28, ground := Ground.chain }, { on := 25, ground := Ground.guard }], guard := Option.some (25, Bool.true) }) rfl (by kernel_rfl) ?_
        intro u64 hg64 hS64 K hK
        obtain ⟨fx64, fy64, fH64, _⟩ := F63.out u64 hg64
        go_simp
        refine (SM5.out u64 mo mc y (0, 0) fH64 fy64).mono ?_
        rintro e y64 ⟨rfl, hy64⟩
        subst hy64
        have F64 : Hid (∀ wx : World, Below y64.heap.size y64 wx → True) := fun _ _ => trivial
        have HB64 : Hid (Below w.heap.size w y64) := hS64
        go_wp2_with fail
        refine hK.out _ _ hS64 ?_
        clear hK K hg64 hS64 fx64 fy64 fH64
        try simp only [List.setIfInBounds_toArray, List.set_cons_zero, List.set_cons_succ]
        refine wpAnyM_take (i := 31) (oi := { dst := Option.some 32, op := Op.pick (Operand.tmp 26) (Operand.tmp 31) (Operand.const (Value.bool Bool.false)), type := 4, pos := "law.go:69", after := #[{ on := 25, ground := Ground.data }, { on := 30, ground := Ground.data }], guard := Option.none }) (v := ?vk65z31) rfl (by kernel_rfl) (by kernel_rfl) (by kernel_rfl) (fun c a w h => hQP c a _ _ w h) (YieldsM.of_if (Or.inl ⟨by rfl, ?hk65z31⟩)) ?rk65z31
        case hk65z31 => ((intro wz hSw; (try dsimp only at hSw); go_simp); try (with_reducible rfl))
        try simp only [Act.put, List.setIfInBounds_toArray, List.set_cons_zero, List.set_cons_succ]
        refine cast_list (l' := #[true, true, true, true, true, true, true, true, true, true, true, true, true, true, true, true, true, true, true, true, true, true, true, true, true, true, true, true, true, true, true, true, false, false, false, false, false, false, false, false, false, false, false, false, false, false, false, false, false, false, false]) (by kernel_rfl) ?_
        exact cfE w HFW.out.1 HFW.out.2 hQP hQ _ _ _ _ _ _ _ _ _ _ _ _ _ _ _ _ _ _ _ _ _ _ _ _ _ _ _ _ _ _ _ _ _ _ _ _ _ _ _ _ _ _ _ _ _ _ _ _ _ _ _ HB64.out
      · intro u62 hg62 hS62 K hK
        obtain ⟨fx62, _⟩ := F59.out u62 hg62
        have km := bld5a
        go_simp
        clear km
        have hnw := hn1 u62 (.cells #[.int .u8 97, .int .u8 67, .int .u8 190, .int .u8 183, .int .u8 232] 5)
        have hal : Below u62.heap.size u62 (u62.alloc (.cells #[.int .u8 97, .int .u8 67, .int .u8 190, .int .u8 183, .int .u8 232] 5)) := (Below.refl _ _).alloc (Nat.le_refl _) _
        have hbb : Below w.heap.size w (u62.alloc (.cells #[.int .u8 97, .int .u8 67, .int .u8 190, .int .u8 183, .int .u8 232] 5)) := bal hS62 _
        obtain ⟨y, hq62⟩ : ∃ b, u62.heap.size = b := ⟨_, rfl⟩
        have hly : w.heap.size ≤ y := by rw [← hq62]; exact Below.size hS62
        have nxy : x ≠ y := by have := b_lt_get fx62; omega
        rw [hq62] at hnw ⊢
        generalize u62.alloc (.cells #[.int .u8 97, .int .u8 67, .int .u8 190, .int .u8 183, .int .u8 232] 5) = y62 at *
        have gx62 := (Below.block hal _ (b_lt_get fx62)).trans fx62
        have F62 : Hid (∀ wx, Below y62.heap.size y62 wx → (wx.heap[x]? = some (.cells #[.int .u8 97] 5 (1, 2))) ∧ (wx.heap[y]? = some (.cells #[.int .u8 97, .int .u8 67, .int .u8 190, .int .u8 183, .int .u8 232] 5)) ∧ (True)) := fun wx hx => ⟨((Below.block hx _ (b_lt_get gx62)).trans gx62), ((Below.block hx _ (b_lt_get hnw)).trans hnw), trivial⟩
        have HB62 : Hid (Below w.heap.size w y62) := hbb
        refine hK.out _ _ hbb ?_
        clear hK K hnw hal hbb hq62 hg62 hS62 fx62 gx62
        try simp only [List.setIfInBounds_toArray, List.set_cons_zero, List.set_cons_succ]
        refine readyM (i := 28) (o := { dst := Option.some 29, op := Op.call { callee := Callee.value (Operand.func 7), args := #[Operand.tmp 28], argTypes := #[25] }, type := 25, pos := "law.go:69", after := #[{ on := 27, ground := Ground.data }, { on := 25, ground := Ground.chain }, { on := 25, ground := Ground.guard }], guard := Option.some (25, Bool.true) }) rfl (by kernel_rfl) ?_
        intro u66 hg66 hS66 K hK
        obtain ⟨fx66, fy66, _⟩ := F62.out u66 hg66
        go_simp
        refine (EA.out u66 x (1, 2) hS66 fx66).mono ?_
        rintro e y66 ⟨mo, mc, rfl, hh, hx9, hy66⟩
        have gx66 := (Below.block hy66 _ (b_lt_get fx66)).trans fx66
        have gy66 := (Below.block hy66 _ (b_lt_get fy66)).trans fy66
        have F66 : Hid (∀ wx, Below y66.heap.size y66 wx → (wx.heap[x]? = some (.cells #[.int .u8 97] 5 (1, 2))) ∧ (wx.heap[y]? = some (.cells #[.int .u8 97, .int .u8 67, .int .u8 190, .int .u8 183, .int .u8 232] 5)) ∧ (HasB wx (.slice mo 5 mc) [97, 67, 190, 183, 232]) ∧ (True)) := fun wx hx => ⟨((Below.block hx _ (b_lt_get gx66)).trans gx66), ((Below.block hx _ (b_lt_get gy66)).trans gy66), (HasB.keep hh hx), trivial⟩
        have HB66 : Hid (Below w.heap.size w y66) := hx9
        go_wp2_with fail
        refine hK.out _ _ hx9 ?_
        clear hK K hh hx9 hy66 hg66 hS66 fx66 fy66 gx66 gy66
        try simp only [List.setIfInBounds_toArray, List.set_cons_zero, List.set_cons_succ]
        refine readyM (i := 30) (o := { dst := Option.some 31, op := Op.call { callee := Callee.value (Operand.func 6), args := #[Operand.tmp 29, Operand.tmp 30], argTypes := #[25, 25] }, type := 4, pos := "law.go:69", after := #[{ on := 28, ground := Ground.data }, { on := 29, ground := Ground.data }, { on := 28, ground := Ground.chain }, { on := 25, ground := Ground.guard }], guard := Option.some (25, Bool.true) }) rfl (by kernel_rfl) ?_
        intro u67 hg67 hS67 K hK
        obtain ⟨fx67, fy67, fH67, _⟩ := F66.out u67 hg67
        go_simp
        refine (SM5.out u67 mo mc y (0, 0) fH67 fy67).mono ?_
        rintro e y67 ⟨rfl, hy67⟩
        subst hy67
        have F67 : Hid (∀ wx : World, Below y67.heap.size y67 wx → True) := fun _ _ => trivial
        have HB67 : Hid (Below w.heap.size w y67) := hS67
        go_wp2_with fail
        refine hK.out _ _ hS67 ?_
        clear hK K hg67 hS67 fx67 fy67 fH67
        try simp only [List.setIfInBounds_toArray, List.set_cons_zero, List.set_cons_succ]
        refine wpAnyM_take (i := 31) (oi := { dst := Option.some 32, op := Op.pick (Operand.tmp 26) (Operand.tmp 31) (Operand.const (Value.bool Bool.false)), type := 4, pos := "law.go:69", after := #[{ on := 25, ground := Ground.data }, { on := 30, ground := Ground.data }], guard := Option.none }) (v := ?vk68z31) rfl (by kernel_rfl) (by kernel_rfl) (by kernel_rfl) (fun c a w h => hQP c a _ _ w h) (YieldsM.of_if (Or.inl ⟨by rfl, ?hk68z31⟩)) ?rk68z31
        case hk68z31 => ((intro wz hSw; (try dsimp only at hSw); go_simp); try (with_reducible rfl))
        try simp only [Act.put, List.setIfInBounds_toArray, List.set_cons_zero, List.set_cons_succ]
        refine cast_list (l' := #[true, true, true, true, true, true, true, true, true, true, true, true, true, true, true, true, true, true, true, true, true, true, true, true, true, true, true, true, true, true, true, true, false, false, false, false, false, false, false, false, false, false, false, false, false, false, false, false, false, false, false]) (by kernel_rfl) ?_
        exact cfE w HFW.out.1 HFW.out.2 hQP hQ _ _ _ _ _ _ _ _ _ _ _ _ _ _ _ _ _ _ _ _ _ _ _ _ _ _ _ _ _ _ _ _ _ _ _ _ _ _ _ _ _ _ _ _ _ _ _ _ _ _ _ HB67.out
    · intro u60 hg60 hS60 K hK
      obtain ⟨fx60, _⟩ := F57.out u60 hg60
      have km := bld5a
      go_simp
      clear km
      have hnw := hn1 u60 (.cells #[.int .u8 97, .int .u8 67, .int .u8 190, .int .u8 183, .int .u8 232] 5)
      have hal : Below u60.heap.size u60 (u60.alloc (.cells #[.int .u8 97, .int .u8 67, .int .u8 190, .int .u8 183, .int .u8 232] 5)) := (Below.refl _ _).alloc (Nat.le_refl _) _
      have hbb : Below w.heap.size w (u60.alloc (.cells #[.int .u8 97, .int .u8 67, .int .u8 190, .int .u8 183, .int .u8 232] 5)) := bal hS60 _
      obtain ⟨y, hq60⟩ : ∃ b, u60.heap.size = b := ⟨_, rfl⟩
      have hly : w.heap.size ≤ y := by rw [← hq60]; exact Below.size hS60
      have nxy : x ≠ y := by have := b_lt_get fx60; omega
      rw [hq60] at hnw ⊢
      generalize u60.alloc (.cells #[.int .u8 97, .int .u8 67, .int .u8 190, .int .u8 183, .int .u8 232] 5) = y60 at *
      have gx60 := (Below.block hal _ (b_lt_get fx60)).trans fx60
      have F60 : Hid (∀ wx, Below y60.heap.size y60 wx → (wx.heap[x]? = some (.cells #[.int .u8 97] 5)) ∧ (wx.heap[y]? = some (.cells #[.int .u8 97, .int .u8 67, .int .u8 190, .int .u8 183, .int .u8 232] 5)) ∧ (True)) := fun wx hx => ⟨((Below.block hx _ (b_lt_get gx60)).trans gx60), ((Below.block hx _ (b_lt_get hnw)).trans hnw), trivial⟩
      have HB60 : Hid (Below w.heap.size w y60) := hbb
      refine hK.out _ _ hbb ?_
      clear hK K hnw hal hbb hq60 hg60 hS60 fx60 gx60
      try simp only [List.setIfInBounds_toArray, List.set_cons_zero, List.set_cons_succ]
      refine readyM (i := 27) (o := { dst := Option.some 28, op := Op.convert 25 25 (Operand.tmp 27), type := 25, pos := "law.go:69", after := #[{ on := 26, ground := Ground.data }, { on := 25, ground := Ground.guard }], guard := Option.some (25, Bool.true) }) rfl (by kernel_rfl) ?_
      intro u69 hg69 hS69 K hK
      obtain ⟨fx69, fy69, _⟩ := F60.out u69 hg69
      have kv := conv_at fx69 1 1
      go_simp
      clear kv
      obtain ⟨z1, z2, z3⟩ := freeze_at fx69 hS69 hlx (k := 1)
      generalize (u69.freeze ⟨x, 1, none⟩ 1) = y69 at *
      have gy69 := (z2 y (Ne.symm nxy)).trans fy69
      have F69 : Hid (∀ wx, Below y69.heap.size y69 wx → (wx.heap[x]? = some (.cells #[.int .u8 97] 5 (1, 2))) ∧ (wx.heap[y]? = some (.cells #[.int .u8 97, .int .u8 67, .int .u8 190, .int .u8 183, .int .u8 232] 5)) ∧ (True)) := fun wx hx => ⟨((Below.block hx _ (b_lt_get z1)).trans z1), ((Below.block hx _ (b_lt_get gy69)).trans gy69), trivial⟩
      have HB69 : Hid (Below w.heap.size w y69) := z3
      refine hK.out _ _ z3 ?_
      clear hK K z1 z2 z3 hg69 hS69 fx69 fy69 gy69
      try simp only [List.setIfInBounds_toArray, List.set_cons_zero, List.set_cons_succ]
      refine readyM (i := 28) (o := { dst := Option.some 29, op := Op.call { callee := Callee.value (Operand.func 7), args := #[Operand.tmp 28], argTypes := #[25] }, type := 25, pos := "law.go:69", after := #[{ on := 27, ground := Ground.data }, { on := 25, ground := Ground.chain }, { on := 25, ground := Ground.guard }], guard := Option.some (25, Bool.true) }) rfl (by kernel_rfl) ?_
      intro u70 hg70 hS70 K hK
      obtain ⟨fx70, fy70, _⟩ := F69.out u70 hg70
      go_simp
      refine (EA.out u70 x (1, 2) hS70 fx70).mono ?_
      rintro e y70 ⟨mo, mc, rfl, hh, hx9, hy70⟩
      have gx70 := (Below.block hy70 _ (b_lt_get fx70)).trans fx70
      have gy70 := (Below.block hy70 _ (b_lt_get fy70)).trans fy70
      have F70 : Hid (∀ wx, Below y70.heap.size y70 wx → (wx.heap[x]? = some (.cells #[.int .u8 97] 5 (1, 2))) ∧ (wx.heap[y]? = some (.cells #[.int .u8 97, .int .u8 67, .int .u8 190, .int .u8 183, .int .u8 232] 5)) ∧ (HasB wx (.slice mo 5 mc) [97, 67, 190, 183, 232]) ∧ (True)) := fun wx hx => ⟨((Below.block hx _ (b_lt_get gx70)).trans gx70), ((Below.block hx _ (b_lt_get gy70)).trans gy70), (HasB.keep hh hx), trivial⟩
      have HB70 : Hid (Below w.heap.size w y70) := hx9
      go_wp2_with fail
      refine hK.out _ _ hx9 ?_
      clear hK K hh hx9 hy70 hg70 hS70 fx70 fy70 gx70 gy70
      try simp only [List.setIfInBounds_toArray, List.set_cons_zero, List.set_cons_succ]
      refine readyM (i := 30) (o := { dst := Option.some 31, op := Op.call { callee := Callee.value (Operand.func 6), args := #[Operand.tmp 29, Operand.tmp 30], argTypes := #[25, 25] }, type := 4, pos := "law.go:69", after := #[{ on := 28, ground := Ground.data }, { on := 29, ground := Ground.data }, { on := 28, ground := Ground.chain }, { on := 25, ground := Ground.guard }], guard := Option.some (25, Bool.true) }) rfl (by kernel_rfl) ?_
      intro u71 hg71 hS71 K hK
      obtain ⟨fx71, fy71, fH71, _⟩ := F70.out u71 hg71
      go_simp
      refine (SM5.out u71 mo mc y (0, 0) fH71 fy71).mono ?_
      rintro e y71 ⟨rfl, hy71⟩
      subst hy71
      have F71 : Hid (∀ wx : World, Below y71.heap.size y71 wx → True) := fun _ _ => trivial
      have HB71 : Hid (Below w.heap.size w y71) := hS71
      go_wp2_with fail
      refine hK.out _ _ hS71 ?_
      clear hK K hg71 hS71 fx71 fy71 fH71
      try simp only [List.setIfInBounds_toArray, List.set_cons_zero, List.set_cons_succ]
      refine wpAnyM_take (i := 31) (oi := { dst := Option.some 32, op := Op.pick (Operand.tmp 26) (Operand.tmp 31) (Operand.const (Value.bool Bool.false)), type := 4, pos := "law.go:69", after := #[{ on := 25, ground := Ground.data }, { on := 30, ground := Ground.data }], guard := Option.none }) (v := ?vk72z31) rfl (by kernel_rfl) (by kernel_rfl) (by kernel_rfl) (fun c a w h => hQP c a _ _ w h) (YieldsM.of_if (Or.inl ⟨by rfl, ?hk72z31⟩)) ?rk72z31
      case hk72z31 => ((intro wz hSw; (try dsimp only at hSw); go_simp); try (with_reducible rfl))
      try simp only [Act.put, List.setIfInBounds_toArray, List.set_cons_zero, List.set_cons_succ]
      refine cast_list (l' := #[true, true, true, true, true, true, true, true, true, true, true, true, true, true, true, true, true, true, true, true, true, true, true, true, true, true, true, true, true, true, true, true, false, false, false, false, false, false, false, false, false, false, false, false, false, false, false, false, false, false, false]) (by kernel_rfl) ?_
      exact cfE w HFW.out.1 HFW.out.2 hQP hQ _ _ _ _ _ _ _ _ _ _ _ _ _ _ _ _ _ _ _ _ _ _ _ _ _ _ _ _ _ _ _ _ _ _ _ _ _ _ _ _ _ _ _ _ _ _ _ _ _ _ _ HB71.out
  · intro u58 hg58 hS58 K hK
    have km := bld5a
    go_simp
    clear km
    have hnw := hn1 u58 (.cells #[.int .u8 97, .int .u8 67, .int .u8 190, .int .u8 183, .int .u8 232] 5)
    have hal : Below u58.heap.size u58 (u58.alloc (.cells #[.int .u8 97, .int .u8 67, .int .u8 190, .int .u8 183, .int .u8 232] 5)) := (Below.refl _ _).alloc (Nat.le_refl _) _
    have hbb : Below w.heap.size w (u58.alloc (.cells #[.int .u8 97, .int .u8 67, .int .u8 190, .int .u8 183, .int .u8 232] 5)) := bal hS58 _
    obtain ⟨y, hq58⟩ : ∃ b, u58.heap.size = b := ⟨_, rfl⟩
    have hly : w.heap.size ≤ y := by rw [← hq58]; exact Below.size hS58
    rw [hq58] at hnw ⊢
    generalize u58.alloc (.cells #[.int .u8 97, .int .u8 67, .int .u8 190, .int .u8 183, .int .u8 232] 5) = y58 at *
    have F58 : Hid (∀ wx, Below y58.heap.size y58 wx → (wx.heap[y]? = some (.cells #[.int .u8 97, .int .u8 67, .int .u8 190, .int .u8 183, .int .u8 232] 5)) ∧ (True)) := fun wx hx => ⟨((Below.block hx _ (b_lt_get hnw)).trans hnw), trivial⟩
    have HB58 : Hid (Below w.heap.size w y58) := hbb
    refine hK.out _ _ hbb ?_
    clear hK K hnw hal hbb hq58 hg58 hS58  
    try simp only [List.setIfInBounds_toArray, List.set_cons_zero, List.set_cons_succ]
    refine readyM (i := 26) (o := { dst := Option.some 27, op := Op.buildSlice 25 1 #[(0, Operand.const (Value.int IntKind.u8 97))], type := 25, pos := "law.go:69", after := #[{ on := 25, ground := Ground.guard }], guard := Option.some (25, Bool.true) }) rfl (by kernel_rfl) ?_
    intro u73 hg73 hS73 K hK
    obtain ⟨fy73, _⟩ := F58.out u73 hg73
    have km := bld1
    go_simp
    clear km
    have hnw := hn1 u73 (.cells #[.int .u8 97] 5)
    have hal : Below u73.heap.size u73 (u73.alloc (.cells #[.int .u8 97] 5)) := (Below.refl _ _).alloc (Nat.le_refl _) _
    have hbb : Below w.heap.size w (u73.alloc (.cells #[.int .u8 97] 5)) := bal hS73 _
    obtain ⟨x, hq73⟩ : ∃ b, u73.heap.size = b := ⟨_, rfl⟩
    have hlx : w.heap.size ≤ x := by rw [← hq73]; exact Below.size hS73
    have nyx : y ≠ x := by have := b_lt_get fy73; omega
    rw [hq73] at hnw ⊢
    generalize u73.alloc (.cells #[.int .u8 97] 5) = y73 at *
    have gy73 := (Below.block hal _ (b_lt_get fy73)).trans fy73
    have F73 : Hid (∀ wx, Below y73.heap.size y73 wx → (wx.heap[y]? = some (.cells #[.int .u8 97, .int .u8 67, .int .u8 190, .int .u8 183, .int .u8 232] 5)) ∧ (wx.heap[x]? = some (.cells #[.int .u8 97] 5)) ∧ (True)) := fun wx hx => ⟨((Below.block hx _ (b_lt_get gy73)).trans gy73), ((Below.block hx _ (b_lt_get hnw)).trans hnw), trivial⟩
    have HB73 : Hid (Below w.heap.size w y73) := hbb
    refine hK.out _ _ hbb ?_
    clear hK K hnw hal hbb hq73 hg73 hS73 fy73 gy73
    try simp only [List.setIfInBounds_toArray, List.set_cons_zero, List.set_cons_succ]
    refine readyM (i := 27) (o := { dst := Option.some 28, op := Op.convert 25 25 (Operand.tmp 27), type := 25, pos := "law.go:69", after := #[{ on := 26, ground := Ground.data }, { on := 25, ground := Ground.guard }], guard := Option.some (25, Bool.true) }) rfl (by kernel_rfl) ?_
    intro u74 hg74 hS74 K hK
    obtain ⟨fy74, fx74, _⟩ := F73.out u74 hg74
    have kv := conv_at fx74 1 1
    go_simp
    clear kv
    obtain ⟨z1, z2, z3⟩ := freeze_at fx74 hS74 hlx (k := 1)
    generalize (u74.freeze ⟨x, 1, none⟩ 1) = y74 at *
    have gy74 := (z2 y nyx).trans fy74
    have F74 : Hid (∀ wx, Below y74.heap.size y74 wx → (wx.heap[y]? = some (.cells #[.int .u8 97, .int .u8 67, .int .u8 190, .int .u8 183, .int .u8 232] 5)) ∧ (wx.heap[x]? = some (.cells #[.int .u8 97] 5 (1, 2))) ∧ (True)) := fun wx hx => ⟨((Below.block hx _ (b_lt_get gy74)).trans gy74), ((Below.block hx _ (b_lt_get z1)).trans z1), trivial⟩
    have HB74 : Hid (Below w.heap.size w y74) := z3
    refine hK.out _ _ z3 ?_
    clear hK K z1 z2 z3 hg74 hS74 fy74 fx74 gy74
    try simp only [List.setIfInBounds_toArray, List.set_cons_zero, List.set_cons_succ]
    refine readyM (i := 28) (o := { dst := Option.some 29, op := Op.call { callee := Callee.value (Operand.func 7), args := #[Operand.tmp 28], argTypes := #[25] }, type := 25, pos := "law.go:69", after := #[{ on := 27, ground := Ground.data }, { on := 25, ground := Ground.chain }, { on := 25, ground := Ground.guard }], guard := Option.some (25, Bool.true) }) rfl (by kernel_rfl) ?_
    intro u75 hg75 hS75 K hK
    obtain ⟨fy75, fx75, _⟩ := F74.out u75 hg75
    go_simp
    refine (EA.out u75 x (1, 2) hS75 fx75).mono ?_
    rintro e y75 ⟨mo, mc, rfl, hh, hx9, hy75⟩
    have gy75 := (Below.block hy75 _ (b_lt_get fy75)).trans fy75
    have gx75 := (Below.block hy75 _ (b_lt_get fx75)).trans fx75
    have F75 : Hid (∀ wx, Below y75.heap.size y75 wx → (wx.heap[y]? = some (.cells #[.int .u8 97, .int .u8 67, .int .u8 190, .int .u8 183, .int .u8 232] 5)) ∧ (wx.heap[x]? = some (.cells #[.int .u8 97] 5 (1, 2))) ∧ (HasB wx (.slice mo 5 mc) [97, 67, 190, 183, 232]) ∧ (True)) := fun wx hx => ⟨((Below.block hx _ (b_lt_get gy75)).trans gy75), ((Below.block hx _ (b_lt_get gx75)).trans gx75), (HasB.keep hh hx), trivial⟩
    have HB75 : Hid (Below w.heap.size w y75) := hx9
    go_wp2_with fail
    refine hK.out _ _ hx9 ?_
    clear hK K hh hx9 hy75 hg75 hS75 fy75 fx75 gy75 gx75
    try simp only [List.setIfInBounds_toArray, List.set_cons_zero, List.set_cons_succ]
    refine readyM (i := 30) (o := { dst := Option.some 31, op := Op.call { callee := Callee.value (Operand.func 6), args := #[Operand.tmp 29, Operand.tmp 30], argTypes := #[25, 25] }, type := 4, pos := "law.go:69", after := #[{ on := 28, ground := Ground.data }, { on := 29, ground := Ground.data }, { on := 28, ground := Ground.chain }, { on := 25, ground := Ground.guard }], guard := Option.some (25, Bool.true) }) rfl (by kernel_rfl) ?_
    intro u76 hg76 hS76 K hK
    obtain ⟨fy76, fx76, fH76, _⟩ := F75.out u76 hg76
    go_simp
    refine (SM5.out u76 mo mc y (0, 0) fH76 fy76).mono ?_
    rintro e y76 ⟨rfl, hy76⟩
    subst hy76
    have F76 : Hid (∀ wx : World, Below y76.heap.size y76 wx → True) := fun _ _ => trivial
    have HB76 : Hid (Below w.heap.size w y76) := hS76
    go_wp2_with fail
    refine hK.out _ _ hS76 ?_
    clear hK K hg76 hS76 fy76 fx76 fH76
    try simp only [List.setIfInBounds_toArray, List.set_cons_zero, List.set_cons_succ]
    refine wpAnyM_take (i := 31) (oi := { dst := Option.some 32, op := Op.pick (Operand.tmp 26) (Operand.tmp 31) (Operand.const (Value.bool Bool.false)), type := 4, pos := "law.go:69", after := #[{ on := 25, ground := Ground.data }, { on := 30, ground := Ground.data }], guard := Option.none }) (v := ?vk77z31) rfl (by kernel_rfl) (by kernel_rfl) (by kernel_rfl) (fun c a w h => hQP c a _ _ w h) (YieldsM.of_if (Or.inl ⟨by rfl, ?hk77z31⟩)) ?rk77z31
    case hk77z31 => ((intro wz hSw; (try dsimp only at hSw); go_simp); try (with_reducible rfl))
    try simp only [Act.put, List.setIfInBounds_toArray, List.set_cons_zero, List.set_cons_succ]
    refine cast_list (l' := #[true, true, true, true, true, true, true, true, true, true, true, true, true, true, true, true, true, true, true, true, true, true, true, true, true, true, true, true, true, true, true, true, false, false, false, false, false, false, false, false, false, false, false, false, false, false, false, false, false, false, false]) (by kernel_rfl) ?_
    exact cfE w HFW.out.1 HFW.out.2 hQP hQ _ _ _ _ _ _ _ _ _ _ _ _ _ _ _ _ _ _ _ _ _ _ _ _ _ _ _ _ _ _ _ _ _ _ _ _ _ _ _ _ _ _ _ _ _ _ _ _ _ _ _ HB76.out

set_option maxRecDepth 100000 in
set_option maxHeartbeats 8000000 in
theorem cfC (w : World) (hf : HasFours w) (hg : 0 < w.heap.size) {Q : Exit → Act → World → Prop} (hQP : ∀ c (a : Act) d v w, Q (.panic c) (a.put d v) w → Q (.panic c) a w) (hQ : ∀ (b1 b2 b3 b4 b5 b6 b7 b8 b9 b10 b11 b12 b13 b14 b15 b16 b17 b18 b19 b20 b21 b22 b23 b24 b25 b26 b27 b28 b29 b30 b31 b32 b33 b34 b35 b36 b37 b38 b39 b40 b41 b42 b43 b44 b45 b46 b47 b48 b49 b50 : Value) (wx : World), Below w.heap.size w wx → Q .normal { tmps := #[(.bool true), b1, b2, b3, b4, b5, b6, b7, b8, b9, b10, b11, b12, b13, b14, b15, b16, b17, b18, b19, b20, b21, b22, b23, b24, b25, b26, b27, b28, b29, b30, b31, b32, b33, b34, b35, b36, b37, b38, b39, b40, b41, b42, b43, b44, b45, b46, b47, b48, b49, b50], defers := [] } wx) (b0 b1 b2 b3 b4 b5 b6 b7 b8 b9 b10 b11 b12 b13 b14 b15 b16 b17 b18 b19 b20 b22 b23 b24 b25 b26 b27 b28 b29 b30 b31 b32 b33 b34 b35 b36 b37 b38 b39 b40 b41 b42 b43 b44 b45 b46 b47 b48 b49 b50 : Value) (v : World) (hv : Below w.heap.size w v) : wpAnyM Tryd.prog .any cfOps Q (fun w' => Below w.heap.size w w') 30 #[true, true, true, true, true, true, true, true, true, true, true, true, true, true, true, true, true, true, true, true, true, false, false, false, false, false, false, false, false, false, false, false, false, false, false, false, false, false, false, false, false, false, false, false, false, false, false, false, false, false, false] { tmps := #[b0, b1, b2, b3, b4, b5, b6, b7, b8, b9, b10, b11, b12, b13, b14, b15, b16, b17, b18, b19, b20, (.bool true), b22, b23, b24, b25, b26, b27, b28, b29, b30, b31, b32, b33, b34, b35, b36, b37, b38, b39, b40, b41, b42, b43, b44, b45, b46, b47, b48, b49, b50], defers := [] } v := by
  have HF : Hid (∀ wx, Below w.heap.size w wx → HasFours wx ∧ 0 < wx.heap.size) := fun wx hx => ⟨fours_keep hf hg hx, Nat.lt_of_lt_of_le hg hx.size⟩
  have FZ : Hid (∀ wx b fr, Below w.heap.size w wx → wx.heap[b]? = some (.cells #[.int .u8 0, .int .u8 0, .int .u8 0, .int .u8 0] 5 fr) → Calls Tryd.prog 8 #[.slice (some ⟨b, 0, none⟩) 4 4] wx fun e w' => e = .returned (.bool true) ∧ Below w.heap.size w w') := fun wx b fr hx hc => by
    have g := cFits_calls (some ⟨b, 0, none⟩) 4 [0, 0, 0, 0] wx (HF.out wx hx).1 (HF.out wx hx).2 (hasB_at rfl (fr := fr) hc) (bts_of rfl) (by decide) (by decide)
    rw [fits_z] at g
    exact g.mono (by rintro e w' ⟨rfl, hb⟩; exact ⟨rfl, hx.trans (hb.mono hx.size)⟩)
  clear hf
  have HBv : Hid (Below w.heap.size w v) := hv
  have F0 : Hid (∀ wx : World, Below v.heap.size v wx → True) := fun _ _ => trivial
  have HFW : Hid (HasFours w ∧ 0 < w.heap.size) := HF.out w (Below.refl _ _)
  refine wpAnyM_take (i := 21) (oi := { dst := Option.some 22, op := Op.move (Operand.tmp 21), type := 4, pos := "law.go:69", after := #[{ on := 20, ground := Ground.data }, { on := 19, ground := Ground.chain }], guard := Option.none }) (v := ?vk78z21) rfl (by kernel_rfl) (by kernel_rfl) (by kernel_rfl) (fun c a w h => hQP c a _ _ w h) (YieldsM.of_if (Or.inl ⟨by rfl, ?hk78z21⟩)) ?rk78z21
  case hk78z21 => ((intro wz hSw; (try dsimp only at hSw); go_simp); try (with_reducible rfl))
  try simp only [Act.put, List.setIfInBounds_toArray, List.set_cons_zero, List.set_cons_succ]
  refine readyM (i := 22) (o := { dst := Option.some 23, op := Op.makeSlice 25 (Operand.const (Value.int IntKind.i64 4)) (Operand.const (Value.int IntKind.i64 4)), type := 25, pos := "law.go:69", after := #[{ on := 21, ground := Ground.guard }], guard := Option.some (21, Bool.true) }) rfl (by kernel_rfl) ?_
  intro u79 hg79 hS79 K hK
  have km := make_four u79
  go_simp
  clear km
  have hnw := hn1 u79 (.cells #[.int .u8 0, .int .u8 0, .int .u8 0, .int .u8 0] 5)
  have hal : Below u79.heap.size u79 (u79.alloc (.cells #[.int .u8 0, .int .u8 0, .int .u8 0, .int .u8 0] 5)) := (Below.refl _ _).alloc (Nat.le_refl _) _
  have hbb : Below w.heap.size w (u79.alloc (.cells #[.int .u8 0, .int .u8 0, .int .u8 0, .int .u8 0] 5)) := bal hS79 _
  obtain ⟨x, hq79⟩ : ∃ b, u79.heap.size = b := ⟨_, rfl⟩
  have hlx : w.heap.size ≤ x := by rw [← hq79]; exact Below.size hS79
  rw [hq79] at hnw ⊢
  generalize u79.alloc (.cells #[.int .u8 0, .int .u8 0, .int .u8 0, .int .u8 0] 5) = y79 at *
  have F79 : Hid (∀ wx, Below y79.heap.size y79 wx → (wx.heap[x]? = some (.cells #[.int .u8 0, .int .u8 0, .int .u8 0, .int .u8 0] 5)) ∧ (True)) := fun wx hx => ⟨((Below.block hx _ (b_lt_get hnw)).trans hnw), trivial⟩
  have HB79 : Hid (Below w.heap.size w y79) := hbb
  refine hK.out _ _ hbb ?_
  clear hK K hnw hal hbb hq79 hg79 hS79  
  try simp only [List.setIfInBounds_toArray, List.set_cons_zero, List.set_cons_succ]
  refine readyM (i := 23) (o := { dst := Option.some 24, op := Op.call { callee := Callee.value (Operand.func 8), args := #[Operand.tmp 23], argTypes := #[25] }, type := 4, pos := "law.go:69", after := #[{ on := 22, ground := Ground.data }, { on := 21, ground := Ground.chain }, { on := 21, ground := Ground.guard }], guard := Option.some (21, Bool.true) }) rfl (by kernel_rfl) ?_
  intro u80 hg80 hS80 K hK
  obtain ⟨fx80, _⟩ := F79.out u80 hg80
  go_simp
  refine (FZ.out u80 x (0, 0) hS80 fx80).mono ?_
  rintro e y80 ⟨rfl, hy80⟩
  have F80 : Hid (∀ wx : World, Below y80.heap.size y80 wx → True) := fun _ _ => trivial
  have HB80 : Hid (Below w.heap.size w y80) := hy80
  go_wp2_with fail
  refine hK.out _ _ hy80 ?_
  clear hK K hg80 hS80 hy80 fx80
  try simp only [List.setIfInBounds_toArray, List.set_cons_zero, List.set_cons_succ]
  refine wpAnyM_take (i := 24) (oi := { dst := Option.some 25, op := Op.pick (Operand.tmp 22) (Operand.tmp 24) (Operand.const (Value.bool Bool.false)), type := 4, pos := "law.go:69", after := #[{ on := 21, ground := Ground.data }, { on := 23, ground := Ground.data }], guard := Option.none }) (v := ?vk81z24) rfl (by kernel_rfl) (by kernel_rfl) (by kernel_rfl) (fun c a w h => hQP c a _ _ w h) (YieldsM.of_if (Or.inl ⟨by rfl, ?hk81z24⟩)) ?rk81z24
  case hk81z24 => ((intro wz hSw; (try dsimp only at hSw); go_simp); try (with_reducible rfl))
  try simp only [Act.put, List.setIfInBounds_toArray, List.set_cons_zero, List.set_cons_succ]
  refine wpAnyM_take (i := 25) (oi := { dst := Option.some 26, op := Op.move (Operand.tmp 25), type := 4, pos := "law.go:69", after := #[{ on := 24, ground := Ground.data }, { on := 23, ground := Ground.chain }], guard := Option.none }) (v := ?vk82z25) rfl (by kernel_rfl) (by kernel_rfl) (by kernel_rfl) (fun c a w h => hQP c a _ _ w h) (YieldsM.of_if (Or.inl ⟨by rfl, ?hk82z25⟩)) ?rk82z25
  case hk82z25 => ((intro wz hSw; (try dsimp only at hSw); go_simp); try (with_reducible rfl))
  try simp only [Act.put, List.setIfInBounds_toArray, List.set_cons_zero, List.set_cons_succ]
  refine cast_list (l' := #[true, true, true, true, true, true, true, true, true, true, true, true, true, true, true, true, true, true, true, true, true, true, true, true, true, true, false, false, false, false, false, false, false, false, false, false, false, false, false, false, false, false, false, false, false, false, false, false, false, false, false]) (by kernel_rfl) ?_
  exact cfD w HFW.out.1 HFW.out.2 hQP hQ _ _ _ _ _ _ _ _ _ _ _ _ _ _ _ _ _ _ _ _ _ _ _ _ _ _ _ _ _ _ _ _ _ _ _ _ _ _ _ _ _ _ _ _ _ _ _ _ _ _ _ HB80.out

set_option maxRecDepth 100000 in
set_option maxHeartbeats 8000000 in
theorem cfB (w : World) (hf : HasFours w) (hg : 0 < w.heap.size) {Q : Exit → Act → World → Prop} (hQP : ∀ c (a : Act) d v w, Q (.panic c) (a.put d v) w → Q (.panic c) a w) (hQ : ∀ (b1 b2 b3 b4 b5 b6 b7 b8 b9 b10 b11 b12 b13 b14 b15 b16 b17 b18 b19 b20 b21 b22 b23 b24 b25 b26 b27 b28 b29 b30 b31 b32 b33 b34 b35 b36 b37 b38 b39 b40 b41 b42 b43 b44 b45 b46 b47 b48 b49 b50 : Value) (wx : World), Below w.heap.size w wx → Q .normal { tmps := #[(.bool true), b1, b2, b3, b4, b5, b6, b7, b8, b9, b10, b11, b12, b13, b14, b15, b16, b17, b18, b19, b20, b21, b22, b23, b24, b25, b26, b27, b28, b29, b30, b31, b32, b33, b34, b35, b36, b37, b38, b39, b40, b41, b42, b43, b44, b45, b46, b47, b48, b49, b50], defers := [] } wx) (b0 b1 b2 b3 b4 b5 b6 b7 b8 b9 b10 b11 b12 b13 b14 b15 b16 b18 b19 b20 b21 b22 b23 b24 b25 b26 b27 b28 b29 b30 b31 b32 b33 b34 b35 b36 b37 b38 b39 b40 b41 b42 b43 b44 b45 b46 b47 b48 b49 b50 : Value) (v : World) (hv : Below w.heap.size w v) : wpAnyM Tryd.prog .any cfOps Q (fun w' => Below w.heap.size w w') 34 #[true, true, true, true, true, true, true, true, true, true, true, true, true, true, true, true, true, false, false, false, false, false, false, false, false, false, false, false, false, false, false, false, false, false, false, false, false, false, false, false, false, false, false, false, false, false, false, false, false, false, false] { tmps := #[b0, b1, b2, b3, b4, b5, b6, b7, b8, b9, b10, b11, b12, b13, b14, b15, b16, (.bool true), b18, b19, b20, b21, b22, b23, b24, b25, b26, b27, b28, b29, b30, b31, b32, b33, b34, b35, b36, b37, b38, b39, b40, b41, b42, b43, b44, b45, b46, b47, b48, b49, b50], defers := [] } v := by
  have HF : Hid (∀ wx, Below w.heap.size w wx → HasFours wx ∧ 0 < wx.heap.size) := fun wx hx => ⟨fours_keep hf hg hx, Nat.lt_of_lt_of_le hg hx.size⟩
  have EN : Hid (∀ wx, Below w.heap.size w wx → Calls Tryd.prog 7 #[.slice none 0 0] wx fun e w' => ∃ mo mc, e = .returned (.slice mo 4 mc) ∧ HasB w' (.slice mo 4 mc) [0, 0, 0, 0] ∧ Below w.heap.size w w' ∧ Below wx.heap.size wx w') := fun wx hx => (cSeal_fits none 0 0 [] rfl wx (HF.out wx hx).1 (HF.out wx hx).2 (hasB_none wx) (bts_of rfl) (by decide) (fun _ => rfl)).mono (by
    rintro e w' ⟨mo, mc, S, rfl, hS, _, hB, _, _, _, hb⟩
    rw [seal_n] at hS
    subst hS
    exact ⟨mo, mc, rfl, hB, hx.trans (hb.mono hx.size), hb⟩)
  have SM4 : Hid (∀ wx mo mc b fr, HasB wx (.slice mo 4 mc) [0, 0, 0, 0] → wx.heap[b]? = some (.cells #[.int .u8 0, .int .u8 0, .int .u8 0, .int .u8 0] 5 fr) → Calls Tryd.prog 6 #[.slice mo 4 mc, .slice (some ⟨b, 0, none⟩) 4 4] wx fun e w' => e = .returned (.bool true) ∧ w' = wx) := fun wx mo mc b fr hB hc => kSame_calls mo (some ⟨b, 0, none⟩) mc 4 [0, 0, 0, 0] wx hB (hasB_at rfl (fr := fr) hc)
  clear hf
  have HBv : Hid (Below w.heap.size w v) := hv
  have F0 : Hid (∀ wx : World, Below v.heap.size v wx → True) := fun _ _ => trivial
  have HFW : Hid (HasFours w ∧ 0 < w.heap.size) := HF.out w (Below.refl _ _)
  refine ready2M (i := 17) (j := 18) (oi := { dst := Option.some 18, op := Op.call { callee := Callee.value (Operand.func 7), args := #[Operand.const (Value.slice Option.none 0 0)], argTypes := #[25] }, type := 25, pos := "law.go:69", after := #[{ on := 16, ground := Ground.chain }, { on := 16, ground := Ground.guard }], guard := Option.some (16, Bool.true) }) (oj := { dst := Option.some 19, op := Op.makeSlice 25 (Operand.const (Value.int IntKind.i64 4)) (Operand.const (Value.int IntKind.i64 4)), type := 25, pos := "law.go:69", after := #[{ on := 16, ground := Ground.guard }], guard := Option.some (16, Bool.true) }) rfl rfl (by kernel_rfl) ?_ ?_
  · intro u83 hg83 hS83 K hK
    go_simp
    refine (EN.out u83 hS83).mono ?_
    rintro e y83 ⟨mo, mc, rfl, hh, hx9, hy83⟩
    have F83 : Hid (∀ wx, Below y83.heap.size y83 wx → (HasB wx (.slice mo 4 mc) [0, 0, 0, 0]) ∧ (True)) := fun wx hx => ⟨(HasB.keep hh hx), trivial⟩
    have HB83 : Hid (Below w.heap.size w y83) := hx9
    go_wp2_with fail
    refine hK.out _ _ hx9 ?_
    clear hK K hh hx9 hy83 hg83 hS83  
    try simp only [List.setIfInBounds_toArray, List.set_cons_zero, List.set_cons_succ]
    refine readyM (i := 18) (o := { dst := Option.some 19, op := Op.makeSlice 25 (Operand.const (Value.int IntKind.i64 4)) (Operand.const (Value.int IntKind.i64 4)), type := 25, pos := "law.go:69", after := #[{ on := 16, ground := Ground.guard }], guard := Option.some (16, Bool.true) }) rfl (by kernel_rfl) ?_
    intro u85 hg85 hS85 K hK
    obtain ⟨fH85, _⟩ := F83.out u85 hg85
    have km := make_four u85
    go_simp
    clear km
    have hnw := hn1 u85 (.cells #[.int .u8 0, .int .u8 0, .int .u8 0, .int .u8 0] 5)
    have hal : Below u85.heap.size u85 (u85.alloc (.cells #[.int .u8 0, .int .u8 0, .int .u8 0, .int .u8 0] 5)) := (Below.refl _ _).alloc (Nat.le_refl _) _
    have hbb : Below w.heap.size w (u85.alloc (.cells #[.int .u8 0, .int .u8 0, .int .u8 0, .int .u8 0] 5)) := bal hS85 _
    obtain ⟨y, hq85⟩ : ∃ b, u85.heap.size = b := ⟨_, rfl⟩
    have hly : w.heap.size ≤ y := by rw [← hq85]; exact Below.size hS85
    rw [hq85] at hnw ⊢
    generalize u85.alloc (.cells #[.int .u8 0, .int .u8 0, .int .u8 0, .int .u8 0] 5) = y85 at *
    have gH85 := HasB.keep fH85 hal
    have F85 : Hid (∀ wx, Below y85.heap.size y85 wx → (wx.heap[y]? = some (.cells #[.int .u8 0, .int .u8 0, .int .u8 0, .int .u8 0] 5)) ∧ (HasB wx (.slice mo 4 mc) [0, 0, 0, 0]) ∧ (True)) := fun wx hx => ⟨((Below.block hx _ (b_lt_get hnw)).trans hnw), (HasB.keep gH85 hx), trivial⟩
    have HB85 : Hid (Below w.heap.size w y85) := hbb
    refine hK.out _ _ hbb ?_
    clear hK K hnw hal hbb hq85 hg85 hS85 fH85 gH85
    try simp only [List.setIfInBounds_toArray, List.set_cons_zero, List.set_cons_succ]
    refine readyM (i := 19) (o := { dst := Option.some 20, op := Op.call { callee := Callee.value (Operand.func 6), args := #[Operand.tmp 18, Operand.tmp 19], argTypes := #[25, 25] }, type := 4, pos := "law.go:69", after := #[{ on := 17, ground := Ground.data }, { on := 18, ground := Ground.data }, { on := 17, ground := Ground.chain }, { on := 16, ground := Ground.guard }], guard := Option.some (16, Bool.true) }) rfl (by kernel_rfl) ?_
    intro u86 hg86 hS86 K hK
    obtain ⟨fy86, fH86, _⟩ := F85.out u86 hg86
    go_simp
    refine (SM4.out u86 mo mc y (0, 0) fH86 fy86).mono ?_
    rintro e y86 ⟨rfl, hy86⟩
    subst hy86
    have F86 : Hid (∀ wx : World, Below y86.heap.size y86 wx → True) := fun _ _ => trivial
    have HB86 : Hid (Below w.heap.size w y86) := hS86
    go_wp2_with fail
    refine hK.out _ _ hS86 ?_
    clear hK K hg86 hS86 fy86 fH86
    try simp only [List.setIfInBounds_toArray, List.set_cons_zero, List.set_cons_succ]
    refine wpAnyM_take (i := 20) (oi := { dst := Option.some 21, op := Op.pick (Operand.tmp 17) (Operand.tmp 20) (Operand.const (Value.bool Bool.false)), type := 4, pos := "law.go:69", after := #[{ on := 16, ground := Ground.data }, { on := 19, ground := Ground.data }], guard := Option.none }) (v := ?vk87z20) rfl (by kernel_rfl) (by kernel_rfl) (by kernel_rfl) (fun c a w h => hQP c a _ _ w h) (YieldsM.of_if (Or.inl ⟨by rfl, ?hk87z20⟩)) ?rk87z20
    case hk87z20 => ((intro wz hSw; (try dsimp only at hSw); go_simp); try (with_reducible rfl))
    try simp only [Act.put, List.setIfInBounds_toArray, List.set_cons_zero, List.set_cons_succ]
    refine cast_list (l' := #[true, true, true, true, true, true, true, true, true, true, true, true, true, true, true, true, true, true, true, true, true, false, false, false, false, false, false, false, false, false, false, false, false, false, false, false, false, false, false, false, false, false, false, false, false, false, false, false, false, false, false]) (by kernel_rfl) ?_
    exact cfC w HFW.out.1 HFW.out.2 hQP hQ _ _ _ _ _ _ _ _ _ _ _ _ _ _ _ _ _ _ _ _ _ _ _ _ _ _ _ _ _ _ _ _ _ _ _ _ _ _ _ _ _ _ _ _ _ _ _ _ _ _ _ HB86.out
  · intro u84 hg84 hS84 K hK
    have km := make_four u84
    go_simp
    clear km
    have hnw := hn1 u84 (.cells #[.int .u8 0, .int .u8 0, .int .u8 0, .int .u8 0] 5)
    have hal : Below u84.heap.size u84 (u84.alloc (.cells #[.int .u8 0, .int .u8 0, .int .u8 0, .int .u8 0] 5)) := (Below.refl _ _).alloc (Nat.le_refl _) _
    have hbb : Below w.heap.size w (u84.alloc (.cells #[.int .u8 0, .int .u8 0, .int .u8 0, .int .u8 0] 5)) := bal hS84 _
    obtain ⟨y, hq84⟩ : ∃ b, u84.heap.size = b := ⟨_, rfl⟩
    have hly : w.heap.size ≤ y := by rw [← hq84]; exact Below.size hS84
    rw [hq84] at hnw ⊢
    generalize u84.alloc (.cells #[.int .u8 0, .int .u8 0, .int .u8 0, .int .u8 0] 5) = y84 at *
    have F84 : Hid (∀ wx, Below y84.heap.size y84 wx → (wx.heap[y]? = some (.cells #[.int .u8 0, .int .u8 0, .int .u8 0, .int .u8 0] 5)) ∧ (True)) := fun wx hx => ⟨((Below.block hx _ (b_lt_get hnw)).trans hnw), trivial⟩
    have HB84 : Hid (Below w.heap.size w y84) := hbb
    refine hK.out _ _ hbb ?_
    clear hK K hnw hal hbb hq84 hg84 hS84  
    try simp only [List.setIfInBounds_toArray, List.set_cons_zero, List.set_cons_succ]
    refine readyM (i := 17) (o := { dst := Option.some 18, op := Op.call { callee := Callee.value (Operand.func 7), args := #[Operand.const (Value.slice Option.none 0 0)], argTypes := #[25] }, type := 25, pos := "law.go:69", after := #[{ on := 16, ground := Ground.chain }, { on := 16, ground := Ground.guard }], guard := Option.some (16, Bool.true) }) rfl (by kernel_rfl) ?_
    intro u88 hg88 hS88 K hK
    obtain ⟨fy88, _⟩ := F84.out u88 hg88
    go_simp
    refine (EN.out u88 hS88).mono ?_
    rintro e y88 ⟨mo, mc, rfl, hh, hx9, hy88⟩
    have gy88 := (Below.block hy88 _ (b_lt_get fy88)).trans fy88
    have F88 : Hid (∀ wx, Below y88.heap.size y88 wx → (wx.heap[y]? = some (.cells #[.int .u8 0, .int .u8 0, .int .u8 0, .int .u8 0] 5)) ∧ (HasB wx (.slice mo 4 mc) [0, 0, 0, 0]) ∧ (True)) := fun wx hx => ⟨((Below.block hx _ (b_lt_get gy88)).trans gy88), (HasB.keep hh hx), trivial⟩
    have HB88 : Hid (Below w.heap.size w y88) := hx9
    go_wp2_with fail
    refine hK.out _ _ hx9 ?_
    clear hK K hh hx9 hy88 hg88 hS88 fy88 gy88
    try simp only [List.setIfInBounds_toArray, List.set_cons_zero, List.set_cons_succ]
    refine readyM (i := 19) (o := { dst := Option.some 20, op := Op.call { callee := Callee.value (Operand.func 6), args := #[Operand.tmp 18, Operand.tmp 19], argTypes := #[25, 25] }, type := 4, pos := "law.go:69", after := #[{ on := 17, ground := Ground.data }, { on := 18, ground := Ground.data }, { on := 17, ground := Ground.chain }, { on := 16, ground := Ground.guard }], guard := Option.some (16, Bool.true) }) rfl (by kernel_rfl) ?_
    intro u89 hg89 hS89 K hK
    obtain ⟨fy89, fH89, _⟩ := F88.out u89 hg89
    go_simp
    refine (SM4.out u89 mo mc y (0, 0) fH89 fy89).mono ?_
    rintro e y89 ⟨rfl, hy89⟩
    subst hy89
    have F89 : Hid (∀ wx : World, Below y89.heap.size y89 wx → True) := fun _ _ => trivial
    have HB89 : Hid (Below w.heap.size w y89) := hS89
    go_wp2_with fail
    refine hK.out _ _ hS89 ?_
    clear hK K hg89 hS89 fy89 fH89
    try simp only [List.setIfInBounds_toArray, List.set_cons_zero, List.set_cons_succ]
    refine wpAnyM_take (i := 20) (oi := { dst := Option.some 21, op := Op.pick (Operand.tmp 17) (Operand.tmp 20) (Operand.const (Value.bool Bool.false)), type := 4, pos := "law.go:69", after := #[{ on := 16, ground := Ground.data }, { on := 19, ground := Ground.data }], guard := Option.none }) (v := ?vk90z20) rfl (by kernel_rfl) (by kernel_rfl) (by kernel_rfl) (fun c a w h => hQP c a _ _ w h) (YieldsM.of_if (Or.inl ⟨by rfl, ?hk90z20⟩)) ?rk90z20
    case hk90z20 => ((intro wz hSw; (try dsimp only at hSw); go_simp); try (with_reducible rfl))
    try simp only [Act.put, List.setIfInBounds_toArray, List.set_cons_zero, List.set_cons_succ]
    refine cast_list (l' := #[true, true, true, true, true, true, true, true, true, true, true, true, true, true, true, true, true, true, true, true, true, false, false, false, false, false, false, false, false, false, false, false, false, false, false, false, false, false, false, false, false, false, false, false, false, false, false, false, false, false, false]) (by kernel_rfl) ?_
    exact cfC w HFW.out.1 HFW.out.2 hQP hQ _ _ _ _ _ _ _ _ _ _ _ _ _ _ _ _ _ _ _ _ _ _ _ _ _ _ _ _ _ _ _ _ _ _ _ _ _ _ _ _ _ _ _ _ _ _ _ _ _ _ _ HB89.out

set_option maxRecDepth 100000 in
set_option maxHeartbeats 8000000 in
theorem cfA (w : World) (hf : HasFours w) (hg : 0 < w.heap.size) {Q : Exit → Act → World → Prop} (hQP : ∀ c (a : Act) d v w, Q (.panic c) (a.put d v) w → Q (.panic c) a w) (hQ : ∀ (b1 b2 b3 b4 b5 b6 b7 b8 b9 b10 b11 b12 b13 b14 b15 b16 b17 b18 b19 b20 b21 b22 b23 b24 b25 b26 b27 b28 b29 b30 b31 b32 b33 b34 b35 b36 b37 b38 b39 b40 b41 b42 b43 b44 b45 b46 b47 b48 b49 b50 : Value) (wx : World), Below w.heap.size w wx → Q .normal { tmps := #[(.bool true), b1, b2, b3, b4, b5, b6, b7, b8, b9, b10, b11, b12, b13, b14, b15, b16, b17, b18, b19, b20, b21, b22, b23, b24, b25, b26, b27, b28, b29, b30, b31, b32, b33, b34, b35, b36, b37, b38, b39, b40, b41, b42, b43, b44, b45, b46, b47, b48, b49, b50], defers := [] } wx) (b0 b1 b2 b3 b4 b5 b6 b7 b8 b9 b10 b11 b12 b13 b14 b15 b16 b17 b18 b19 b20 b21 b22 b23 b24 b25 b26 b27 b28 b29 b30 b31 b32 b33 b34 b35 b36 b37 b38 b39 b40 b41 b42 b43 b44 b45 b46 b47 b48 b49 b50 : Value) (v : World) (hv : Below w.heap.size w v) : wpAnyM Tryd.prog .any cfOps Q (fun w' => Below w.heap.size w w') 51 (Array.replicate cfOps.size false) { tmps := #[b0, b1, b2, b3, b4, b5, b6, b7, b8, b9, b10, b11, b12, b13, b14, b15, b16, b17, b18, b19, b20, b21, b22, b23, b24, b25, b26, b27, b28, b29, b30, b31, b32, b33, b34, b35, b36, b37, b38, b39, b40, b41, b42, b43, b44, b45, b46, b47, b48, b49, b50], defers := [] } v := by
  have HF : Hid (∀ wx, Below w.heap.size w wx → HasFours wx ∧ 0 < wx.heap.size) := fun wx hx => ⟨fours_keep hf hg hx, Nat.lt_of_lt_of_le hg hx.size⟩
  have HAW : Hid (∀ wx, Below w.heap.size w wx → Calls Tryd.prog 4 #[] wx fun e w' => e = .returned (.bool true) ∧ Below w.heap.size w w') := fun wx hx => (awake17_calls wx (HF.out wx hx).1 (HF.out wx hx).2).mono (by rintro e w' ⟨rfl, hb⟩; exact ⟨rfl, hx.trans (hb.mono hx.size)⟩)
  have SN : Hid (∀ wx, Below w.heap.size w wx → Calls Tryd.prog 5 #[.slice none 0 0] wx fun e w' => e = .returned (.int .u32 0) ∧ w' = wx) := fun wx hx => cSum_calls none 0 [] wx (HF.out wx hx).1 (hasB_none wx) (bts_of rfl) (by decide)
  have SA : Hid (∀ wx b fr, Below w.heap.size w wx → wx.heap[b]? = some (.cells #[.int .u8 97] 5 fr) → Calls Tryd.prog 5 #[.slice (some ⟨b, 0, none⟩) 1 1] wx fun e w' => e = .returned (.int .u32 3904355907) ∧ w' = wx) := fun wx b fr hx hc => by
    have g := cSum_calls (some ⟨b, 0, none⟩) 1 [97] wx (HF.out wx hx).1 (hasB_at rfl (fr := fr) hc) (bts_of rfl) (by decide)
    rw [upd_a] at g
    exact g
  have SZ : Hid (∀ wx b fr, Below w.heap.size w wx → wx.heap[b]? = some (.cells #[.int .u8 0, .int .u8 0, .int .u8 0, .int .u8 0] 5 fr) → Calls Tryd.prog 5 #[.slice (some ⟨b, 0, none⟩) 4 4] wx fun e w' => e = .returned (.int .u32 558161692) ∧ w' = wx) := fun wx b fr hx hc => by
    have g := cSum_calls (some ⟨b, 0, none⟩) 4 [0, 0, 0, 0] wx (HF.out wx hx).1 (hasB_at rfl (fr := fr) hc) (bts_of rfl) (by decide)
    rw [upd_z] at g
    exact g
  clear hf
  have HBv : Hid (Below w.heap.size w v) := hv
  have F0 : Hid (∀ wx : World, Below v.heap.size v wx → True) := fun _ _ => trivial
  have HFW : Hid (HasFours w ∧ 0 < w.heap.size) := HF.out w (Below.refl _ _)
  refine readyM (i := 0) (o := { dst := Option.some 1, op := Op.call { callee := Callee.value (Operand.func 4), args := #[], argTypes := #[] }, type := 4, pos := "law.go:69", after := #[], guard := Option.none }) rfl (by kernel_rfl) ?_
  intro u91 hg91 hS91 K hK
  go_simp
  refine (HAW.out u91 hS91).mono ?_
  rintro e y91 ⟨rfl, hy91⟩
  have F91 : Hid (∀ wx : World, Below y91.heap.size y91 wx → True) := fun _ _ => trivial
  have HB91 : Hid (Below w.heap.size w y91) := hy91
  go_wp2_with fail
  refine hK.out _ _ hy91 ?_
  clear hK K hg91 hS91 hy91 
  try simp only [List.setIfInBounds_toArray, List.set_cons_zero, List.set_cons_succ]
  refine wpAnyM_take (i := 1) (oi := { dst := Option.some 2, op := Op.move (Operand.tmp 1), type := 4, pos := "law.go:69", after := #[{ on := 0, ground := Ground.data }, { on := 0, ground := Ground.chain }], guard := Option.none }) (v := ?vk92z1) rfl (by kernel_rfl) (by kernel_rfl) (by kernel_rfl) (fun c a w h => hQP c a _ _ w h) (YieldsM.of_if (Or.inl ⟨by rfl, ?hk92z1⟩)) ?rk92z1
  case hk92z1 => ((intro wz hSw; (try dsimp only at hSw); go_simp); try (with_reducible rfl))
  try simp only [Act.put, List.setIfInBounds_toArray, List.set_cons_zero, List.set_cons_succ]
  refine readyM (i := 2) (o := { dst := Option.some 3, op := Op.call { callee := Callee.value (Operand.func 5), args := #[Operand.const (Value.slice Option.none 0 0)], argTypes := #[25] }, type := 23, pos := "law.go:69", after := #[{ on := 1, ground := Ground.chain }, { on := 1, ground := Ground.guard }], guard := Option.some (1, Bool.true) }) rfl (by kernel_rfl) ?_
  intro u93 hg93 hS93 K hK
  go_simp
  refine (SN.out u93 hS93).mono ?_
  rintro e y93 ⟨rfl, hy93⟩
  subst hy93
  have F93 : Hid (∀ wx : World, Below y93.heap.size y93 wx → True) := fun _ _ => trivial
  have HB93 : Hid (Below w.heap.size w y93) := hS93
  go_wp2_with fail
  refine hK.out _ _ hS93 ?_
  clear hK K hg93 hS93 
  try simp only [List.setIfInBounds_toArray, List.set_cons_zero, List.set_cons_succ]
  refine wpAnyM_take (i := 3) (oi := { dst := Option.some 4, op := Op.binOp BinOp.eql 23 (Operand.tmp 3) (Operand.const (Value.int IntKind.u32 0)) 23, type := 4, pos := "law.go:69", after := #[{ on := 2, ground := Ground.data }, { on := 1, ground := Ground.guard }], guard := Option.some (1, Bool.true) }) (v := ?vk94z3) rfl (by kernel_rfl) (by kernel_rfl) (by kernel_rfl) (fun c a w h => hQP c a _ _ w h) (YieldsM.of_if (Or.inl ⟨by rfl, ?hk94z3⟩)) ?rk94z3
  case hk94z3 => ((intro wz hSw; (try dsimp only at hSw); go_simp); try (with_reducible rfl))
  try simp only [Act.put, List.setIfInBounds_toArray, List.set_cons_zero, List.set_cons_succ]
  refine wpAnyM_take (i := 4) (oi := { dst := Option.some 5, op := Op.pick (Operand.tmp 2) (Operand.tmp 4) (Operand.const (Value.bool Bool.false)), type := 4, pos := "law.go:69", after := #[{ on := 1, ground := Ground.data }, { on := 3, ground := Ground.data }], guard := Option.none }) (v := ?vk95z4) rfl (by kernel_rfl) (by kernel_rfl) (by kernel_rfl) (fun c a w h => hQP c a _ _ w h) (YieldsM.of_if (Or.inl ⟨by rfl, ?hk95z4⟩)) ?rk95z4
  case hk95z4 => ((intro wz hSw; (try dsimp only at hSw); go_simp); try (with_reducible rfl))
  try simp only [Act.put, List.setIfInBounds_toArray, List.set_cons_zero, List.set_cons_succ]
  refine wpAnyM_take (i := 5) (oi := { dst := Option.some 6, op := Op.move (Operand.tmp 5), type := 4, pos := "law.go:69", after := #[{ on := 4, ground := Ground.data }, { on := 2, ground := Ground.chain }], guard := Option.none }) (v := ?vk96z5) rfl (by kernel_rfl) (by kernel_rfl) (by kernel_rfl) (fun c a w h => hQP c a _ _ w h) (YieldsM.of_if (Or.inl ⟨by rfl, ?hk96z5⟩)) ?rk96z5
  case hk96z5 => ((intro wz hSw; (try dsimp only at hSw); go_simp); try (with_reducible rfl))
  try simp only [Act.put, List.setIfInBounds_toArray, List.set_cons_zero, List.set_cons_succ]
  refine readyM (i := 6) (o := { dst := Option.some 7, op := Op.buildSlice 25 1 #[(0, Operand.const (Value.int IntKind.u8 97))], type := 25, pos := "law.go:69", after := #[{ on := 5, ground := Ground.guard }], guard := Option.some (5, Bool.true) }) rfl (by kernel_rfl) ?_
  intro u97 hg97 hS97 K hK
  have km := bld1
  go_simp
  clear km
  have hnw := hn1 u97 (.cells #[.int .u8 97] 5)
  have hal : Below u97.heap.size u97 (u97.alloc (.cells #[.int .u8 97] 5)) := (Below.refl _ _).alloc (Nat.le_refl _) _
  have hbb : Below w.heap.size w (u97.alloc (.cells #[.int .u8 97] 5)) := bal hS97 _
  obtain ⟨x, hq97⟩ : ∃ b, u97.heap.size = b := ⟨_, rfl⟩
  have hlx : w.heap.size ≤ x := by rw [← hq97]; exact Below.size hS97
  rw [hq97] at hnw ⊢
  generalize u97.alloc (.cells #[.int .u8 97] 5) = y97 at *
  have F97 : Hid (∀ wx, Below y97.heap.size y97 wx → (wx.heap[x]? = some (.cells #[.int .u8 97] 5)) ∧ (True)) := fun wx hx => ⟨((Below.block hx _ (b_lt_get hnw)).trans hnw), trivial⟩
  have HB97 : Hid (Below w.heap.size w y97) := hbb
  refine hK.out _ _ hbb ?_
  clear hK K hnw hal hbb hq97 hg97 hS97  
  try simp only [List.setIfInBounds_toArray, List.set_cons_zero, List.set_cons_succ]
  refine readyM (i := 7) (o := { dst := Option.some 8, op := Op.convert 25 25 (Operand.tmp 7), type := 25, pos := "law.go:69", after := #[{ on := 6, ground := Ground.data }, { on := 5, ground := Ground.guard }], guard := Option.some (5, Bool.true) }) rfl (by kernel_rfl) ?_
  intro u98 hg98 hS98 K hK
  obtain ⟨fx98, _⟩ := F97.out u98 hg98
  have kv := conv_at fx98 1 1
  go_simp
  clear kv
  obtain ⟨z1, z2, z3⟩ := freeze_at fx98 hS98 hlx (k := 1)
  generalize (u98.freeze ⟨x, 1, none⟩ 1) = y98 at *
  have F98 : Hid (∀ wx, Below y98.heap.size y98 wx → (wx.heap[x]? = some (.cells #[.int .u8 97] 5 (1, 2))) ∧ (True)) := fun wx hx => ⟨((Below.block hx _ (b_lt_get z1)).trans z1), trivial⟩
  have HB98 : Hid (Below w.heap.size w y98) := z3
  refine hK.out _ _ z3 ?_
  clear hK K z1 z2 z3 hg98 hS98 fx98 
  try simp only [List.setIfInBounds_toArray, List.set_cons_zero, List.set_cons_succ]
  refine readyM (i := 8) (o := { dst := Option.some 9, op := Op.call { callee := Callee.value (Operand.func 5), args := #[Operand.tmp 8], argTypes := #[25] }, type := 23, pos := "law.go:69", after := #[{ on := 7, ground := Ground.data }, { on := 5, ground := Ground.chain }, { on := 5, ground := Ground.guard }], guard := Option.some (5, Bool.true) }) rfl (by kernel_rfl) ?_
  intro u99 hg99 hS99 K hK
  obtain ⟨fx99, _⟩ := F98.out u99 hg99
  go_simp
  refine (SA.out u99 x (1, 2) hS99 fx99).mono ?_
  rintro e y99 ⟨rfl, hy99⟩
  subst hy99
  have F99 : Hid (∀ wx : World, Below y99.heap.size y99 wx → True) := fun _ _ => trivial
  have HB99 : Hid (Below w.heap.size w y99) := hS99
  go_wp2_with fail
  refine hK.out _ _ hS99 ?_
  clear hK K hg99 hS99 fx99
  try simp only [List.setIfInBounds_toArray, List.set_cons_zero, List.set_cons_succ]
  refine wpAnyM_take (i := 9) (oi := { dst := Option.some 10, op := Op.binOp BinOp.eql 23 (Operand.tmp 9) (Operand.const (Value.int IntKind.u32 3904355907)) 23, type := 4, pos := "law.go:69", after := #[{ on := 8, ground := Ground.data }, { on := 5, ground := Ground.guard }], guard := Option.some (5, Bool.true) }) (v := ?vk100z9) rfl (by kernel_rfl) (by kernel_rfl) (by kernel_rfl) (fun c a w h => hQP c a _ _ w h) (YieldsM.of_if (Or.inl ⟨by rfl, ?hk100z9⟩)) ?rk100z9
  case hk100z9 => ((intro wz hSw; (try dsimp only at hSw); go_simp); try (with_reducible rfl))
  try simp only [Act.put, List.setIfInBounds_toArray, List.set_cons_zero, List.set_cons_succ]
  refine wpAnyM_take (i := 10) (oi := { dst := Option.some 11, op := Op.pick (Operand.tmp 6) (Operand.tmp 10) (Operand.const (Value.bool Bool.false)), type := 4, pos := "law.go:69", after := #[{ on := 5, ground := Ground.data }, { on := 9, ground := Ground.data }], guard := Option.none }) (v := ?vk101z10) rfl (by kernel_rfl) (by kernel_rfl) (by kernel_rfl) (fun c a w h => hQP c a _ _ w h) (YieldsM.of_if (Or.inl ⟨by rfl, ?hk101z10⟩)) ?rk101z10
  case hk101z10 => ((intro wz hSw; (try dsimp only at hSw); go_simp); try (with_reducible rfl))
  try simp only [Act.put, List.setIfInBounds_toArray, List.set_cons_zero, List.set_cons_succ]
  refine wpAnyM_take (i := 11) (oi := { dst := Option.some 12, op := Op.move (Operand.tmp 11), type := 4, pos := "law.go:69", after := #[{ on := 10, ground := Ground.data }, { on := 8, ground := Ground.chain }], guard := Option.none }) (v := ?vk102z11) rfl (by kernel_rfl) (by kernel_rfl) (by kernel_rfl) (fun c a w h => hQP c a _ _ w h) (YieldsM.of_if (Or.inl ⟨by rfl, ?hk102z11⟩)) ?rk102z11
  case hk102z11 => ((intro wz hSw; (try dsimp only at hSw); go_simp); try (with_reducible rfl))
  try simp only [Act.put, List.setIfInBounds_toArray, List.set_cons_zero, List.set_cons_succ]
  refine readyM (i := 12) (o := { dst := Option.some 13, op := Op.makeSlice 25 (Operand.const (Value.int IntKind.i64 4)) (Operand.const (Value.int IntKind.i64 4)), type := 25, pos := "law.go:69", after := #[{ on := 11, ground := Ground.guard }], guard := Option.some (11, Bool.true) }) rfl (by kernel_rfl) ?_
  intro u103 hg103 hS103 K hK
  have km := make_four u103
  go_simp
  clear km
  have hnw := hn1 u103 (.cells #[.int .u8 0, .int .u8 0, .int .u8 0, .int .u8 0] 5)
  have hal : Below u103.heap.size u103 (u103.alloc (.cells #[.int .u8 0, .int .u8 0, .int .u8 0, .int .u8 0] 5)) := (Below.refl _ _).alloc (Nat.le_refl _) _
  have hbb : Below w.heap.size w (u103.alloc (.cells #[.int .u8 0, .int .u8 0, .int .u8 0, .int .u8 0] 5)) := bal hS103 _
  obtain ⟨x, hq103⟩ : ∃ b, u103.heap.size = b := ⟨_, rfl⟩
  have hlx : w.heap.size ≤ x := by rw [← hq103]; exact Below.size hS103
  rw [hq103] at hnw ⊢
  generalize u103.alloc (.cells #[.int .u8 0, .int .u8 0, .int .u8 0, .int .u8 0] 5) = y103 at *
  have F103 : Hid (∀ wx, Below y103.heap.size y103 wx → (wx.heap[x]? = some (.cells #[.int .u8 0, .int .u8 0, .int .u8 0, .int .u8 0] 5)) ∧ (True)) := fun wx hx => ⟨((Below.block hx _ (b_lt_get hnw)).trans hnw), trivial⟩
  have HB103 : Hid (Below w.heap.size w y103) := hbb
  refine hK.out _ _ hbb ?_
  clear hK K hnw hal hbb hq103 hg103 hS103  
  try simp only [List.setIfInBounds_toArray, List.set_cons_zero, List.set_cons_succ]
  refine readyM (i := 13) (o := { dst := Option.some 14, op := Op.call { callee := Callee.value (Operand.func 5), args := #[Operand.tmp 13], argTypes := #[25] }, type := 23, pos := "law.go:69", after := #[{ on := 12, ground := Ground.data }, { on := 11, ground := Ground.chain }, { on := 11, ground := Ground.guard }], guard := Option.some (11, Bool.true) }) rfl (by kernel_rfl) ?_
  intro u104 hg104 hS104 K hK
  obtain ⟨fx104, _⟩ := F103.out u104 hg104
  go_simp
  refine (SZ.out u104 x (0, 0) hS104 fx104).mono ?_
  rintro e y104 ⟨rfl, hy104⟩
  subst hy104
  have F104 : Hid (∀ wx : World, Below y104.heap.size y104 wx → True) := fun _ _ => trivial
  have HB104 : Hid (Below w.heap.size w y104) := hS104
  go_wp2_with fail
  refine hK.out _ _ hS104 ?_
  clear hK K hg104 hS104 fx104
  try simp only [List.setIfInBounds_toArray, List.set_cons_zero, List.set_cons_succ]
  refine wpAnyM_take (i := 14) (oi := { dst := Option.some 15, op := Op.binOp BinOp.eql 23 (Operand.tmp 14) (Operand.const (Value.int IntKind.u32 558161692)) 23, type := 4, pos := "law.go:69", after := #[{ on := 13, ground := Ground.data }, { on := 11, ground := Ground.guard }], guard := Option.some (11, Bool.true) }) (v := ?vk105z14) rfl (by kernel_rfl) (by kernel_rfl) (by kernel_rfl) (fun c a w h => hQP c a _ _ w h) (YieldsM.of_if (Or.inl ⟨by rfl, ?hk105z14⟩)) ?rk105z14
  case hk105z14 => ((intro wz hSw; (try dsimp only at hSw); go_simp); try (with_reducible rfl))
  try simp only [Act.put, List.setIfInBounds_toArray, List.set_cons_zero, List.set_cons_succ]
  refine wpAnyM_take (i := 15) (oi := { dst := Option.some 16, op := Op.pick (Operand.tmp 12) (Operand.tmp 15) (Operand.const (Value.bool Bool.false)), type := 4, pos := "law.go:69", after := #[{ on := 11, ground := Ground.data }, { on := 14, ground := Ground.data }], guard := Option.none }) (v := ?vk106z15) rfl (by kernel_rfl) (by kernel_rfl) (by kernel_rfl) (fun c a w h => hQP c a _ _ w h) (YieldsM.of_if (Or.inl ⟨by rfl, ?hk106z15⟩)) ?rk106z15
  case hk106z15 => ((intro wz hSw; (try dsimp only at hSw); go_simp); try (with_reducible rfl))
  try simp only [Act.put, List.setIfInBounds_toArray, List.set_cons_zero, List.set_cons_succ]
  refine wpAnyM_take (i := 16) (oi := { dst := Option.some 17, op := Op.move (Operand.tmp 16), type := 4, pos := "law.go:69", after := #[{ on := 15, ground := Ground.data }, { on := 13, ground := Ground.chain }], guard := Option.none }) (v := ?vk107z16) rfl (by kernel_rfl) (by kernel_rfl) (by kernel_rfl) (fun c a w h => hQP c a _ _ w h) (YieldsM.of_if (Or.inl ⟨by rfl, ?hk107z16⟩)) ?rk107z16
  case hk107z16 => ((intro wz hSw; (try dsimp only at hSw); go_simp); try (with_reducible rfl))
  try simp only [Act.put, List.setIfInBounds_toArray, List.set_cons_zero, List.set_cons_succ]
  refine cast_list (l' := #[true, true, true, true, true, true, true, true, true, true, true, true, true, true, true, true, true, false, false, false, false, false, false, false, false, false, false, false, false, false, false, false, false, false, false, false, false, false, false, false, false, false, false, false, false, false, false, false, false, false, false]) (by kernel_rfl) ?_
  exact cfB w HFW.out.1 HFW.out.2 hQP hQ _ _ _ _ _ _ _ _ _ _ _ _ _ _ _ _ _ _ _ _ _ _ _ _ _ _ _ _ _ _ _ _ _ _ _ _ _ _ _ _ _ _ _ _ _ _ _ _ _ _ _ HB104.out
end Go.Proofs.YtjjfnioplddppaaDoor
