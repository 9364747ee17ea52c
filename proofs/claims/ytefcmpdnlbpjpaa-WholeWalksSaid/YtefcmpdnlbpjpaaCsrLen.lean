/- csr's checkLengths, whatever the arrays. -/
import Derived.Test.YtefcmpdnlbpjpaaCsrOps
import Derived.Deep.QuietTactic
import Derived.BigQuiet
namespace Go.Proofs.Ytefcmpdnlbpjpaa
open Go.RowKit Go.Extern

attribute [local go_sem] Oper.semAt_some

set_option maxHeartbeats 1000000 in
theorem nodes_any (fo to wo : Option Addr) (n fc tl tc wl wc : Nat) (hn : n < 9223372036854775807) (w : World) : Calls Try.prog 62 #[.agg #[.slice fo (n + 1) fc, .slice to tl tc, .slice wo wl wc]] w fun e w' => e = .returned (.int .i64 n) ∧ Below w.heap.size w w' := by
  have HB : Hid (Below w.heap.size w (w.alloc (.cells #[.slice fo (n + 1) fc, .slice to tl tc, .slice wo wl wc] 27))) := (Below.refl _ w).alloc (Nat.le_refl _) _
  have hw : IntKind.i64.wrap (((n + 1 : Nat) : Int) - 1) = (n : Int) := by rw [IntKind.wrap_i64] <;> omega
  go_enter Try.func62, Try.ntmps62
  go_wp2
  go_ret
  exact ⟨rfl, HB.out⟩

set_option maxRecDepth 100000 in
set_option maxHeartbeats 2000000 in
theorem len_b (fb fof : Nat) (to wo : Option Addr) (n fc m tc k wc : Nat) (x y : Int) (w : World) (h0 : w.cell? ⟨fb, fof, none⟩ = some (.int .i64 x)) (hn : w.cell? ⟨fb, fof + n, none⟩ = some (.int .i64 y)) (lf : fb < w.heap.size) (hN : n < maxLen) (hx : x ≠ 0) :
    Calls Try.prog 61 #[.agg #[.slice (some ⟨fb, fof, none⟩) (n + 1) fc, .slice to m tc, .slice wo k wc]] w fun e w' => e = .returned (.iface 59 (.int .i64 14)) ∧ Below w.heap.size w w' := by
  unfold maxLen at hN
  have HB : Hid (Below w.heap.size w (w.alloc (.cells #[.slice (some ⟨fb, fof, none⟩) (n + 1) fc, .slice to m tc, .slice wo k wc] 27))) := (Below.refl _ w).alloc (Nat.le_refl _) _
  have HBX : Hid ((w.alloc (.cells #[.slice (some ⟨fb, fof, none⟩) (n + 1) fc, .slice to m tc, .slice wo k wc] 27)).heap[w.heap.size]? = some (.cells #[.slice (some ⟨fb, fof, none⟩) (n + 1) fc, .slice to m tc, .slice wo k wc] 27)) := heap_new _ _
  have HK : Hid (∀ wx, Below (w.heap.size + 1) (w.alloc (.cells #[.slice (some ⟨fb, fof, none⟩) (n + 1) fc, .slice to m tc, .slice wo k wc] 27)) wx → wx.cell? ⟨fb, fof, none⟩ = some (.int .i64 x) ∧ wx.cell? ⟨fb, fof + n, none⟩ = some (.int .i64 y) ∧ wx.cell? ⟨w.heap.size, 0, none⟩ = some (.slice (some ⟨fb, fof, none⟩) (n + 1) fc) ∧ wx.cell? ⟨w.heap.size, 1, none⟩ = some (.slice to m tc) ∧ wx.cell? ⟨w.heap.size, 2, none⟩ = some (.slice wo k wc) ∧ fb < wx.heap.size ∧ w.heap.size < wx.heap.size ∧ Below w.heap.size w wx) := fun wx h => by
    have hb : Below w.heap.size w wx := HB.out.trans (h.mono (by omega))
    have hbx : wx.heap[w.heap.size]? = some _ := (h.block _ (by omega)).trans HBX.out
    obtain ⟨c0, c1, c2⟩ := box3 hbx
    exact ⟨(hb.cell (p := ⟨fb, fof, none⟩) lf).trans h0, (hb.cell (p := ⟨fb, _, none⟩) lf).trans hn, c0, c1, c2, Nat.lt_of_lt_of_le lf hb.size, lt_of_get hbx, hb⟩
  have HNC : Hid (∀ wx, Calls Try.prog 62 #[.agg #[.slice (some ⟨fb, fof, none⟩) (n + 1) fc, .slice to m tc, .slice wo k wc]] wx fun e w' => e = .returned (.int .i64 n) ∧ Below wx.heap.size wx w') := fun wx => nodes_any _ to wo n fc m tc k wc (by omega) wx
  clear h0 hn
  go_enter Try.func61, Try.ntmps61
  go_wp2_with fail
  obtain ⟨q0, q1, q2, q3, q4, q5, q6, _⟩ := HK.out _ (Below.refl _ _)
  have HN0 : Hid (Below (w.heap.size + 1) (w.alloc (.cells #[.slice (some ⟨fb, fof, none⟩) (n + 1) fc, .slice to m tc, .slice wo k wc] 27)) (w.alloc (.cells #[.slice (some ⟨fb, fof, none⟩) (n + 1) fc, .slice to m tc, .slice wo k wc] 27))) := Below.refl _ _
  generalize w.alloc (.cells #[.slice (some ⟨fb, fof, none⟩) (n + 1) fc, .slice to m tc, .slice wo k wc] 27) = W0 at *
  have e1 : (n : Int) < ((n + 1 : Nat) : Int) := by omega
  have e3 : (n : Int) < (n : Int) + 1 := by omega
  have e4 : (0 : Int) ≤ (n : Int) := by omega
  have e5 : ¬ (n : Int) + 1 = 0 := by omega
  have e6 : ((n : Int) + 1 == 0) = false := beq_eq_false_iff_ne.mpr e5
  have e2 : IntKind.i64.wrap (n : Int) = (n : Int) := by rw [IntKind.wrap_i64] <;> omega
  have hx2 : (x == 0) = false := beq_eq_false_iff_ne.mpr hx
  have HBW : Hid (∀ q, Below w.heap.size w (W0.drewN q)) := fun q => ⟨HB.out.os, HB.out.tape, HB.out.output, HB.out.size, HB.out.block⟩
  go_quiet (fail)
  go_wp2
  go_ret
  exact ⟨rfl, HBW.out _⟩

set_option maxRecDepth 100000 in
set_option maxHeartbeats 2000000 in
theorem len_c (fb fof : Nat) (to wo : Option Addr) (n fc m tc k wc : Nat) (y : Int) (w : World) (h0 : w.cell? ⟨fb, fof, none⟩ = some (.int .i64 0)) (hn : w.cell? ⟨fb, fof + n, none⟩ = some (.int .i64 y)) (lf : fb < w.heap.size) (hN : n < maxLen) (hy : y ≠ (m : Int)) :
    Calls Try.prog 61 #[.agg #[.slice (some ⟨fb, fof, none⟩) (n + 1) fc, .slice to m tc, .slice wo k wc]] w fun e w' => e = .returned (.iface 59 (.int .i64 14)) ∧ Below w.heap.size w w' := by
  unfold maxLen at hN
  have HB : Hid (Below w.heap.size w (w.alloc (.cells #[.slice (some ⟨fb, fof, none⟩) (n + 1) fc, .slice to m tc, .slice wo k wc] 27))) := (Below.refl _ w).alloc (Nat.le_refl _) _
  have HBX : Hid ((w.alloc (.cells #[.slice (some ⟨fb, fof, none⟩) (n + 1) fc, .slice to m tc, .slice wo k wc] 27)).heap[w.heap.size]? = some (.cells #[.slice (some ⟨fb, fof, none⟩) (n + 1) fc, .slice to m tc, .slice wo k wc] 27)) := heap_new _ _
  have HK : Hid (∀ wx, Below (w.heap.size + 1) (w.alloc (.cells #[.slice (some ⟨fb, fof, none⟩) (n + 1) fc, .slice to m tc, .slice wo k wc] 27)) wx → wx.cell? ⟨fb, fof, none⟩ = some (.int .i64 0) ∧ wx.cell? ⟨fb, fof + n, none⟩ = some (.int .i64 y) ∧ wx.cell? ⟨w.heap.size, 0, none⟩ = some (.slice (some ⟨fb, fof, none⟩) (n + 1) fc) ∧ wx.cell? ⟨w.heap.size, 1, none⟩ = some (.slice to m tc) ∧ wx.cell? ⟨w.heap.size, 2, none⟩ = some (.slice wo k wc) ∧ fb < wx.heap.size ∧ w.heap.size < wx.heap.size ∧ Below w.heap.size w wx) := fun wx h => by
    have hb : Below w.heap.size w wx := HB.out.trans (h.mono (by omega))
    have hbx : wx.heap[w.heap.size]? = some _ := (h.block _ (by omega)).trans HBX.out
    obtain ⟨c0, c1, c2⟩ := box3 hbx
    exact ⟨(hb.cell (p := ⟨fb, fof, none⟩) lf).trans h0, (hb.cell (p := ⟨fb, _, none⟩) lf).trans hn, c0, c1, c2, Nat.lt_of_lt_of_le lf hb.size, lt_of_get hbx, hb⟩
  have HNC : Hid (∀ wx, Calls Try.prog 62 #[.agg #[.slice (some ⟨fb, fof, none⟩) (n + 1) fc, .slice to m tc, .slice wo k wc]] wx fun e w' => e = .returned (.int .i64 n) ∧ Below wx.heap.size wx w') := fun wx => nodes_any _ to wo n fc m tc k wc (by omega) wx
  clear h0 hn
  go_enter Try.func61, Try.ntmps61
  go_wp2_with fail
  obtain ⟨q0, q1, q2, q3, q4, q5, q6, _⟩ := HK.out _ (Below.refl _ _)
  have HN0 : Hid (Below (w.heap.size + 1) (w.alloc (.cells #[.slice (some ⟨fb, fof, none⟩) (n + 1) fc, .slice to m tc, .slice wo k wc] 27)) (w.alloc (.cells #[.slice (some ⟨fb, fof, none⟩) (n + 1) fc, .slice to m tc, .slice wo k wc] 27))) := Below.refl _ _
  generalize w.alloc (.cells #[.slice (some ⟨fb, fof, none⟩) (n + 1) fc, .slice to m tc, .slice wo k wc] 27) = W0 at *
  have e1 : (n : Int) < ((n + 1 : Nat) : Int) := by omega
  have e3 : (n : Int) < (n : Int) + 1 := by omega
  have e4 : (0 : Int) ≤ (n : Int) := by omega
  have e5 : ¬ (n : Int) + 1 = 0 := by omega
  have e6 : ((n : Int) + 1 == 0) = false := beq_eq_false_iff_ne.mpr e5
  have e2 : IntKind.i64.wrap (n : Int) = (n : Int) := by rw [IntKind.wrap_i64] <;> omega
  have hy2 : (y == (m : Int)) = false := beq_eq_false_iff_ne.mpr hy
  have hy3 : ¬ y = (m : Int) := hy
  have hy4 : (y != (m : Int)) = true := bne_iff_ne.mpr hy
  refine wp_region_held_drew (S := fun w' => w'.cell? ⟨fb, fof, none⟩ = some (.int .i64 0) ∧ w'.cell? ⟨fb, fof + n, none⟩ = some (.int .i64 y) ∧ w'.cell? ⟨w.heap.size, 0, none⟩ = some (.slice (some ⟨fb, fof, none⟩) (n + 1) fc) ∧ w'.cell? ⟨w.heap.size, 1, none⟩ = some (.slice to m tc) ∧ w'.cell? ⟨w.heap.size, 2, none⟩ = some (.slice wo k wc)) (by kernel_rfl) ⟨q0, q1, q2, q3, q4⟩ (fun hHeld => ?_)
  refine wpAnyH_take (i := 0) (oi := { dst := some 3, op := Op.fieldAddr 27 (Operand.tmp 1) 0, type := 0, pos := "csr.go:106", after := #[], guard := none }) (v := ?v0) rfl (by kernel_rfl) (by kernel_rfl) (by kernel_rfl) (fun _ _ _ h => h) (Or.inl ⟨by rfl, ?h0⟩) (by assumption) ?r0
  case h0 => ((intro wz hSw; (try dsimp only at hSw); go_simp); try (with_reducible rfl))
  simp only [Act.put, List.setIfInBounds_toArray, List.set_cons_zero, List.set_cons_succ]
  refine wpAnyH_take (i := 1) (oi := { dst := some 4, op := Op.load 25 (Operand.tmp 3), type := 25, pos := "csr.go:106", after := #[{ on := 0, ground := Ground.data }], guard := none }) (v := ?v1) rfl (by kernel_rfl) (by kernel_rfl) (by kernel_rfl) (fun _ _ _ h => h) (Or.inl ⟨by rfl, ?h1⟩) (by assumption) ?r1
  case h1 => ((intro wz hSw; (try dsimp only at hSw); go_simp); try (with_reducible rfl))
  simp only [Act.put, List.setIfInBounds_toArray, List.set_cons_zero, List.set_cons_succ]
  refine wpAnyH_take (i := 2) (oi := { dst := some 5, op := Op.call { callee := Callee.builtin Builtin.len, args := #[Operand.tmp 4], argTypes := #[25] }, type := 3, pos := "csr.go:106", after := #[{ on := 1, ground := Ground.data }], guard := none }) (v := ?v2) rfl (by kernel_rfl) (by kernel_rfl) (by kernel_rfl) (fun _ _ _ h => h) (Or.inl ⟨by rfl, ?h2⟩) (by assumption) ?r2
  case h2 => ((intro wz hSw; (try dsimp only at hSw); go_simp); try (with_reducible rfl))
  simp only [Act.put, List.setIfInBounds_toArray, List.set_cons_zero, List.set_cons_succ]
  refine wpAnyH_take (i := 3) (oi := { dst := some 6, op := Op.binOp BinOp.eql 3 (Operand.tmp 5) (Operand.const (Value.int IntKind.i64 0)) 3, type := 4, pos := "csr.go:106", after := #[{ on := 2, ground := Ground.data }], guard := none }) (v := ?v3) rfl (by kernel_rfl) (by kernel_rfl) (by kernel_rfl) (fun _ _ _ h => h) (Or.inl ⟨by rfl, ?h3⟩) (by assumption) ?r3
  case h3 => ((intro wz hSw; (try dsimp only at hSw); go_simp); try (with_reducible rfl))
  simp only [Act.put, List.setIfInBounds_toArray, List.set_cons_zero, List.set_cons_succ]
  refine wpAnyH_take (i := 4) (oi := { dst := some 7, op := Op.move (Operand.tmp 6), type := 4, pos := "csr.go:106", after := #[{ on := 3, ground := Ground.data }], guard := none }) (v := ?v4) rfl (by kernel_rfl) (by kernel_rfl) (by kernel_rfl) (fun _ _ _ h => h) (Or.inl ⟨by rfl, ?h4⟩) (by assumption) ?r4
  case h4 => ((intro wz hSw; (try dsimp only at hSw); go_simp); try (with_reducible rfl))
  simp only [Act.put, List.setIfInBounds_toArray, List.set_cons_zero, List.set_cons_succ]
  refine wpAnyH_take (i := 5) (oi := { dst := some 8, op := Op.fieldAddr 27 (Operand.tmp 1) 0, type := 0, pos := "csr.go:106", after := #[{ on := 4, ground := Ground.guard }], guard := some (4, false) }) (v := ?v5) rfl (by kernel_rfl) (by kernel_rfl) (by kernel_rfl) (fun _ _ _ h => h) (Or.inl ⟨by rfl, ?h5⟩) (by assumption) ?r5
  case h5 => ((intro wz hSw; (try dsimp only at hSw); go_simp); try (with_reducible rfl))
  simp only [Act.put, List.setIfInBounds_toArray, List.set_cons_zero, List.set_cons_succ]
  refine wpAnyH_take (i := 6) (oi := { dst := some 9, op := Op.load 25 (Operand.tmp 8), type := 25, pos := "csr.go:106", after := #[{ on := 5, ground := Ground.data }, { on := 4, ground := Ground.guard }], guard := some (4, false) }) (v := ?v6) rfl (by kernel_rfl) (by kernel_rfl) (by kernel_rfl) (fun _ _ _ h => h) (Or.inl ⟨by rfl, ?h6⟩) (by assumption) ?r6
  case h6 => ((intro wz hSw; (try dsimp only at hSw); go_simp); try (with_reducible rfl))
  simp only [Act.put, List.setIfInBounds_toArray, List.set_cons_zero, List.set_cons_succ]
  refine wpAnyH_take (i := 7) (oi := { dst := some 10, op := Op.indexAddr 25 (Operand.tmp 9) (Operand.const (Value.int IntKind.i64 0)), type := 0, pos := "csr.go:106", after := #[{ on := 6, ground := Ground.data }, { on := 4, ground := Ground.guard }], guard := some (4, false) }) (v := ?v7) rfl (by kernel_rfl) (by kernel_rfl) (by kernel_rfl) (fun _ _ _ h => h) (Or.inl ⟨by rfl, ?h7⟩) (by assumption) ?r7
  case h7 => ((intro wz hSw; (try dsimp only at hSw); go_simp); try (with_reducible rfl))
  simp only [Act.put, List.setIfInBounds_toArray, List.set_cons_zero, List.set_cons_succ]
  refine wpAnyH_take (i := 8) (oi := { dst := some 11, op := Op.load 3 (Operand.tmp 10), type := 3, pos := "csr.go:106", after := #[{ on := 7, ground := Ground.data }, { on := 4, ground := Ground.guard }], guard := some (4, false) }) (v := ?v8) rfl (by kernel_rfl) (by kernel_rfl) (by kernel_rfl) (fun _ _ _ h => h) (Or.inl ⟨by rfl, ?h8⟩) (by assumption) ?r8
  case h8 => ((intro wz hSw; (try dsimp only at hSw); go_simp); try (with_reducible rfl))
  simp only [Act.put, List.setIfInBounds_toArray, List.set_cons_zero, List.set_cons_succ]
  refine wpAnyH_take (i := 9) (oi := { dst := some 12, op := Op.binOp BinOp.neq 3 (Operand.tmp 11) (Operand.const (Value.int IntKind.i64 0)) 3, type := 4, pos := "csr.go:106", after := #[{ on := 8, ground := Ground.data }, { on := 4, ground := Ground.guard }], guard := some (4, false) }) (v := ?v9) rfl (by kernel_rfl) (by kernel_rfl) (by kernel_rfl) (fun _ _ _ h => h) (Or.inl ⟨by rfl, ?h9⟩) (by assumption) ?r9
  case h9 => ((intro wz hSw; (try dsimp only at hSw); go_simp); try (with_reducible rfl))
  simp only [Act.put, List.setIfInBounds_toArray, List.set_cons_zero, List.set_cons_succ]
  refine wpAnyH_take (i := 10) (oi := { dst := some 13, op := Op.pick (Operand.tmp 7) (Operand.const (Value.bool true)) (Operand.tmp 12), type := 4, pos := "csr.go:106", after := #[{ on := 4, ground := Ground.data }, { on := 9, ground := Ground.data }], guard := none }) (v := ?v10) rfl (by kernel_rfl) (by kernel_rfl) (by kernel_rfl) (fun _ _ _ h => h) (Or.inl ⟨by rfl, ?h10⟩) (by assumption) ?r10
  case h10 => ((intro wz hSw; (try dsimp only at hSw); go_simp); try (with_reducible rfl))
  simp only [Act.put, List.setIfInBounds_toArray, List.set_cons_zero, List.set_cons_succ]
  refine wpAnyH_take (i := 11) (oi := { dst := some 14, op := Op.move (Operand.tmp 13), type := 4, pos := "csr.go:106", after := #[{ on := 10, ground := Ground.data }, { on := 4, ground := Ground.chain }], guard := none }) (v := ?v11) rfl (by kernel_rfl) (by kernel_rfl) (by kernel_rfl) (fun _ _ _ h => h) (Or.inl ⟨by rfl, ?h11⟩) (by assumption) ?r11
  case h11 => ((intro wz hSw; (try dsimp only at hSw); go_simp); try (with_reducible rfl))
  simp only [Act.put, List.setIfInBounds_toArray, List.set_cons_zero, List.set_cons_succ]
  refine wpAnyH_take (i := 12) (oi := { dst := some 15, op := Op.fieldAddr 27 (Operand.tmp 1) 0, type := 0, pos := "csr.go:106", after := #[{ on := 11, ground := Ground.guard }], guard := some (11, false) }) (v := ?v12) rfl (by kernel_rfl) (by kernel_rfl) (by kernel_rfl) (fun _ _ _ h => h) (Or.inl ⟨by rfl, ?h12⟩) (by assumption) ?r12
  case h12 => ((intro wz hSw; (try dsimp only at hSw); go_simp); try (with_reducible rfl))
  simp only [Act.put, List.setIfInBounds_toArray, List.set_cons_zero, List.set_cons_succ]
  refine wpAnyH_take (i := 13) (oi := { dst := some 16, op := Op.load 25 (Operand.tmp 15), type := 25, pos := "csr.go:106", after := #[{ on := 12, ground := Ground.data }, { on := 11, ground := Ground.guard }], guard := some (11, false) }) (v := ?v13) rfl (by kernel_rfl) (by kernel_rfl) (by kernel_rfl) (fun _ _ _ h => h) (Or.inl ⟨by rfl, ?h13⟩) (by assumption) ?r13
  case h13 => ((intro wz hSw; (try dsimp only at hSw); go_simp); try (with_reducible rfl))
  simp only [Act.put, List.setIfInBounds_toArray, List.set_cons_zero, List.set_cons_succ]
  refine wpAnyH_take (i := 14) (oi := { dst := some 17, op := Op.load 27 (Operand.tmp 1), type := 27, pos := "csr.go:106", after := #[{ on := 11, ground := Ground.guard }], guard := some (11, false) }) (v := ?v14) rfl (by kernel_rfl) (by kernel_rfl) (by kernel_rfl) (fun _ _ _ h => h) (Or.inl ⟨by rfl, ?h14⟩) (by assumption) ?r14
  case h14 => ((intro wz hSw; (try dsimp only at hSw); go_simp); try (with_reducible rfl))
  simp only [Act.put, List.setIfInBounds_toArray, List.set_cons_zero, List.set_cons_succ]
  refine wpAnyH_take (i := 18) (oi := { dst := some 21, op := Op.fieldAddr 27 (Operand.tmp 1) 1, type := 0, pos := "csr.go:106", after := #[{ on := 11, ground := Ground.guard }], guard := some (11, false) }) (v := ?v18) rfl (by kernel_rfl) (by kernel_rfl) (by kernel_rfl) (fun _ _ _ h => h) (Or.inl ⟨by rfl, ?h18⟩) (by assumption) ?r18
  case h18 => ((intro wz hSw; (try dsimp only at hSw); go_simp); try (with_reducible rfl))
  simp only [Act.put, List.setIfInBounds_toArray, List.set_cons_zero, List.set_cons_succ]
  refine wpAnyH_take (i := 19) (oi := { dst := some 22, op := Op.load 25 (Operand.tmp 21), type := 25, pos := "csr.go:106", after := #[{ on := 18, ground := Ground.data }, { on := 11, ground := Ground.guard }], guard := some (11, false) }) (v := ?v19) rfl (by kernel_rfl) (by kernel_rfl) (by kernel_rfl) (fun _ _ _ h => h) (Or.inl ⟨by rfl, ?h19⟩) (by assumption) ?r19
  case h19 => ((intro wz hSw; (try dsimp only at hSw); go_simp); try (with_reducible rfl))
  simp only [Act.put, List.setIfInBounds_toArray, List.set_cons_zero, List.set_cons_succ]
  refine wpAnyH_take (i := 20) (oi := { dst := some 23, op := Op.call { callee := Callee.builtin Builtin.len, args := #[Operand.tmp 22], argTypes := #[25] }, type := 3, pos := "csr.go:106", after := #[{ on := 19, ground := Ground.data }, { on := 11, ground := Ground.guard }], guard := some (11, false) }) (v := ?v20) rfl (by kernel_rfl) (by kernel_rfl) (by kernel_rfl) (fun _ _ _ h => h) (Or.inl ⟨by rfl, ?h20⟩) (by assumption) ?r20
  case h20 => ((intro wz hSw; (try dsimp only at hSw); go_simp); try (with_reducible rfl))
  simp only [Act.put, List.setIfInBounds_toArray, List.set_cons_zero, List.set_cons_succ]
  refine wpAnyH_ready (rs := [15]) (by kernel_rfl) (by simp) ?_
  refine AllReadyH.cons (o := { dst := some 18, op := Op.call { callee := Callee.value (Operand.func 62), args := #[Operand.tmp 17], argTypes := #[27] }, type := 3, pos := "csr.go:106", after := #[{ on := 14, ground := Ground.data }, { on := 11, ground := Ground.chain }, { on := 11, ground := Ground.guard }], guard := some (11, false) }) rfl (fun K hK => ?_) AllReadyH.nil
  go_simp
  go_at_call 62; refine (HNC.out _).mono ?_; rintro e w1 ⟨rfl, hL1⟩; have HL1 : Hid (Below (w.heap.size + 1) W0 w1) := HN0.out.drew.trans (hL1.mono (by show _ ≤ W0.heap.size; omega)); obtain ⟨g0, g1, g2, g3, g4, g5, g6, _⟩ := HK.out w1 HL1.out; clear hL1
  go_wp2_with fail
  refine hK.out _ _ ⟨g0, g1, g2, g3, g4⟩ (fun hHeld2 => ?_)
  clear hK K hHeld
  refine wpAnyH_take (i := 16) (oi := { dst := some 19, op := Op.indexAddr 25 (Operand.tmp 16) (Operand.tmp 18), type := 0, pos := "csr.go:106", after := #[{ on := 13, ground := Ground.data }, { on := 15, ground := Ground.data }, { on := 11, ground := Ground.guard }], guard := some (11, false) }) (v := ?v16) rfl (by kernel_rfl) (by kernel_rfl) (by kernel_rfl) (fun _ _ _ h => h) (Or.inl ⟨by rfl, ?h16⟩) (by assumption) ?r16
  case h16 => ((intro wz hSw; (try dsimp only at hSw); go_simp); try (with_reducible rfl))
  simp only [Act.put, List.setIfInBounds_toArray, List.set_cons_zero, List.set_cons_succ]
  refine wpAnyH_take (i := 17) (oi := { dst := some 20, op := Op.load 3 (Operand.tmp 19), type := 3, pos := "csr.go:106", after := #[{ on := 16, ground := Ground.data }, { on := 11, ground := Ground.guard }], guard := some (11, false) }) (v := ?v17) rfl (by kernel_rfl) (by kernel_rfl) (by kernel_rfl) (fun _ _ _ h => h) (Or.inl ⟨by rfl, ?h17⟩) (by assumption) ?r17
  case h17 => ((intro wz hSw; (try dsimp only at hSw); go_simp); try (with_reducible rfl))
  simp only [Act.put, List.setIfInBounds_toArray, List.set_cons_zero, List.set_cons_succ]
  refine wpAnyH_take (i := 21) (oi := { dst := some 24, op := Op.binOp BinOp.neq 3 (Operand.tmp 20) (Operand.tmp 23) 3, type := 4, pos := "csr.go:106", after := #[{ on := 17, ground := Ground.data }, { on := 20, ground := Ground.data }, { on := 11, ground := Ground.guard }], guard := some (11, false) }) (v := ?v21) rfl (by kernel_rfl) (by kernel_rfl) (by kernel_rfl) (fun _ _ _ h => h) (Or.inl ⟨by rfl, ?h21⟩) (by assumption) ?r21
  case h21 => ((intro wz hSw; (try dsimp only at hSw); go_simp); try (with_reducible rfl))
  simp only [Act.put, List.setIfInBounds_toArray, List.set_cons_zero, List.set_cons_succ]
  refine wpAnyH_take (i := 22) (oi := { dst := some 25, op := Op.pick (Operand.tmp 14) (Operand.const (Value.bool true)) (Operand.tmp 24), type := 4, pos := "csr.go:106", after := #[{ on := 11, ground := Ground.data }, { on := 21, ground := Ground.data }], guard := none }) (v := ?v22) rfl (by kernel_rfl) (by kernel_rfl) (by kernel_rfl) (fun _ _ _ h => h) (Or.inl ⟨by rfl, ?h22⟩) (by assumption) ?r22
  case h22 => ((intro wz hSw; (try dsimp only at hSw); go_simp); try (with_reducible rfl))
  simp only [Act.put, List.setIfInBounds_toArray, List.set_cons_zero, List.set_cons_succ]
  refine wpAnyH_take (i := 23) (oi := { dst := some 26, op := Op.move (Operand.tmp 25), type := 4, pos := "csr.go:106", after := #[{ on := 22, ground := Ground.data }, { on := 15, ground := Ground.chain }], guard := none }) (v := ?v23) rfl (by kernel_rfl) (by kernel_rfl) (by kernel_rfl) (fun _ _ _ h => h) (Or.inl ⟨by rfl, ?h23⟩) (by assumption) ?r23
  case h23 => ((intro wz hSw; (try dsimp only at hSw); go_simp); try (with_reducible rfl))
  simp only [Act.put, List.setIfInBounds_toArray, List.set_cons_zero, List.set_cons_succ]
  refine wpAnyH_take (i := 24) (oi := { dst := some 27, op := Op.fieldAddr 27 (Operand.tmp 1) 1, type := 0, pos := "csr.go:106", after := #[{ on := 23, ground := Ground.guard }], guard := some (23, false) }) (v := undef) rfl (by kernel_rfl) (by kernel_rfl) (by kernel_rfl) (fun _ _ _ h => h) (Or.inr ⟨by rfl, rfl⟩) (by assumption) ?_
  simp only [Act.put, List.setIfInBounds_toArray, List.set_cons_zero, List.set_cons_succ]
  refine wpAnyH_take (i := 25) (oi := { dst := some 28, op := Op.load 25 (Operand.tmp 27), type := 25, pos := "csr.go:106", after := #[{ on := 24, ground := Ground.data }, { on := 23, ground := Ground.guard }], guard := some (23, false) }) (v := undef) rfl (by kernel_rfl) (by kernel_rfl) (by kernel_rfl) (fun _ _ _ h => h) (Or.inr ⟨by rfl, rfl⟩) (by assumption) ?_
  simp only [Act.put, List.setIfInBounds_toArray, List.set_cons_zero, List.set_cons_succ]
  refine wpAnyH_take (i := 26) (oi := { dst := some 29, op := Op.call { callee := Callee.builtin Builtin.len, args := #[Operand.tmp 28], argTypes := #[25] }, type := 3, pos := "csr.go:106", after := #[{ on := 25, ground := Ground.data }, { on := 23, ground := Ground.guard }], guard := some (23, false) }) (v := undef) rfl (by kernel_rfl) (by kernel_rfl) (by kernel_rfl) (fun _ _ _ h => h) (Or.inr ⟨by rfl, rfl⟩) (by assumption) ?_
  simp only [Act.put, List.setIfInBounds_toArray, List.set_cons_zero, List.set_cons_succ]
  refine wpAnyH_take (i := 27) (oi := { dst := some 30, op := Op.fieldAddr 27 (Operand.tmp 1) 2, type := 0, pos := "csr.go:106", after := #[{ on := 23, ground := Ground.guard }], guard := some (23, false) }) (v := undef) rfl (by kernel_rfl) (by kernel_rfl) (by kernel_rfl) (fun _ _ _ h => h) (Or.inr ⟨by rfl, rfl⟩) (by assumption) ?_
  simp only [Act.put, List.setIfInBounds_toArray, List.set_cons_zero, List.set_cons_succ]
  refine wpAnyH_take (i := 28) (oi := { dst := some 31, op := Op.load 25 (Operand.tmp 30), type := 25, pos := "csr.go:106", after := #[{ on := 27, ground := Ground.data }, { on := 23, ground := Ground.guard }], guard := some (23, false) }) (v := undef) rfl (by kernel_rfl) (by kernel_rfl) (by kernel_rfl) (fun _ _ _ h => h) (Or.inr ⟨by rfl, rfl⟩) (by assumption) ?_
  simp only [Act.put, List.setIfInBounds_toArray, List.set_cons_zero, List.set_cons_succ]
  refine wpAnyH_take (i := 29) (oi := { dst := some 32, op := Op.call { callee := Callee.builtin Builtin.len, args := #[Operand.tmp 31], argTypes := #[25] }, type := 3, pos := "csr.go:106", after := #[{ on := 28, ground := Ground.data }, { on := 23, ground := Ground.guard }], guard := some (23, false) }) (v := undef) rfl (by kernel_rfl) (by kernel_rfl) (by kernel_rfl) (fun _ _ _ h => h) (Or.inr ⟨by rfl, rfl⟩) (by assumption) ?_
  simp only [Act.put, List.setIfInBounds_toArray, List.set_cons_zero, List.set_cons_succ]
  refine wpAnyH_take (i := 30) (oi := { dst := some 33, op := Op.binOp BinOp.neq 3 (Operand.tmp 29) (Operand.tmp 32) 3, type := 4, pos := "csr.go:106", after := #[{ on := 26, ground := Ground.data }, { on := 29, ground := Ground.data }, { on := 23, ground := Ground.guard }], guard := some (23, false) }) (v := undef) rfl (by kernel_rfl) (by kernel_rfl) (by kernel_rfl) (fun _ _ _ h => h) (Or.inr ⟨by rfl, rfl⟩) (by assumption) ?_
  simp only [Act.put, List.setIfInBounds_toArray, List.set_cons_zero, List.set_cons_succ]
  refine wpAnyH_take (i := 31) (oi := { dst := some 34, op := Op.pick (Operand.tmp 26) (Operand.const (Value.bool true)) (Operand.tmp 33), type := 4, pos := "csr.go:106", after := #[{ on := 23, ground := Ground.data }, { on := 30, ground := Ground.data }], guard := none }) (v := ?v31) rfl (by kernel_rfl) (by kernel_rfl) (by kernel_rfl) (fun _ _ _ h => h) (Or.inl ⟨by rfl, ?h31⟩) (by assumption) ?r31
  case h31 => ((intro wz hSw; (try dsimp only at hSw); go_simp); try (with_reducible rfl))
  simp only [Act.put, List.setIfInBounds_toArray, List.set_cons_zero, List.set_cons_succ]
  refine wpAnyH_done (by kernel_rfl) ?_ _
  have HBZ : Hid (Below w.heap.size w w1) := (HK.out w1 HL1.out).2.2.2.2.2.2.2
  go_wp2
  go_ret
  exact ⟨rfl, HBZ.out⟩

set_option maxRecDepth 100000 in
set_option maxHeartbeats 2000000 in
theorem len_d (fb fof : Nat) (to wo : Option Addr) (n fc m tc k wc : Nat) (w : World) (h0 : w.cell? ⟨fb, fof, none⟩ = some (.int .i64 0)) (hn : w.cell? ⟨fb, fof + n, none⟩ = some (.int .i64 m)) (lf : fb < w.heap.size) (hN : n < maxLen) (hk : ¬ m = k) :
    Calls Try.prog 61 #[.agg #[.slice (some ⟨fb, fof, none⟩) (n + 1) fc, .slice to m tc, .slice wo k wc]] w fun e w' => e = .returned (.iface 59 (.int .i64 14)) ∧ Below w.heap.size w w' := by
  unfold maxLen at hN
  have HB : Hid (Below w.heap.size w (w.alloc (.cells #[.slice (some ⟨fb, fof, none⟩) (n + 1) fc, .slice to m tc, .slice wo k wc] 27))) := (Below.refl _ w).alloc (Nat.le_refl _) _
  have HBX : Hid ((w.alloc (.cells #[.slice (some ⟨fb, fof, none⟩) (n + 1) fc, .slice to m tc, .slice wo k wc] 27)).heap[w.heap.size]? = some (.cells #[.slice (some ⟨fb, fof, none⟩) (n + 1) fc, .slice to m tc, .slice wo k wc] 27)) := heap_new _ _
  have HK : Hid (∀ wx, Below (w.heap.size + 1) (w.alloc (.cells #[.slice (some ⟨fb, fof, none⟩) (n + 1) fc, .slice to m tc, .slice wo k wc] 27)) wx → wx.cell? ⟨fb, fof, none⟩ = some (.int .i64 0) ∧ wx.cell? ⟨fb, fof + n, none⟩ = some (.int .i64 m) ∧ wx.cell? ⟨w.heap.size, 0, none⟩ = some (.slice (some ⟨fb, fof, none⟩) (n + 1) fc) ∧ wx.cell? ⟨w.heap.size, 1, none⟩ = some (.slice to m tc) ∧ wx.cell? ⟨w.heap.size, 2, none⟩ = some (.slice wo k wc) ∧ fb < wx.heap.size ∧ w.heap.size < wx.heap.size ∧ Below w.heap.size w wx) := fun wx h => by
    have hb : Below w.heap.size w wx := HB.out.trans (h.mono (by omega))
    have hbx : wx.heap[w.heap.size]? = some _ := (h.block _ (by omega)).trans HBX.out
    obtain ⟨c0, c1, c2⟩ := box3 hbx
    exact ⟨(hb.cell (p := ⟨fb, fof, none⟩) lf).trans h0, (hb.cell (p := ⟨fb, _, none⟩) lf).trans hn, c0, c1, c2, Nat.lt_of_lt_of_le lf hb.size, lt_of_get hbx, hb⟩
  have HNC : Hid (∀ wx, Calls Try.prog 62 #[.agg #[.slice (some ⟨fb, fof, none⟩) (n + 1) fc, .slice to m tc, .slice wo k wc]] wx fun e w' => e = .returned (.int .i64 n) ∧ Below wx.heap.size wx w') := fun wx => nodes_any _ to wo n fc m tc k wc (by omega) wx
  clear h0 hn
  go_enter Try.func61, Try.ntmps61
  go_wp2_with fail
  obtain ⟨q0, q1, q2, q3, q4, q5, q6, _⟩ := HK.out _ (Below.refl _ _)
  have HN0 : Hid (Below (w.heap.size + 1) (w.alloc (.cells #[.slice (some ⟨fb, fof, none⟩) (n + 1) fc, .slice to m tc, .slice wo k wc] 27)) (w.alloc (.cells #[.slice (some ⟨fb, fof, none⟩) (n + 1) fc, .slice to m tc, .slice wo k wc] 27))) := Below.refl _ _
  generalize w.alloc (.cells #[.slice (some ⟨fb, fof, none⟩) (n + 1) fc, .slice to m tc, .slice wo k wc] 27) = W0 at *
  have e1 : (n : Int) < ((n + 1 : Nat) : Int) := by omega
  have e3 : (n : Int) < (n : Int) + 1 := by omega
  have e4 : (0 : Int) ≤ (n : Int) := by omega
  have e5 : ¬ (n : Int) + 1 = 0 := by omega
  have e6 : ((n : Int) + 1 == 0) = false := beq_eq_false_iff_ne.mpr e5
  have e2 : IntKind.i64.wrap (n : Int) = (n : Int) := by rw [IntKind.wrap_i64] <;> omega
  have hk2 : ((m : Int) == (k : Int)) = false := beq_eq_false_iff_ne.mpr (by omega)
  have hk3 : ¬ (m : Int) = (k : Int) := by omega
  go_region_held3 (fun w' => w'.cell? ⟨fb, fof, none⟩ = some (.int .i64 0) ∧ w'.cell? ⟨fb, fof + n, none⟩ = some (.int .i64 m) ∧ w'.cell? ⟨w.heap.size, 0, none⟩ = some (.slice (some ⟨fb, fof, none⟩) (n + 1) fc) ∧ w'.cell? ⟨w.heap.size, 1, none⟩ = some (.slice to m tc) ∧ w'.cell? ⟨w.heap.size, 2, none⟩ = some (.slice wo k wc)) (go_keep) (first
    | (go_at_call 62; refine (HNC.out _).mono ?_; rintro e w1 ⟨rfl, hL1⟩; have HL1 : Hid (Below (w.heap.size + 1) W0 w1) := HN0.out.drew.trans (hL1.mono (by show _ ≤ W0.heap.size; omega)); obtain ⟨g0, g1, g2, g3, g4, g5, g6, _⟩ := HK.out w1 HL1.out; clear hL1))
  all_goals
    have HBZ : Hid (Below w.heap.size w w1) := (HK.out w1 HL1.out).2.2.2.2.2.2.2
    go_wp2
    go_ret
    exact ⟨rfl, HBZ.out⟩

set_option maxRecDepth 100000 in
set_option maxHeartbeats 2000000 in
theorem len_e (fb fof : Nat) (to wo : Option Addr) (n fc m tc wc : Nat) (w : World) (h0 : w.cell? ⟨fb, fof, none⟩ = some (.int .i64 0)) (hn : w.cell? ⟨fb, fof + n, none⟩ = some (.int .i64 m)) (lf : fb < w.heap.size) (hN : n < maxLen) (h65 : (65536 : Int) < (n : Int)) :
    Calls Try.prog 61 #[.agg #[.slice (some ⟨fb, fof, none⟩) (n + 1) fc, .slice to m tc, .slice wo m wc]] w fun e w' => e = .returned (.iface 59 (.int .i64 9)) ∧ Below w.heap.size w w' := by
  unfold maxLen at hN
  have HB : Hid (Below w.heap.size w (w.alloc (.cells #[.slice (some ⟨fb, fof, none⟩) (n + 1) fc, .slice to m tc, .slice wo m wc] 27))) := (Below.refl _ w).alloc (Nat.le_refl _) _
  have HBX : Hid ((w.alloc (.cells #[.slice (some ⟨fb, fof, none⟩) (n + 1) fc, .slice to m tc, .slice wo m wc] 27)).heap[w.heap.size]? = some (.cells #[.slice (some ⟨fb, fof, none⟩) (n + 1) fc, .slice to m tc, .slice wo m wc] 27)) := heap_new _ _
  have HK : Hid (∀ wx, Below (w.heap.size + 1) (w.alloc (.cells #[.slice (some ⟨fb, fof, none⟩) (n + 1) fc, .slice to m tc, .slice wo m wc] 27)) wx → wx.cell? ⟨fb, fof, none⟩ = some (.int .i64 0) ∧ wx.cell? ⟨fb, fof + n, none⟩ = some (.int .i64 m) ∧ wx.cell? ⟨w.heap.size, 0, none⟩ = some (.slice (some ⟨fb, fof, none⟩) (n + 1) fc) ∧ wx.cell? ⟨w.heap.size, 1, none⟩ = some (.slice to m tc) ∧ wx.cell? ⟨w.heap.size, 2, none⟩ = some (.slice wo m wc) ∧ fb < wx.heap.size ∧ w.heap.size < wx.heap.size ∧ Below w.heap.size w wx) := fun wx h => by
    have hb : Below w.heap.size w wx := HB.out.trans (h.mono (by omega))
    have hbx : wx.heap[w.heap.size]? = some _ := (h.block _ (by omega)).trans HBX.out
    obtain ⟨c0, c1, c2⟩ := box3 hbx
    exact ⟨(hb.cell (p := ⟨fb, fof, none⟩) lf).trans h0, (hb.cell (p := ⟨fb, _, none⟩) lf).trans hn, c0, c1, c2, Nat.lt_of_lt_of_le lf hb.size, lt_of_get hbx, hb⟩
  have HNC : Hid (∀ wx, Calls Try.prog 62 #[.agg #[.slice (some ⟨fb, fof, none⟩) (n + 1) fc, .slice to m tc, .slice wo m wc]] wx fun e w' => e = .returned (.int .i64 n) ∧ Below wx.heap.size wx w') := fun wx => nodes_any _ to wo n fc m tc m wc (by omega) wx
  clear h0 hn
  go_enter Try.func61, Try.ntmps61
  go_wp2_with fail
  obtain ⟨q0, q1, q2, q3, q4, q5, q6, _⟩ := HK.out _ (Below.refl _ _)
  have HN0 : Hid (Below (w.heap.size + 1) (w.alloc (.cells #[.slice (some ⟨fb, fof, none⟩) (n + 1) fc, .slice to m tc, .slice wo m wc] 27)) (w.alloc (.cells #[.slice (some ⟨fb, fof, none⟩) (n + 1) fc, .slice to m tc, .slice wo m wc] 27))) := Below.refl _ _
  generalize w.alloc (.cells #[.slice (some ⟨fb, fof, none⟩) (n + 1) fc, .slice to m tc, .slice wo m wc] 27) = W0 at *
  have e1 : (n : Int) < ((n + 1 : Nat) : Int) := by omega
  have e3 : (n : Int) < (n : Int) + 1 := by omega
  have e4 : (0 : Int) ≤ (n : Int) := by omega
  have e5 : ¬ (n : Int) + 1 = 0 := by omega
  have e6 : ((n : Int) + 1 == 0) = false := beq_eq_false_iff_ne.mpr e5
  have e2 : IntKind.i64.wrap (n : Int) = (n : Int) := by rw [IntKind.wrap_i64] <;> omega
  go_region_held3 (fun w' => w'.cell? ⟨fb, fof, none⟩ = some (.int .i64 0) ∧ w'.cell? ⟨fb, fof + n, none⟩ = some (.int .i64 m) ∧ w'.cell? ⟨w.heap.size, 0, none⟩ = some (.slice (some ⟨fb, fof, none⟩) (n + 1) fc) ∧ w'.cell? ⟨w.heap.size, 1, none⟩ = some (.slice to m tc) ∧ w'.cell? ⟨w.heap.size, 2, none⟩ = some (.slice wo m wc)) (go_keep) (first
    | (go_at_call 62; refine (HNC.out _).mono ?_; rintro e w1 ⟨rfl, hL1⟩; have HL1 : Hid (Below (w.heap.size + 1) W0 w1) := HN0.out.drew.trans (hL1.mono (by show _ ≤ W0.heap.size; omega)); obtain ⟨g0, g1, g2, g3, g4, g5, g6, _⟩ := HK.out w1 HL1.out; clear hL1))
  clear q0 q1 q2 q3 q4 q5 q6 HN0
  go_wp2_with (go_at_call 62; refine (HNC.out _).mono ?_; rintro e w2 ⟨rfl, hL2⟩; have HL2 : Hid (Below (w.heap.size + 1) W0 w2) := HL1.out.trans (hL2.mono (by show _ ≤ w1.heap.size; omega)); obtain ⟨i0, i1, i2, i3, i4, i5, i6, _⟩ := HK.out w2 HL2.out; clear hL2)
  have HBZ : Hid (Below w.heap.size w w2) := (HK.out w2 HL2.out).2.2.2.2.2.2.2
  go_ret
  exact ⟨rfl, HBZ.out⟩

set_option maxRecDepth 100000 in
set_option maxHeartbeats 2000000 in
theorem len_g (fb fof : Nat) (to wo : Option Addr) (n fc m tc wc : Nat) (w : World) (h0 : w.cell? ⟨fb, fof, none⟩ = some (.int .i64 0)) (hn : w.cell? ⟨fb, fof + n, none⟩ = some (.int .i64 m)) (lf : fb < w.heap.size) (hN : n < maxLen) (h65 : ¬ (65536 : Int) < (n : Int)) (h26 : (262144 : Int) < (m : Int)) :
    Calls Try.prog 61 #[.agg #[.slice (some ⟨fb, fof, none⟩) (n + 1) fc, .slice to m tc, .slice wo m wc]] w fun e w' => e = .returned (.iface 59 (.int .i64 9)) ∧ Below w.heap.size w w' := by
  unfold maxLen at hN
  have HB : Hid (Below w.heap.size w (w.alloc (.cells #[.slice (some ⟨fb, fof, none⟩) (n + 1) fc, .slice to m tc, .slice wo m wc] 27))) := (Below.refl _ w).alloc (Nat.le_refl _) _
  have HBX : Hid ((w.alloc (.cells #[.slice (some ⟨fb, fof, none⟩) (n + 1) fc, .slice to m tc, .slice wo m wc] 27)).heap[w.heap.size]? = some (.cells #[.slice (some ⟨fb, fof, none⟩) (n + 1) fc, .slice to m tc, .slice wo m wc] 27)) := heap_new _ _
  have HK : Hid (∀ wx, Below (w.heap.size + 1) (w.alloc (.cells #[.slice (some ⟨fb, fof, none⟩) (n + 1) fc, .slice to m tc, .slice wo m wc] 27)) wx → wx.cell? ⟨fb, fof, none⟩ = some (.int .i64 0) ∧ wx.cell? ⟨fb, fof + n, none⟩ = some (.int .i64 m) ∧ wx.cell? ⟨w.heap.size, 0, none⟩ = some (.slice (some ⟨fb, fof, none⟩) (n + 1) fc) ∧ wx.cell? ⟨w.heap.size, 1, none⟩ = some (.slice to m tc) ∧ wx.cell? ⟨w.heap.size, 2, none⟩ = some (.slice wo m wc) ∧ fb < wx.heap.size ∧ w.heap.size < wx.heap.size ∧ Below w.heap.size w wx) := fun wx h => by
    have hb : Below w.heap.size w wx := HB.out.trans (h.mono (by omega))
    have hbx : wx.heap[w.heap.size]? = some _ := (h.block _ (by omega)).trans HBX.out
    obtain ⟨c0, c1, c2⟩ := box3 hbx
    exact ⟨(hb.cell (p := ⟨fb, fof, none⟩) lf).trans h0, (hb.cell (p := ⟨fb, _, none⟩) lf).trans hn, c0, c1, c2, Nat.lt_of_lt_of_le lf hb.size, lt_of_get hbx, hb⟩
  have HNC : Hid (∀ wx, Calls Try.prog 62 #[.agg #[.slice (some ⟨fb, fof, none⟩) (n + 1) fc, .slice to m tc, .slice wo m wc]] wx fun e w' => e = .returned (.int .i64 n) ∧ Below wx.heap.size wx w') := fun wx => nodes_any _ to wo n fc m tc m wc (by omega) wx
  clear h0 hn
  go_enter Try.func61, Try.ntmps61
  go_wp2_with fail
  obtain ⟨q0, q1, q2, q3, q4, q5, q6, _⟩ := HK.out _ (Below.refl _ _)
  have HN0 : Hid (Below (w.heap.size + 1) (w.alloc (.cells #[.slice (some ⟨fb, fof, none⟩) (n + 1) fc, .slice to m tc, .slice wo m wc] 27)) (w.alloc (.cells #[.slice (some ⟨fb, fof, none⟩) (n + 1) fc, .slice to m tc, .slice wo m wc] 27))) := Below.refl _ _
  generalize w.alloc (.cells #[.slice (some ⟨fb, fof, none⟩) (n + 1) fc, .slice to m tc, .slice wo m wc] 27) = W0 at *
  have e1 : (n : Int) < ((n + 1 : Nat) : Int) := by omega
  have e3 : (n : Int) < (n : Int) + 1 := by omega
  have e4 : (0 : Int) ≤ (n : Int) := by omega
  have e5 : ¬ (n : Int) + 1 = 0 := by omega
  have e6 : ((n : Int) + 1 == 0) = false := beq_eq_false_iff_ne.mpr e5
  have e2 : IntKind.i64.wrap (n : Int) = (n : Int) := by rw [IntKind.wrap_i64] <;> omega
  go_region_held3 (fun w' => w'.cell? ⟨fb, fof, none⟩ = some (.int .i64 0) ∧ w'.cell? ⟨fb, fof + n, none⟩ = some (.int .i64 m) ∧ w'.cell? ⟨w.heap.size, 0, none⟩ = some (.slice (some ⟨fb, fof, none⟩) (n + 1) fc) ∧ w'.cell? ⟨w.heap.size, 1, none⟩ = some (.slice to m tc) ∧ w'.cell? ⟨w.heap.size, 2, none⟩ = some (.slice wo m wc)) (go_keep) (first
    | (go_at_call 62; refine (HNC.out _).mono ?_; rintro e w1 ⟨rfl, hL1⟩; have HL1 : Hid (Below (w.heap.size + 1) W0 w1) := HN0.out.drew.trans (hL1.mono (by show _ ≤ W0.heap.size; omega)); obtain ⟨g0, g1, g2, g3, g4, g5, g6, _⟩ := HK.out w1 HL1.out; clear hL1))
  clear q0 q1 q2 q3 q4 q5 q6 HN0
  go_wp2_with (go_at_call 62; refine (HNC.out _).mono ?_; rintro e w2 ⟨rfl, hL2⟩; have HL2 : Hid (Below (w.heap.size + 1) W0 w2) := HL1.out.trans (hL2.mono (by show _ ≤ w1.heap.size; omega)); obtain ⟨i0, i1, i2, i3, i4, i5, i6, _⟩ := HK.out w2 HL2.out; clear hL2)
  have HBZ : Hid (Below w.heap.size w w2) := (HK.out w2 HL2.out).2.2.2.2.2.2.2
  go_ret
  exact ⟨rfl, HBZ.out⟩

set_option maxRecDepth 100000 in
set_option maxHeartbeats 2000000 in
theorem len_a (fo to wo : Option Addr) (fc m tc k wc : Nat) (w : World) :
    Calls Try.prog 61 #[.agg #[.slice fo 0 fc, .slice to m tc, .slice wo k wc]] w fun e w' => e = .returned (.iface 59 (.int .i64 14)) ∧ Below w.heap.size w w' := by
  have HB : Hid (Below w.heap.size w (w.alloc (.cells #[.slice fo 0 fc, .slice to m tc, .slice wo k wc] 27))) := (Below.refl _ w).alloc (Nat.le_refl _) _
  have HBX : Hid ((w.alloc (.cells #[.slice fo 0 fc, .slice to m tc, .slice wo k wc] 27)).heap[w.heap.size]? = some (.cells #[.slice fo 0 fc, .slice to m tc, .slice wo k wc] 27)) := heap_new _ _
  go_enter Try.func61, Try.ntmps61
  go_wp2_with fail
  generalize w.alloc (.cells #[.slice fo 0 fc, .slice to m tc, .slice wo k wc] 27) = W0 at *
  obtain ⟨c0, c1, c2⟩ := box3 HBX.out
  have HBW : Hid (∀ q, Below w.heap.size w (W0.drewN q)) := fun q => ⟨HB.out.os, HB.out.tape, HB.out.output, HB.out.size, HB.out.block⟩
  go_quiet (fail)
  go_wp2
  go_ret
  exact ⟨rfl, HBW.out _⟩

end Go.Proofs.Ytefcmpdnlbpjpaa
