/- FaultAsks: its last statement, walked in every order: the guard of its second half is false, or true. -/
import Derived.Test.YtkmbffdjgpjojaaDoorGen
import Derived.Test.YtkmbffdjgpjojaaDoorHas
import Derived.Test.YtkmbffdjgpjojaaDoorRefText
import Derived.Test.YtkmbffdjgpjojaaDoorAlike
import Derived.Test.YtkmbffdjgpjojaaDoorAwake
import Derived.Deep.RegionWith
namespace Go.Proofs.YtkmbffdjgpjojaaDoor
open Go.RowKit Go.Extern
theorem wpAny_take_at {P : Program} {md : Region.Mode} {ops : Array Oper} {Q : Exit → Act → World → Prop} {i : Nat} {oi : Oper} {d : Option Nat} {v : Value} {fuel : Nat} {listed : Array Bool} {a : Act} {w : World} (hi : ops[i]? = some oi) (hd : oi.dst = d)
    (hs : Region.noSelect ops = true) (hf : Region.free md ops listed i = true) (hr : (Region.ready md ops listed).contains i = true)
    (hQ : ∀ c a w, Q (.panic c) (a.put d v) w → Q (.panic c) a w) (hy : Yields P ops oi v a)
    (h : wpAny P md ops Q fuel (listed.setIfInBounds i true) (a.put d v) w) : wpAny P md ops Q (fuel + 1) listed a w := by
  subst hd
  exact wpAny_take hi hs hf hr hQ hy h
set_option maxRecDepth 100000 in
set_option maxHeartbeats 4000000 in
theorem asks_none (N : Nat) (n m C : Int) (other : Bool) (ao mo : Option Addr) (cap mcap wn : Nat) (ps qs : List (Int × Int)) (v pl : Value) (A : ByteArray) (W4 w9 : World) (R : Ending → World → Prop) (K : Act → World → Prop) (hK : ∀ a w, Code.wp Tryd.prog Code.ret (bodyPost Tryd.prog Tryd.f4 R) a w → K a w)
  (HK : Hid (∀ (wx : World), Below W4.heap.size W4 wx → wx.cell? { block := wn, off := 0 } = some (Value.int IntKind.i64 C)))
  (HHAS : Hid (∀ (wx : World), Below W4.heap.size W4 wx → Calls Tryd.prog 20 #[v, Value.int IntKind.i64 m] wx fun e w' => e = Ending.returned (Value.bool (C != 0 && m == C)) ∧ Below wx.heap.size wx w'))
  (HB9 : Hid (Below W4.heap.size W4 w9)) (l0 : w9.cell? { block := wn, off := 0 } = some (Value.int IntKind.i64 C)) (h1 : (C != 0) = false) (hR : ∀ w', Below W4.heap.size W4 w' → R (.returned (.bool true)) w') :
  Code.wp Tryd.prog (Code.region N
    #[{ dst := some 40, op := Op.move (Operand.tmp 9), type := 27, pos := "law.go:53", after := #[], guard := none },
        { dst := some 41, op := Op.move (Operand.tmp 2), type := 24, pos := "law.go:53", after := #[], guard := none },
        { dst := some 42,
          op :=
            Op.call
              { callee := Callee.value (Operand.func 20), args := #[Operand.tmp 40, Operand.tmp 41],
                argTypes := #[27, 24] },
          type := 4, pos := "law.go:53",
          after := #[{ on := 0, ground := Ground.data }, { on := 1, ground := Ground.data }], guard := none },
        { dst := some 43, op := Op.fieldAddr 40 (Operand.tmp 10) 0, type := 0, pos := "law.go:53", after := #[],
          guard := none },
        { dst := some 44, op := Op.load 3 (Operand.tmp 43), type := 3, pos := "law.go:53",
          after := #[{ on := 3, ground := Ground.data }], guard := none },
        { dst := some 45, op := Op.binOp BinOp.neq 3 (Operand.tmp 44) (Operand.const (Value.int IntKind.i64 0)) 3,
          type := 4, pos := "law.go:53", after := #[{ on := 4, ground := Ground.data }], guard := none },
        { dst := some 46, op := Op.move (Operand.tmp 45), type := 4, pos := "law.go:53",
          after := #[{ on := 5, ground := Ground.data }, { on := 2, ground := Ground.chain }], guard := none },
        { dst := some 47, op := Op.move (Operand.tmp 2), type := 24, pos := "law.go:53",
          after := #[{ on := 6, ground := Ground.guard }], guard := some (6, true) },
        { dst := some 48, op := Op.fieldAddr 40 (Operand.tmp 10) 0, type := 0, pos := "law.go:53",
          after := #[{ on := 6, ground := Ground.guard }], guard := some (6, true) },
        { dst := some 49, op := Op.load 3 (Operand.tmp 48), type := 3, pos := "law.go:53",
          after := #[{ on := 8, ground := Ground.data }, { on := 6, ground := Ground.guard }],
          guard := some (6, true) },
        { dst := some 50, op := Op.binOp BinOp.eql 3 (Operand.tmp 47) (Operand.tmp 49) 3, type := 4, pos := "law.go:53",
          after :=
            #[{ on := 7, ground := Ground.data }, { on := 9, ground := Ground.data },
              { on := 6, ground := Ground.guard }],
          guard := some (6, true) },
        { dst := some 51, op := Op.pick (Operand.tmp 46) (Operand.tmp 50) (Operand.const (Value.bool false)), type := 4,
          pos := "law.go:53", after := #[{ on := 6, ground := Ground.data }, { on := 10, ground := Ground.data }],
          guard := none },
        { dst := some 52, op := Op.binOp BinOp.eql 4 (Operand.tmp 42) (Operand.tmp 51) 4, type := 4, pos := "law.go:53",
          after := #[{ on := 2, ground := Ground.data }, { on := 11, ground := Ground.data }], guard := none },
        { dst := some 8, op := Op.assign (Operand.tmp 52), type := 4, pos := "law.go:53",
          after :=
            #[{ on := 12, ground := Ground.data }, { on := 6, ground := Ground.chain },
              { on := 0, ground := Ground.phase }, { on := 1, ground := Ground.phase },
              { on := 2, ground := Ground.phase }, { on := 3, ground := Ground.phase },
              { on := 4, ground := Ground.phase }, { on := 5, ground := Ground.phase },
              { on := 6, ground := Ground.phase }, { on := 7, ground := Ground.phase },
              { on := 8, ground := Ground.phase }, { on := 9, ground := Ground.phase },
              { on := 10, ground := Ground.phase }, { on := 11, ground := Ground.phase },
              { on := 12, ground := Ground.phase }],
          guard := none }] true) (Exit.then K (bodyPost Tryd.prog Tryd.f4 R)) { tmps := #[Value.slice ao ps.length cap, Value.int IntKind.i64 n, Value.int IntKind.i64 m, Value.bool other, undef, undef, undef, undef, Value.bool false, v,
  Value.pointer (some { block := wn, off := 0 }), Value.bool true, Value.bool false, Value.slice ao ps.length cap, Value.int IntKind.i64 n, Value.bool other, v,
  Value.slice ao ps.length cap, Value.int IntKind.i64 n, Value.agg #[Value.int IntKind.i64 C, Value.slice mo qs.length mcap], v, Value.int IntKind.i64 C,
  Value.pointer (some { block := wn, off := 0 }), Value.int IntKind.i64 C, Value.bool false, Value.bool false, v, pl, Value.pointer (some { block := wn, off := 1 }), Value.slice mo qs.length mcap,
  Value.bool true, Value.bool false, Value.bool false, Value.bool false, v, Value.string A, Value.agg #[Value.int IntKind.i64 C, Value.slice mo qs.length mcap], Value.string A,
  Value.bool false, Value.bool false, undef, undef, undef, undef, undef, undef, undef, undef, undef, undef, undef, undef, undef], defers := [] } w9 := by
  have h3 : (C != 0 && m == C) = false := by rw [h1]; rfl
  rw [h3] at HHAS
  clear h3
  refine wp_region_any (by kernel_rfl) ?_
  change wpAny _ _ _ _ _ _ _ (World.drew _)
  refine wpAny_take_at (i := 0) (d := some 40) (v := v) rfl rfl (by kernel_rfl) (by kernel_rfl) (by kernel_rfl) (fun _ _ _ h => h) (Or.inl ⟨by rfl, fun w => by go_simp⟩) ?_
  refine wpAny_take_at (i := 1) (d := some 41) (v := .int .i64 m) rfl rfl (by kernel_rfl) (by kernel_rfl) (by kernel_rfl) (fun _ _ _ h => h) (Or.inl ⟨by rfl, fun w => by go_simp⟩) ?_
  refine wpAny_take_at (i := 3) (d := some 43) (v := .pointer (some ⟨wn, 0, none⟩)) rfl rfl (by kernel_rfl) (by kernel_rfl) (by kernel_rfl) (fun _ _ _ h => h) (Or.inl ⟨by rfl, fun w => by go_simp⟩) ?_
  refine wpAny_ready (rs := [2, 4]) (by kernel_rfl) (by simp) ?_
  refine AllReady.cons rfl (fun K1 hK1 => ?_) (AllReady.cons rfl (fun K1 hK1 => ?_) AllReady.nil)
  · go_simp
    refine (HHAS.out _ HB9.out.drew).mono ?_
    rintro e w10 ⟨rfl, hb10⟩
    have HB10 : Hid (Below W4.heap.size W4 w10) := HB9.out.drew.trans (hb10.mono HB9.out.size)
    have n0 := HK.out w10 HB10.out
    clear hb10
    refine hK1 _ _ ?_
    clear hK1 K1
    refine wpAny_ready (rs := [4]) (by kernel_rfl) (by simp) ?_
    refine AllReady.cons rfl (fun K1 hK1 => ?_) AllReady.nil
    go_simp
    refine hK1 _ _ ?_
    clear hK1 K1
    refine wpAny_take_at (i := 5) (d := some 45) (v := .bool false) rfl rfl (by kernel_rfl) (by kernel_rfl) (by kernel_rfl) (fun _ _ _ h => h) (Or.inl ⟨by rfl, fun w => by go_simp⟩) ?_
    refine wpAny_take_at (i := 6) (d := some 46) (v := .bool false) rfl rfl (by kernel_rfl) (by kernel_rfl) (by kernel_rfl) (fun _ _ _ h => h) (Or.inl ⟨by rfl, fun w => by go_simp⟩) ?_
    refine wpAny_take_at (i := 7) (d := some 47) (v := undef) rfl rfl (by kernel_rfl) (by kernel_rfl) (by kernel_rfl) (fun _ _ _ h => h) (Or.inr ⟨by kernel_rfl, rfl⟩) ?_
    refine wpAny_take_at (i := 8) (d := some 48) (v := undef) rfl rfl (by kernel_rfl) (by kernel_rfl) (by kernel_rfl) (fun _ _ _ h => h) (Or.inr ⟨by kernel_rfl, rfl⟩) ?_
    refine wpAny_take_at (i := 9) (d := some 49) (v := undef) rfl rfl (by kernel_rfl) (by kernel_rfl) (by kernel_rfl) (fun _ _ _ h => h) (Or.inr ⟨by kernel_rfl, rfl⟩) ?_
    refine wpAny_take_at (i := 10) (d := some 50) (v := undef) rfl rfl (by kernel_rfl) (by kernel_rfl) (by kernel_rfl) (fun _ _ _ h => h) (Or.inr ⟨by kernel_rfl, rfl⟩) ?_
    refine wpAny_take_at (i := 11) (d := some 51) (v := .bool false) rfl rfl (by kernel_rfl) (by kernel_rfl) (by kernel_rfl) (fun _ _ _ h => h) (Or.inl ⟨by rfl, fun w => by go_simp⟩) ?_
    refine wpAny_take_at (i := 12) (d := some 52) (v := .bool true) rfl rfl (by kernel_rfl) (by kernel_rfl) (by kernel_rfl) (fun _ _ _ h => h) (Or.inl ⟨by rfl, fun w => by go_simp⟩) ?_
    refine wpAny_take_at (i := 13) (d := some 8) (v := .bool true) rfl rfl (by kernel_rfl) (by kernel_rfl) (by kernel_rfl) (fun _ _ _ h => h) (Or.inl ⟨by rfl, fun w => by go_simp⟩) ?_
    refine wpAny_done (by kernel_rfl) ?_ _
    refine hK _ _ (wp_ret ?_)
    exact bodyPost_ret (v := .bool true) (by kernel_rfl) (by kernel_rfl) (hR _ HB10.out)
  · go_simp
    refine hK1 _ _ ?_
    clear hK1 K1
    refine wpAny_take_at (i := 5) (d := some 45) (v := .bool false) rfl rfl (by kernel_rfl) (by kernel_rfl) (by kernel_rfl) (fun _ _ _ h => h) (Or.inl ⟨by rfl, fun w => by go_simp⟩) ?_
    refine wpAny_ready (rs := [2]) (by kernel_rfl) (by simp) ?_
    refine AllReady.cons rfl (fun K1 hK1 => ?_) AllReady.nil
    go_simp
    refine (HHAS.out _ HB9.out.drew).mono ?_
    rintro e w10 ⟨rfl, hb10⟩
    have HB10 : Hid (Below W4.heap.size W4 w10) := HB9.out.drew.trans (hb10.mono HB9.out.size)
    clear hb10
    refine hK1 _ _ ?_
    clear hK1 K1
    refine wpAny_take_at (i := 6) (d := some 46) (v := .bool false) rfl rfl (by kernel_rfl) (by kernel_rfl) (by kernel_rfl) (fun _ _ _ h => h) (Or.inl ⟨by rfl, fun w => by go_simp⟩) ?_
    refine wpAny_take_at (i := 7) (d := some 47) (v := undef) rfl rfl (by kernel_rfl) (by kernel_rfl) (by kernel_rfl) (fun _ _ _ h => h) (Or.inr ⟨by kernel_rfl, rfl⟩) ?_
    refine wpAny_take_at (i := 8) (d := some 48) (v := undef) rfl rfl (by kernel_rfl) (by kernel_rfl) (by kernel_rfl) (fun _ _ _ h => h) (Or.inr ⟨by kernel_rfl, rfl⟩) ?_
    refine wpAny_take_at (i := 9) (d := some 49) (v := undef) rfl rfl (by kernel_rfl) (by kernel_rfl) (by kernel_rfl) (fun _ _ _ h => h) (Or.inr ⟨by kernel_rfl, rfl⟩) ?_
    refine wpAny_take_at (i := 10) (d := some 50) (v := undef) rfl rfl (by kernel_rfl) (by kernel_rfl) (by kernel_rfl) (fun _ _ _ h => h) (Or.inr ⟨by kernel_rfl, rfl⟩) ?_
    refine wpAny_take_at (i := 11) (d := some 51) (v := .bool false) rfl rfl (by kernel_rfl) (by kernel_rfl) (by kernel_rfl) (fun _ _ _ h => h) (Or.inl ⟨by rfl, fun w => by go_simp⟩) ?_
    refine wpAny_take_at (i := 12) (d := some 52) (v := .bool true) rfl rfl (by kernel_rfl) (by kernel_rfl) (by kernel_rfl) (fun _ _ _ h => h) (Or.inl ⟨by rfl, fun w => by go_simp⟩) ?_
    refine wpAny_take_at (i := 13) (d := some 8) (v := .bool true) rfl rfl (by kernel_rfl) (by kernel_rfl) (by kernel_rfl) (fun _ _ _ h => h) (Or.inl ⟨by rfl, fun w => by go_simp⟩) ?_
    refine wpAny_done (by kernel_rfl) ?_ _
    refine hK _ _ (wp_ret ?_)
    exact bodyPost_ret (v := .bool true) (by kernel_rfl) (by kernel_rfl) (hR _ HB10.out)
set_option maxRecDepth 100000 in
set_option maxHeartbeats 4000000 in
theorem asks_some (N : Nat) (n m C : Int) (other : Bool) (ao mo : Option Addr) (cap mcap wn : Nat) (ps qs : List (Int × Int)) (v pl : Value) (A : ByteArray) (W4 w9 : World) (R : Ending → World → Prop) (K : Act → World → Prop) (hK : ∀ a w, Code.wp Tryd.prog Code.ret (bodyPost Tryd.prog Tryd.f4 R) a w → K a w)
  (HK : Hid (∀ (wx : World), Below W4.heap.size W4 wx → wx.cell? { block := wn, off := 0 } = some (Value.int IntKind.i64 C)))
  (HHAS : Hid (∀ (wx : World), Below W4.heap.size W4 wx → Calls Tryd.prog 20 #[v, Value.int IntKind.i64 m] wx fun e w' => e = Ending.returned (Value.bool (C != 0 && m == C)) ∧ Below wx.heap.size wx w'))
  (HB9 : Hid (Below W4.heap.size W4 w9)) (l0 : w9.cell? { block := wn, off := 0 } = some (Value.int IntKind.i64 C)) (b : Bool) (h1 : (C != 0) = true) (h2 : (m == C) = b) (hR : ∀ w', Below W4.heap.size W4 w' → R (.returned (.bool true)) w') :
  Code.wp Tryd.prog (Code.region N
    #[{ dst := some 40, op := Op.move (Operand.tmp 9), type := 27, pos := "law.go:53", after := #[], guard := none },
        { dst := some 41, op := Op.move (Operand.tmp 2), type := 24, pos := "law.go:53", after := #[], guard := none },
        { dst := some 42,
          op :=
            Op.call
              { callee := Callee.value (Operand.func 20), args := #[Operand.tmp 40, Operand.tmp 41],
                argTypes := #[27, 24] },
          type := 4, pos := "law.go:53",
          after := #[{ on := 0, ground := Ground.data }, { on := 1, ground := Ground.data }], guard := none },
        { dst := some 43, op := Op.fieldAddr 40 (Operand.tmp 10) 0, type := 0, pos := "law.go:53", after := #[],
          guard := none },
        { dst := some 44, op := Op.load 3 (Operand.tmp 43), type := 3, pos := "law.go:53",
          after := #[{ on := 3, ground := Ground.data }], guard := none },
        { dst := some 45, op := Op.binOp BinOp.neq 3 (Operand.tmp 44) (Operand.const (Value.int IntKind.i64 0)) 3,
          type := 4, pos := "law.go:53", after := #[{ on := 4, ground := Ground.data }], guard := none },
        { dst := some 46, op := Op.move (Operand.tmp 45), type := 4, pos := "law.go:53",
          after := #[{ on := 5, ground := Ground.data }, { on := 2, ground := Ground.chain }], guard := none },
        { dst := some 47, op := Op.move (Operand.tmp 2), type := 24, pos := "law.go:53",
          after := #[{ on := 6, ground := Ground.guard }], guard := some (6, true) },
        { dst := some 48, op := Op.fieldAddr 40 (Operand.tmp 10) 0, type := 0, pos := "law.go:53",
          after := #[{ on := 6, ground := Ground.guard }], guard := some (6, true) },
        { dst := some 49, op := Op.load 3 (Operand.tmp 48), type := 3, pos := "law.go:53",
          after := #[{ on := 8, ground := Ground.data }, { on := 6, ground := Ground.guard }],
          guard := some (6, true) },
        { dst := some 50, op := Op.binOp BinOp.eql 3 (Operand.tmp 47) (Operand.tmp 49) 3, type := 4, pos := "law.go:53",
          after :=
            #[{ on := 7, ground := Ground.data }, { on := 9, ground := Ground.data },
              { on := 6, ground := Ground.guard }],
          guard := some (6, true) },
        { dst := some 51, op := Op.pick (Operand.tmp 46) (Operand.tmp 50) (Operand.const (Value.bool false)), type := 4,
          pos := "law.go:53", after := #[{ on := 6, ground := Ground.data }, { on := 10, ground := Ground.data }],
          guard := none },
        { dst := some 52, op := Op.binOp BinOp.eql 4 (Operand.tmp 42) (Operand.tmp 51) 4, type := 4, pos := "law.go:53",
          after := #[{ on := 2, ground := Ground.data }, { on := 11, ground := Ground.data }], guard := none },
        { dst := some 8, op := Op.assign (Operand.tmp 52), type := 4, pos := "law.go:53",
          after :=
            #[{ on := 12, ground := Ground.data }, { on := 6, ground := Ground.chain },
              { on := 0, ground := Ground.phase }, { on := 1, ground := Ground.phase },
              { on := 2, ground := Ground.phase }, { on := 3, ground := Ground.phase },
              { on := 4, ground := Ground.phase }, { on := 5, ground := Ground.phase },
              { on := 6, ground := Ground.phase }, { on := 7, ground := Ground.phase },
              { on := 8, ground := Ground.phase }, { on := 9, ground := Ground.phase },
              { on := 10, ground := Ground.phase }, { on := 11, ground := Ground.phase },
              { on := 12, ground := Ground.phase }],
          guard := none }] true) (Exit.then K (bodyPost Tryd.prog Tryd.f4 R)) { tmps := #[Value.slice ao ps.length cap, Value.int IntKind.i64 n, Value.int IntKind.i64 m, Value.bool other, undef, undef, undef, undef, Value.bool false, v,
  Value.pointer (some { block := wn, off := 0 }), Value.bool true, Value.bool false, Value.slice ao ps.length cap, Value.int IntKind.i64 n, Value.bool other, v,
  Value.slice ao ps.length cap, Value.int IntKind.i64 n, Value.agg #[Value.int IntKind.i64 C, Value.slice mo qs.length mcap], v, Value.int IntKind.i64 C,
  Value.pointer (some { block := wn, off := 0 }), Value.int IntKind.i64 C, Value.bool false, Value.bool false, v, pl, Value.pointer (some { block := wn, off := 1 }), Value.slice mo qs.length mcap,
  Value.bool true, Value.bool false, Value.bool false, Value.bool false, v, Value.string A, Value.agg #[Value.int IntKind.i64 C, Value.slice mo qs.length mcap], Value.string A,
  Value.bool false, Value.bool false, undef, undef, undef, undef, undef, undef, undef, undef, undef, undef, undef, undef, undef], defers := [] } w9 := by
  have h3 : (C != 0 && m == C) = b := by rw [h1, h2]; rfl
  rw [h3] at HHAS
  clear h3
  refine wp_region_any (by kernel_rfl) ?_
  change wpAny _ _ _ _ _ _ _ (World.drew _)
  refine wpAny_take_at (i := 0) (d := some 40) (v := v) rfl rfl (by kernel_rfl) (by kernel_rfl) (by kernel_rfl) (fun _ _ _ h => h) (Or.inl ⟨by rfl, fun w => by go_simp⟩) ?_
  refine wpAny_take_at (i := 1) (d := some 41) (v := .int .i64 m) rfl rfl (by kernel_rfl) (by kernel_rfl) (by kernel_rfl) (fun _ _ _ h => h) (Or.inl ⟨by rfl, fun w => by go_simp⟩) ?_
  refine wpAny_take_at (i := 3) (d := some 43) (v := .pointer (some ⟨wn, 0, none⟩)) rfl rfl (by kernel_rfl) (by kernel_rfl) (by kernel_rfl) (fun _ _ _ h => h) (Or.inl ⟨by rfl, fun w => by go_simp⟩) ?_
  refine wpAny_ready (rs := [2, 4]) (by kernel_rfl) (by simp) ?_
  refine AllReady.cons rfl (fun K1 hK1 => ?_) (AllReady.cons rfl (fun K1 hK1 => ?_) AllReady.nil)
  · go_simp
    refine (HHAS.out _ HB9.out.drew).mono ?_
    rintro e w10 ⟨rfl, hb10⟩
    have HB10 : Hid (Below W4.heap.size W4 w10) := HB9.out.drew.trans (hb10.mono HB9.out.size)
    have n0 := HK.out w10 HB10.out
    clear hb10
    refine hK1 _ _ ?_
    clear hK1 K1
    refine wpAny_ready (rs := [4]) (by kernel_rfl) (by simp) ?_
    refine AllReady.cons rfl (fun K1 hK1 => ?_) AllReady.nil
    go_simp
    refine hK1 _ _ ?_
    clear hK1 K1
    refine wpAny_take_at (i := 5) (d := some 45) (v := .bool true) rfl rfl (by kernel_rfl) (by kernel_rfl) (by kernel_rfl) (fun _ _ _ h => h) (Or.inl ⟨by rfl, fun w => by go_simp⟩) ?_
    refine wpAny_take_at (i := 6) (d := some 46) (v := .bool true) rfl rfl (by kernel_rfl) (by kernel_rfl) (by kernel_rfl) (fun _ _ _ h => h) (Or.inl ⟨by rfl, fun w => by go_simp⟩) ?_
    refine wpAny_take_at (i := 7) (d := some 47) (v := .int .i64 m) rfl rfl (by kernel_rfl) (by kernel_rfl) (by kernel_rfl) (fun _ _ _ h => h) (Or.inl ⟨by rfl, fun w => by go_simp⟩) ?_
    refine wpAny_take_at (i := 8) (d := some 48) (v := .pointer (some ⟨wn, 0, none⟩)) rfl rfl (by kernel_rfl) (by kernel_rfl) (by kernel_rfl) (fun _ _ _ h => h) (Or.inl ⟨by rfl, fun w => by go_simp⟩) ?_
    refine wpAny_ready (rs := [9]) (by kernel_rfl) (by simp) ?_
    refine AllReady.cons rfl (fun K1 hK1 => ?_) AllReady.nil
    go_simp
    refine hK1 _ _ ?_
    clear hK1 K1
    refine wpAny_take_at (i := 10) (d := some 50) (v := .bool b) rfl rfl (by kernel_rfl) (by kernel_rfl) (by kernel_rfl) (fun _ _ _ h => h) (Or.inl ⟨by rfl, fun w => by go_simp⟩) ?_
    refine wpAny_take_at (i := 11) (d := some 51) (v := .bool b) rfl rfl (by kernel_rfl) (by kernel_rfl) (by kernel_rfl) (fun _ _ _ h => h) (Or.inl ⟨by rfl, fun w => by go_simp⟩) ?_
    refine wpAny_take_at (i := 12) (d := some 52) (v := .bool true) rfl rfl (by kernel_rfl) (by kernel_rfl) (by kernel_rfl) (fun _ _ _ h => h) (Or.inl ⟨by rfl, fun w => by go_simp⟩) ?_
    refine wpAny_take_at (i := 13) (d := some 8) (v := .bool true) rfl rfl (by kernel_rfl) (by kernel_rfl) (by kernel_rfl) (fun _ _ _ h => h) (Or.inl ⟨by rfl, fun w => by go_simp⟩) ?_
    refine wpAny_done (by kernel_rfl) ?_ _
    refine hK _ _ (wp_ret ?_)
    exact bodyPost_ret (v := .bool true) (by kernel_rfl) (by kernel_rfl) (hR _ HB10.out)
  · go_simp
    refine hK1 _ _ ?_
    clear hK1 K1
    refine wpAny_take_at (i := 5) (d := some 45) (v := .bool true) rfl rfl (by kernel_rfl) (by kernel_rfl) (by kernel_rfl) (fun _ _ _ h => h) (Or.inl ⟨by rfl, fun w => by go_simp⟩) ?_
    refine wpAny_ready (rs := [2]) (by kernel_rfl) (by simp) ?_
    refine AllReady.cons rfl (fun K1 hK1 => ?_) AllReady.nil
    go_simp
    refine (HHAS.out _ HB9.out.drew).mono ?_
    rintro e w10 ⟨rfl, hb10⟩
    have HB10 : Hid (Below W4.heap.size W4 w10) := HB9.out.drew.trans (hb10.mono HB9.out.size)
    have n0 := HK.out w10 HB10.out
    clear hb10
    refine hK1 _ _ ?_
    clear hK1 K1
    refine wpAny_take_at (i := 6) (d := some 46) (v := .bool true) rfl rfl (by kernel_rfl) (by kernel_rfl) (by kernel_rfl) (fun _ _ _ h => h) (Or.inl ⟨by rfl, fun w => by go_simp⟩) ?_
    refine wpAny_take_at (i := 7) (d := some 47) (v := .int .i64 m) rfl rfl (by kernel_rfl) (by kernel_rfl) (by kernel_rfl) (fun _ _ _ h => h) (Or.inl ⟨by rfl, fun w => by go_simp⟩) ?_
    refine wpAny_take_at (i := 8) (d := some 48) (v := .pointer (some ⟨wn, 0, none⟩)) rfl rfl (by kernel_rfl) (by kernel_rfl) (by kernel_rfl) (fun _ _ _ h => h) (Or.inl ⟨by rfl, fun w => by go_simp⟩) ?_
    refine wpAny_ready (rs := [9]) (by kernel_rfl) (by simp) ?_
    refine AllReady.cons rfl (fun K1 hK1 => ?_) AllReady.nil
    go_simp
    refine hK1 _ _ ?_
    clear hK1 K1
    refine wpAny_take_at (i := 10) (d := some 50) (v := .bool b) rfl rfl (by kernel_rfl) (by kernel_rfl) (by kernel_rfl) (fun _ _ _ h => h) (Or.inl ⟨by rfl, fun w => by go_simp⟩) ?_
    refine wpAny_take_at (i := 11) (d := some 51) (v := .bool b) rfl rfl (by kernel_rfl) (by kernel_rfl) (by kernel_rfl) (fun _ _ _ h => h) (Or.inl ⟨by rfl, fun w => by go_simp⟩) ?_
    refine wpAny_take_at (i := 12) (d := some 52) (v := .bool true) rfl rfl (by kernel_rfl) (by kernel_rfl) (by kernel_rfl) (fun _ _ _ h => h) (Or.inl ⟨by rfl, fun w => by go_simp⟩) ?_
    refine wpAny_take_at (i := 13) (d := some 8) (v := .bool true) rfl rfl (by kernel_rfl) (by kernel_rfl) (by kernel_rfl) (fun _ _ _ h => h) (Or.inl ⟨by rfl, fun w => by go_simp⟩) ?_
    refine wpAny_done (by kernel_rfl) ?_ _
    refine hK _ _ (wp_ret ?_)
    exact bodyPost_ret (v := .bool true) (by kernel_rfl) (by kernel_rfl) (hR _ HB10.out)
end Go.Proofs.YtkmbffdjgpjojaaDoor
