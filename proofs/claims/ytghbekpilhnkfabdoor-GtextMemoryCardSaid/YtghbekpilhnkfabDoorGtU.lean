/- the reference's form, walked. (genfo.py) -/
import Derived.Test.YtghbekpilhnkfabDoorGtT
namespace Go.Proofs.YtghbekpilhnkfabDoor.Gt
open Go Go.Lib Go.RowKit Go.Extern Hi

attribute [local go_sem] Oper.semAt_some

/-- the error of a row by its first word and the count of its words. -/
def fmE (ws : List By) (word : By) (count : Nat) : Int := if ws[0]? ≠ some word then 3 else if ws.length < count then 5 else if count < ws.length then 6 else 0
def foE (ws : List By) (word : By) (count : Nat) (ln : Nat) : Int × List (Int × Int) := if fmE ws word count = 0 then (0, []) else (fmE ws word count, [(1, (ln : Int))])
def FoA (ws : List By) (word : By) (count ln : Nat) (w : World) (e : Ending) (w' : World) : Prop := ∃ v, e = .returned v ∧ IsRef w' (foE ws word count ln) v ∧ Below w.heap.size w w'
theorem form_res {W : World} {z : Nat} {x0 x1 : Value} {tmps : Array Value} (h1 : W.heap[z]? = some (.cells #[x0, x1] 35)) (t2 : tmps[6]?.getD undef = .pointer (some ⟨z, 0, none⟩)) :
    (results Tryd.f40 tmps).run Tryd.prog W = .ok (.agg #[x0, x1]) W := by
  have c0 : W.cell? ⟨z, 0, none⟩ = some x0 := by simp [World.cell?, h1]
  have c1 : W.cell? ⟨z, 1, none⟩ = some x1 := by simp [World.cell?, h1]
  simp [results, Tryd.results40, go_sem, t2, c0, c1]

set_option maxRecDepth 100000 in
set_option maxHeartbeats 4000000 in
theorem form_calls (w : World) (ln A lc : Nat) (X : List ByteArray) (word : ByteArray) (count : Nat) (h : StR w (ln, A, lc, X)) (hf : FewR (ln, A, lc, X)) :
    Calls Tryd.prog 40 #[.agg #[.int .i64 (ln : Int), .slice (some ⟨A, 0, none⟩) X.length lc], .string word, .int .i64 (count : Int)] w (FoA (X.map bs) (bs word) count ln w) := by
  obtain ⟨rb, hrb⟩ : ∃ rb, w.heap.size = rb := ⟨_, rfl⟩
  obtain ⟨z, hz⟩ : ∃ z, rb + 1 = z := ⟨_, rfl⟩
  obtain ⟨W1, hW1⟩ : ∃ W1, (w.alloc (.cells #[.int .i64 (ln : Int), .slice (some ⟨A, 0, none⟩) X.length lc] 103)).alloc (.cells #[.int .i64 0, .slice none 0 0] 35) = W1 := ⟨_, rfl⟩
  have HW1 : Hid ((w.alloc (.cells #[.int .i64 (ln : Int), .slice (some ⟨A, 0, none⟩) X.length lc] 103)).alloc (.cells #[.int .i64 0, .slice none 0 0] 35) = W1) := hW1
  have n1 : W1.heap[rb]? = some (.cells #[.int .i64 (ln : Int), .slice (some ⟨A, 0, none⟩) X.length lc] 103) := by rw [← hW1, ← hrb]; exact (Below.heap_alloc _ _ _ (by simp)).trans (heap_newG _ _)
  have n0 : W1.heap[z]? = some (.cells #[.int .i64 0, .slice none 0 0] 35) := by
    have g := heap_newG (w.alloc (.cells #[.int .i64 (ln : Int), .slice (some ⟨A, 0, none⟩) X.length lc] 103)) (.cells #[.int .i64 0, .slice none 0 0] 35)
    rw [World.size_alloc, hW1, hrb, hz] at g
    exact g
  have hb1 : Below w.heap.size w W1 := by rw [← hW1]; exact ((Below.refl _ _).alloc (Nat.le_refl _) _).alloc (by simp) _
  have H1 : Hid (Below w.heap.size w W1 ∧ W1.heap[z]? = some (.cells #[.int .i64 0, .slice none 0 0] 35) ∧ w.heap.size ≤ z ∧ z < W1.heap.size) := ⟨hb1, n0, by omega, (Array.getElem?_eq_some_iff.1 n0).1⟩
  have HNE : Hid (rb ≠ z) := by show rb ≠ z; omega
  have HZ : Hid (∀ Y, Below W1.heap.size W1 Y → Y.heap[z]? = some (.cells #[.int .i64 0, .slice none 0 0] 35)) := fun Y hY => (hY.block _ H1.out.2.2.2).trans H1.out.2.1
  have HCL : Hid (∀ Y, Below W1.heap.size W1 Y → Y.cell? ⟨z, 0, none⟩ = some (.int .i64 0) ∧ Y.cell? ⟨z, 1, none⟩ = some (.slice none 0 0) ∧ Y.frozen? ⟨z, 0, none⟩ = false ∧ Y.frozen? ⟨z, 1, none⟩ = false) := fun Y hY => by
    have g := HZ.out Y hY
    exact ⟨by simp [World.cell?, g], by simp [World.cell?, g], by simp [World.frozen?, g], by simp [World.frozen?, g]⟩
  have rl : rb < W1.heap.size := (Array.getElem?_eq_some_iff.1 n1).1
  have HSS : Hid (∀ Y, Below W1.heap.size W1 Y → Y.cell? ⟨rb, 0, none⟩ = some (.int .i64 (ln : Int)) ∧ Hid (Y.heap[rb]? = some (.cells #[.int .i64 (ln : Int), .slice (some ⟨A, 0, none⟩) X.length lc] 103))) := fun Y hY => by
    have g := (hY.block _ rl).trans n1
    exact ⟨by simp [World.cell?, g], g⟩
  obtain ⟨x, X2, rfl⟩ : ∃ x X2, X = x :: X2 := by
    cases X with
    | nil => exact absurd rfl hf.1
    | cons a b => exact ⟨a, b, rfl⟩
  obtain ⟨⟨cur, s1, s2⟩, s3⟩ := h
  have d0 : W1.cell? ⟨rb, 0, none⟩ = some (.int .i64 (ln : Int)) := by simp [World.cell?, n1]
  have d1 : W1.cell? ⟨rb, 1, none⟩ = some (.slice (some ⟨A, 0, none⟩) (x :: X2).length lc) := by simp [World.cell?, n1]
  have al : A < w.heap.size := (Array.getElem?_eq_some_iff.1 s1).1
  have a0 : W1.cell? ⟨A, 0, none⟩ = some (.string x) := (hb1.cell (p := ⟨A, 0, none⟩) al).trans (by have := s2 0 x rfl; simp [World.cell?, s1, this])
  have al1 : A < W1.heap.size := Nat.lt_of_lt_of_le al hb1.size
  obtain ⟨X, hX⟩ : ∃ X, x :: X2 = X := ⟨_, rfl⟩
  have HX : Hid (X[0]? = some x ∧ X.length ≤ 200) := by rw [← hX]; exact ⟨rfl, hf.2.1⟩
  have hxl : 0 < X.length := by rw [← hX]; simp
  rw [hX] at d1 HSS ⊢
  rw [hX] at HW1
  have i0 : (0 : Int) < (X.length : Int) := by omega
  have hx2 := HX.out.2
  obtain ⟨c0, c1, f0, f1⟩ := HCL.out W1 (Below.refl _ _)
  clear hW1 n0 n1 hb1 s1 s2 s3 hf hX
  by_cases hw : bs x = bs word
  · have hse := str_eq x word
    rw [decide_eq_true hw] at hse
    have HH : Hid ((X.map bs)[0]? = some (bs word)) := by show _ = _; rw [List.getElem?_map, HX.out.1, ← hw]; rfl
    clear hw
    rcases (show X.length < count ∨ count < X.length ∨ X.length = count by omega) with q | q | q
    · have j1 : decide ((X.length : Int) < (count : Int)) = true := by simp; omega
      have HF : Hid (fmE (X.map bs) (bs word) count = 5) := by show _ = _; unfold fmE; rw [if_neg (by rw [HH.out]; simp), if_pos (by rw [List.length_map]; exact q)]
      go_enter Tryd.func40, Tryd.ntmps40
      go_upto_region 1 with fail
      rw [HW1.out]
      try rw [hrb, hz]
      go_upto_region 9 with fail
      try rw [HW1.out]
      refine wp_region_M (S := (fun w' : World => w'.cell? ⟨rb, 0, none⟩ = some (.int .i64 (ln : Int)) ∧ Hid (w'.heap[rb]? = some (.cells #[.int .i64 (ln : Int), .slice (some ⟨A, 0, none⟩) X.length lc] 103)))) (by kernel_rfl) (HSS.out _ (Below.refl _ _).drew) ?_
      refine wpAnyM_take (i := 0) (oi := { dst := Option.some 28, op := Op.fieldAddr 103 (Operand.tmp 3) 0, type := 0, pos := "ref.go:48", after := #[], guard := Option.none }) (v := ?vf1z0) rfl (by kernel_rfl) (by kernel_rfl) (by kernel_rfl) (fun _ _ _ h => h) (YieldsM.of_if (Or.inl ⟨by rfl, ?hf1z0⟩)) ?rf1z0
      case hf1z0 => ((intro wz hSw; (try dsimp only at hSw); go_simp); try (with_reducible rfl))
      try simp only [Act.put, List.setIfInBounds_toArray, List.set_cons_zero, List.set_cons_succ]
      refine wpAnyM_take (i := 1) (oi := { dst := Option.some 29, op := Op.load 3 (Operand.tmp 28), type := 3, pos := "ref.go:48", after := #[{ on := 0, ground := Ground.data }], guard := Option.none }) (v := ?vf2z1) rfl (by kernel_rfl) (by kernel_rfl) (by kernel_rfl) (fun _ _ _ h => h) (YieldsM.of_if (Or.inl ⟨by rfl, ?hf2z1⟩)) ?rf2z1
      case hf2z1 => ((intro wz hSw; (try dsimp only at hSw); go_simp); try (with_reducible rfl))
      try simp only [Act.put, List.setIfInBounds_toArray, List.set_cons_zero, List.set_cons_succ]
      refine wpAnyM_take (i := 2) (oi := { dst := Option.some 30, op := Op.move (Operand.tmp 7), type := 49, pos := "ref.go:48", after := #[], guard := Option.none }) (v := ?vf3z2) rfl (by kernel_rfl) (by kernel_rfl) (by kernel_rfl) (fun _ _ _ h => h) (YieldsM.of_if (Or.inl ⟨by rfl, ?hf3z2⟩)) ?rf3z2
      case hf3z2 => ((intro wz hSw; (try dsimp only at hSw); go_simp); try (with_reducible rfl))
      try simp only [Act.put, List.setIfInBounds_toArray, List.set_cons_zero, List.set_cons_succ]
      refine wpAnyM_take (i := 3) (oi := { dst := Option.some 31, op := Op.call { callee := Callee.value (Operand.func 14), args := #[Operand.tmp 30], argTypes := #[49] }, type := 35, pos := "ref.go:48", after := #[{ on := 2, ground := Ground.data }], guard := Option.none }) (v := (.agg #[.int .i64 5, .slice none 0 0])) rfl (by kernel_rfl) (by kernel_rfl) (by kernel_rfl) (fun _ _ _ h => h) (YieldsM.of_call (f := 14) (by rfl) (fun _ _ => by kernel_rfl) (fun wx hSx => (E_calls 5 wx).mono (by rintro e9 w9 ⟨rfl, hb9⟩; have g9 := (hb9.block _ (Array.getElem?_eq_some_iff.1 hSx.2.out).1).trans hSx.2.out; exact ⟨rfl, hb9, by simp [World.cell?, g9], g9⟩))) ?_
      try simp only [Act.put, List.setIfInBounds_toArray, List.set_cons_zero, List.set_cons_succ]
      refine readyM (i := 4) (o := { dst := Option.some 32, op := Op.call { callee := Callee.value (Operand.func 33), args := #[Operand.const (Value.int IntKind.i64 1), Operand.tmp 29, Operand.tmp 31], argTypes := #[52, 3, 35] }, type := 35, pos := "ref.go:48", after := #[{ on := 1, ground := Ground.data }, { on := 3, ground := Ground.data }, { on := 3, ground := Ground.chain }], guard := Option.none }) rfl (by kernel_rfl) ?_
      intro u4 hg4 hS4 K hK
      rw [if_pos (by rfl)]
      have b4 : Below W1.heap.size W1 u4 := btrG (Below.refl _ _).drew hg4
      go_simp
      refine (refAt_calls 1 (ln : Int) 5 u4).mono ?_
      rintro e9 y6 ⟨pg, rfl, hpg, hy6⟩
      have b6 : Below W1.heap.size W1 y6 := btrG b4 hy6
      have HPG : Hid (y6.heap[pg]? = some (.cells #[.int .i64 1, .int .i64 (ln : Int)] 77) ∧ Below W1.heap.size W1 y6) := ⟨hpg, b6⟩
      refine hK.out _ _ (HSS.out _ b6) ?_
      clear hK K hpg hy6 hg4 hS4 b4 b6
      try simp only [Act.put, List.setIfInBounds_toArray, List.set_cons_zero, List.set_cons_succ]
      refine readyM (i := 5) (o := { dst := Option.none, op := Op.store 35 (Operand.tmp 6) (Operand.tmp 32), type := 0, pos := "ref.go:48", after := #[{ on := 4, ground := Ground.data }, { on := 4, ground := Ground.chain }, { on := 0, ground := Ground.phase }, { on := 1, ground := Ground.phase }, { on := 2, ground := Ground.phase }, { on := 3, ground := Ground.phase }, { on := 4, ground := Ground.phase }], guard := Option.none }) rfl (by kernel_rfl) ?_
      intro u5 hg5 hS5 K hK
      rw [if_pos (by rfl)]
      have H5 : Hid (u5.heap[pg]? = some (.cells #[.int .i64 1, .int .i64 (ln : Int)] 77) ∧ Below W1.heap.size W1 u5) := ⟨(Below.block hg5 _ (Array.getElem?_eq_some_iff.1 HPG.out.1).1).trans HPG.out.1, btrG HPG.out.2 hg5⟩
      obtain ⟨c0, c1, f0, f1⟩ := HCL.out u5 H5.out.2
      go_simp
      have HS6 : Hid (((u5.setCell ⟨z, 0, none⟩ (.int .i64 5)).setCell ⟨z, 1, none⟩ (.slice (some ⟨pg, 0, none⟩) 1 1)).heap[rb]? = some (.cells #[.int .i64 (ln : Int), .slice (some ⟨A, 0, none⟩) X.length lc] 103)) := ((Below.heap_setCell _ _ _ _ (by exact HNE.out)).trans (Below.heap_setCell _ _ _ _ (by exact HNE.out))).trans hS5.2.out
      refine hK.out _ _ ⟨by simp [World.cell?, HS6.out], HS6.out⟩ ?_
      clear hK K c0 c1 f0 f1 hS5 hg5
      try simp only [Act.put, List.setIfInBounds_toArray, List.set_cons_zero, List.set_cons_succ]
      refine wpAnyM_done (by kernel_rfl) ?_ _
      intro u9 hg9 hS9
      obtain ⟨g1, g2⟩ := ref_at (c := 5) H1.out.1 H5.out.2 (HZ.out u5 H5.out.2) H1.out.2.2.1 H5.out.1
      have H9 : Hid (u9.heap[z]? = some (.cells #[.int .i64 5, .slice (some ⟨pg, 0, none⟩) 1 1] 35) ∧ IsRef u9 (5, [(1, (ln : Int))]) (.agg #[.int .i64 5, .slice (some ⟨pg, 0, none⟩) 1 1]) ∧ Below w.heap.size w u9) := by
        have m0 := set_twoG (HZ.out u5 H5.out.2) (.int .i64 5) (.slice (some ⟨pg, 0, none⟩) 1 1)
        refine ⟨(Below.block hg9 _ (Array.getElem?_eq_some_iff.1 m0).1).trans m0, ?_, g2.trans (Below.mono hg9 g2.size)⟩
        obtain ⟨lo, l2, e1, e2⟩ := g1
        exact ⟨lo, l2, e1, e2.keep hg9⟩
      clear hS9 hg9 g1 g2
      go_wp2
      refine bodyPost_ret (form_res H9.out.1 rfl) rfl ?_
      unfold FoA foE
      rw [HF.out, if_neg (by decide)]
      exact ⟨_, rfl, H9.out.2.1, H9.out.2.2⟩
    · have j1 : decide ((X.length : Int) < (count : Int)) = false := by simp; omega
      have j2 : decide ((X.length : Int) > (count : Int)) = true := by simp; omega
      have q1 : ¬ X.length < count := by omega
      have HF : Hid (fmE (X.map bs) (bs word) count = 6) := by show _ = _; unfold fmE; rw [if_neg (by rw [HH.out]; simp), if_neg (by rw [List.length_map]; omega), if_pos (by rw [List.length_map]; exact q)]
      go_enter Tryd.func40, Tryd.ntmps40
      go_upto_region 1 with fail
      rw [HW1.out]
      try rw [hrb, hz]
      go_upto_region 9 with fail
      try rw [HW1.out]
      refine wp_region_M (S := (fun w' : World => w'.cell? ⟨rb, 0, none⟩ = some (.int .i64 (ln : Int)) ∧ Hid (w'.heap[rb]? = some (.cells #[.int .i64 (ln : Int), .slice (some ⟨A, 0, none⟩) X.length lc] 103)))) (by kernel_rfl) (HSS.out _ (Below.refl _ _).drew) ?_
      refine wpAnyM_take (i := 0) (oi := { dst := Option.some 28, op := Op.fieldAddr 103 (Operand.tmp 3) 0, type := 0, pos := "ref.go:48", after := #[], guard := Option.none }) (v := ?vf4z0) rfl (by kernel_rfl) (by kernel_rfl) (by kernel_rfl) (fun _ _ _ h => h) (YieldsM.of_if (Or.inl ⟨by rfl, ?hf4z0⟩)) ?rf4z0
      case hf4z0 => ((intro wz hSw; (try dsimp only at hSw); go_simp); try (with_reducible rfl))
      try simp only [Act.put, List.setIfInBounds_toArray, List.set_cons_zero, List.set_cons_succ]
      refine wpAnyM_take (i := 1) (oi := { dst := Option.some 29, op := Op.load 3 (Operand.tmp 28), type := 3, pos := "ref.go:48", after := #[{ on := 0, ground := Ground.data }], guard := Option.none }) (v := ?vf5z1) rfl (by kernel_rfl) (by kernel_rfl) (by kernel_rfl) (fun _ _ _ h => h) (YieldsM.of_if (Or.inl ⟨by rfl, ?hf5z1⟩)) ?rf5z1
      case hf5z1 => ((intro wz hSw; (try dsimp only at hSw); go_simp); try (with_reducible rfl))
      try simp only [Act.put, List.setIfInBounds_toArray, List.set_cons_zero, List.set_cons_succ]
      refine wpAnyM_take (i := 2) (oi := { dst := Option.some 30, op := Op.move (Operand.tmp 7), type := 49, pos := "ref.go:48", after := #[], guard := Option.none }) (v := ?vf6z2) rfl (by kernel_rfl) (by kernel_rfl) (by kernel_rfl) (fun _ _ _ h => h) (YieldsM.of_if (Or.inl ⟨by rfl, ?hf6z2⟩)) ?rf6z2
      case hf6z2 => ((intro wz hSw; (try dsimp only at hSw); go_simp); try (with_reducible rfl))
      try simp only [Act.put, List.setIfInBounds_toArray, List.set_cons_zero, List.set_cons_succ]
      refine wpAnyM_take (i := 3) (oi := { dst := Option.some 31, op := Op.call { callee := Callee.value (Operand.func 14), args := #[Operand.tmp 30], argTypes := #[49] }, type := 35, pos := "ref.go:48", after := #[{ on := 2, ground := Ground.data }], guard := Option.none }) (v := (.agg #[.int .i64 6, .slice none 0 0])) rfl (by kernel_rfl) (by kernel_rfl) (by kernel_rfl) (fun _ _ _ h => h) (YieldsM.of_call (f := 14) (by rfl) (fun _ _ => by kernel_rfl) (fun wx hSx => (E_calls 6 wx).mono (by rintro e9 w9 ⟨rfl, hb9⟩; have g9 := (hb9.block _ (Array.getElem?_eq_some_iff.1 hSx.2.out).1).trans hSx.2.out; exact ⟨rfl, hb9, by simp [World.cell?, g9], g9⟩))) ?_
      try simp only [Act.put, List.setIfInBounds_toArray, List.set_cons_zero, List.set_cons_succ]
      refine readyM (i := 4) (o := { dst := Option.some 32, op := Op.call { callee := Callee.value (Operand.func 33), args := #[Operand.const (Value.int IntKind.i64 1), Operand.tmp 29, Operand.tmp 31], argTypes := #[52, 3, 35] }, type := 35, pos := "ref.go:48", after := #[{ on := 1, ground := Ground.data }, { on := 3, ground := Ground.data }, { on := 3, ground := Ground.chain }], guard := Option.none }) rfl (by kernel_rfl) ?_
      intro u4 hg4 hS4 K hK
      rw [if_pos (by rfl)]
      have b4 : Below W1.heap.size W1 u4 := btrG (Below.refl _ _).drew hg4
      go_simp
      refine (refAt_calls 1 (ln : Int) 6 u4).mono ?_
      rintro e9 y6 ⟨pg, rfl, hpg, hy6⟩
      have b6 : Below W1.heap.size W1 y6 := btrG b4 hy6
      have HPG : Hid (y6.heap[pg]? = some (.cells #[.int .i64 1, .int .i64 (ln : Int)] 77) ∧ Below W1.heap.size W1 y6) := ⟨hpg, b6⟩
      refine hK.out _ _ (HSS.out _ b6) ?_
      clear hK K hpg hy6 hg4 hS4 b4 b6
      try simp only [Act.put, List.setIfInBounds_toArray, List.set_cons_zero, List.set_cons_succ]
      refine readyM (i := 5) (o := { dst := Option.none, op := Op.store 35 (Operand.tmp 6) (Operand.tmp 32), type := 0, pos := "ref.go:48", after := #[{ on := 4, ground := Ground.data }, { on := 4, ground := Ground.chain }, { on := 0, ground := Ground.phase }, { on := 1, ground := Ground.phase }, { on := 2, ground := Ground.phase }, { on := 3, ground := Ground.phase }, { on := 4, ground := Ground.phase }], guard := Option.none }) rfl (by kernel_rfl) ?_
      intro u5 hg5 hS5 K hK
      rw [if_pos (by rfl)]
      have H5 : Hid (u5.heap[pg]? = some (.cells #[.int .i64 1, .int .i64 (ln : Int)] 77) ∧ Below W1.heap.size W1 u5) := ⟨(Below.block hg5 _ (Array.getElem?_eq_some_iff.1 HPG.out.1).1).trans HPG.out.1, btrG HPG.out.2 hg5⟩
      obtain ⟨c0, c1, f0, f1⟩ := HCL.out u5 H5.out.2
      go_simp
      have HS6 : Hid (((u5.setCell ⟨z, 0, none⟩ (.int .i64 6)).setCell ⟨z, 1, none⟩ (.slice (some ⟨pg, 0, none⟩) 1 1)).heap[rb]? = some (.cells #[.int .i64 (ln : Int), .slice (some ⟨A, 0, none⟩) X.length lc] 103)) := ((Below.heap_setCell _ _ _ _ (by exact HNE.out)).trans (Below.heap_setCell _ _ _ _ (by exact HNE.out))).trans hS5.2.out
      refine hK.out _ _ ⟨by simp [World.cell?, HS6.out], HS6.out⟩ ?_
      clear hK K c0 c1 f0 f1 hS5 hg5
      try simp only [Act.put, List.setIfInBounds_toArray, List.set_cons_zero, List.set_cons_succ]
      refine wpAnyM_done (by kernel_rfl) ?_ _
      intro u9 hg9 hS9
      obtain ⟨g1, g2⟩ := ref_at (c := 6) H1.out.1 H5.out.2 (HZ.out u5 H5.out.2) H1.out.2.2.1 H5.out.1
      have H9 : Hid (u9.heap[z]? = some (.cells #[.int .i64 6, .slice (some ⟨pg, 0, none⟩) 1 1] 35) ∧ IsRef u9 (6, [(1, (ln : Int))]) (.agg #[.int .i64 6, .slice (some ⟨pg, 0, none⟩) 1 1]) ∧ Below w.heap.size w u9) := by
        have m0 := set_twoG (HZ.out u5 H5.out.2) (.int .i64 6) (.slice (some ⟨pg, 0, none⟩) 1 1)
        refine ⟨(Below.block hg9 _ (Array.getElem?_eq_some_iff.1 m0).1).trans m0, ?_, g2.trans (Below.mono hg9 g2.size)⟩
        obtain ⟨lo, l2, e1, e2⟩ := g1
        exact ⟨lo, l2, e1, e2.keep hg9⟩
      clear hS9 hg9 g1 g2
      go_wp2
      refine bodyPost_ret (form_res H9.out.1 rfl) rfl ?_
      unfold FoA foE
      rw [HF.out, if_neg (by decide)]
      exact ⟨_, rfl, H9.out.2.1, H9.out.2.2⟩
    · have j1 : decide ((X.length : Int) < (count : Int)) = false := by simp; omega
      have j2 : decide ((X.length : Int) > (count : Int)) = false := by simp; omega
      have HF : Hid (fmE (X.map bs) (bs word) count = 0) := by show _ = _; unfold fmE; rw [if_neg (by rw [HH.out]; simp), if_neg (by rw [List.length_map]; omega), if_neg (by rw [List.length_map]; omega)]
      have q1 : ¬ X.length < count := by omega
      have q2 : ¬ count < X.length := by omega
      clear q
      go_enter Tryd.func40, Tryd.ntmps40
      go_upto_region 1 with fail
      rw [HW1.out]
      try rw [hrb, hz]
      go_wp2
      refine bodyPost_ret (form_res (set_twoG H1.out.2.1 _ _) rfl) rfl ?_
      unfold FoA foE
      rw [HF.out, if_pos rfl]
      exact ⟨_, rfl, ⟨none, 0, rfl, places_nil _⟩, (set_far H1.out.1 H1.out.2.2.1 _ _).1⟩
  · have hse := str_eq x word
    rw [decide_eq_false hw] at hse
    have HF : Hid (fmE (X.map bs) (bs word) count = 3) := by show _ = _; unfold fmE; rw [if_pos (by rw [List.getElem?_map, HX.out.1]; simpa using hw)]
    clear hw
    go_enter Tryd.func40, Tryd.ntmps40
    go_upto_region 1 with fail
    rw [HW1.out]
    try rw [hrb, hz]
    go_upto_region 9 with fail
    try rw [HW1.out]
    refine wp_region_M (S := (fun w' : World => w'.cell? ⟨rb, 0, none⟩ = some (.int .i64 (ln : Int)) ∧ Hid (w'.heap[rb]? = some (.cells #[.int .i64 (ln : Int), .slice (some ⟨A, 0, none⟩) X.length lc] 103)))) (by kernel_rfl) (HSS.out _ (Below.refl _ _).drew) ?_
    refine wpAnyM_take (i := 0) (oi := { dst := Option.some 28, op := Op.fieldAddr 103 (Operand.tmp 3) 0, type := 0, pos := "ref.go:48", after := #[], guard := Option.none }) (v := ?vf7z0) rfl (by kernel_rfl) (by kernel_rfl) (by kernel_rfl) (fun _ _ _ h => h) (YieldsM.of_if (Or.inl ⟨by rfl, ?hf7z0⟩)) ?rf7z0
    case hf7z0 => ((intro wz hSw; (try dsimp only at hSw); go_simp); try (with_reducible rfl))
    try simp only [Act.put, List.setIfInBounds_toArray, List.set_cons_zero, List.set_cons_succ]
    refine wpAnyM_take (i := 1) (oi := { dst := Option.some 29, op := Op.load 3 (Operand.tmp 28), type := 3, pos := "ref.go:48", after := #[{ on := 0, ground := Ground.data }], guard := Option.none }) (v := ?vf8z1) rfl (by kernel_rfl) (by kernel_rfl) (by kernel_rfl) (fun _ _ _ h => h) (YieldsM.of_if (Or.inl ⟨by rfl, ?hf8z1⟩)) ?rf8z1
    case hf8z1 => ((intro wz hSw; (try dsimp only at hSw); go_simp); try (with_reducible rfl))
    try simp only [Act.put, List.setIfInBounds_toArray, List.set_cons_zero, List.set_cons_succ]
    refine wpAnyM_take (i := 2) (oi := { dst := Option.some 30, op := Op.move (Operand.tmp 7), type := 49, pos := "ref.go:48", after := #[], guard := Option.none }) (v := ?vf9z2) rfl (by kernel_rfl) (by kernel_rfl) (by kernel_rfl) (fun _ _ _ h => h) (YieldsM.of_if (Or.inl ⟨by rfl, ?hf9z2⟩)) ?rf9z2
    case hf9z2 => ((intro wz hSw; (try dsimp only at hSw); go_simp); try (with_reducible rfl))
    try simp only [Act.put, List.setIfInBounds_toArray, List.set_cons_zero, List.set_cons_succ]
    refine wpAnyM_take (i := 3) (oi := { dst := Option.some 31, op := Op.call { callee := Callee.value (Operand.func 14), args := #[Operand.tmp 30], argTypes := #[49] }, type := 35, pos := "ref.go:48", after := #[{ on := 2, ground := Ground.data }], guard := Option.none }) (v := (.agg #[.int .i64 3, .slice none 0 0])) rfl (by kernel_rfl) (by kernel_rfl) (by kernel_rfl) (fun _ _ _ h => h) (YieldsM.of_call (f := 14) (by rfl) (fun _ _ => by kernel_rfl) (fun wx hSx => (E_calls 3 wx).mono (by rintro e9 w9 ⟨rfl, hb9⟩; have g9 := (hb9.block _ (Array.getElem?_eq_some_iff.1 hSx.2.out).1).trans hSx.2.out; exact ⟨rfl, hb9, by simp [World.cell?, g9], g9⟩))) ?_
    try simp only [Act.put, List.setIfInBounds_toArray, List.set_cons_zero, List.set_cons_succ]
    refine readyM (i := 4) (o := { dst := Option.some 32, op := Op.call { callee := Callee.value (Operand.func 33), args := #[Operand.const (Value.int IntKind.i64 1), Operand.tmp 29, Operand.tmp 31], argTypes := #[52, 3, 35] }, type := 35, pos := "ref.go:48", after := #[{ on := 1, ground := Ground.data }, { on := 3, ground := Ground.data }, { on := 3, ground := Ground.chain }], guard := Option.none }) rfl (by kernel_rfl) ?_
    intro u4 hg4 hS4 K hK
    rw [if_pos (by rfl)]
    have b4 : Below W1.heap.size W1 u4 := btrG (Below.refl _ _).drew hg4
    go_simp
    refine (refAt_calls 1 (ln : Int) 3 u4).mono ?_
    rintro e9 y6 ⟨pg, rfl, hpg, hy6⟩
    have b6 : Below W1.heap.size W1 y6 := btrG b4 hy6
    have HPG : Hid (y6.heap[pg]? = some (.cells #[.int .i64 1, .int .i64 (ln : Int)] 77) ∧ Below W1.heap.size W1 y6) := ⟨hpg, b6⟩
    refine hK.out _ _ (HSS.out _ b6) ?_
    clear hK K hpg hy6 hg4 hS4 b4 b6
    try simp only [Act.put, List.setIfInBounds_toArray, List.set_cons_zero, List.set_cons_succ]
    refine readyM (i := 5) (o := { dst := Option.none, op := Op.store 35 (Operand.tmp 6) (Operand.tmp 32), type := 0, pos := "ref.go:48", after := #[{ on := 4, ground := Ground.data }, { on := 4, ground := Ground.chain }, { on := 0, ground := Ground.phase }, { on := 1, ground := Ground.phase }, { on := 2, ground := Ground.phase }, { on := 3, ground := Ground.phase }, { on := 4, ground := Ground.phase }], guard := Option.none }) rfl (by kernel_rfl) ?_
    intro u5 hg5 hS5 K hK
    rw [if_pos (by rfl)]
    have H5 : Hid (u5.heap[pg]? = some (.cells #[.int .i64 1, .int .i64 (ln : Int)] 77) ∧ Below W1.heap.size W1 u5) := ⟨(Below.block hg5 _ (Array.getElem?_eq_some_iff.1 HPG.out.1).1).trans HPG.out.1, btrG HPG.out.2 hg5⟩
    obtain ⟨c0, c1, f0, f1⟩ := HCL.out u5 H5.out.2
    go_simp
    have HS6 : Hid (((u5.setCell ⟨z, 0, none⟩ (.int .i64 3)).setCell ⟨z, 1, none⟩ (.slice (some ⟨pg, 0, none⟩) 1 1)).heap[rb]? = some (.cells #[.int .i64 (ln : Int), .slice (some ⟨A, 0, none⟩) X.length lc] 103)) := ((Below.heap_setCell _ _ _ _ (by exact HNE.out)).trans (Below.heap_setCell _ _ _ _ (by exact HNE.out))).trans hS5.2.out
    refine hK.out _ _ ⟨by simp [World.cell?, HS6.out], HS6.out⟩ ?_
    clear hK K c0 c1 f0 f1 hS5 hg5
    try simp only [Act.put, List.setIfInBounds_toArray, List.set_cons_zero, List.set_cons_succ]
    refine wpAnyM_done (by kernel_rfl) ?_ _
    intro u9 hg9 hS9
    obtain ⟨g1, g2⟩ := ref_at (c := 3) H1.out.1 H5.out.2 (HZ.out u5 H5.out.2) H1.out.2.2.1 H5.out.1
    have H9 : Hid (u9.heap[z]? = some (.cells #[.int .i64 3, .slice (some ⟨pg, 0, none⟩) 1 1] 35) ∧ IsRef u9 (3, [(1, (ln : Int))]) (.agg #[.int .i64 3, .slice (some ⟨pg, 0, none⟩) 1 1]) ∧ Below w.heap.size w u9) := by
      have m0 := set_twoG (HZ.out u5 H5.out.2) (.int .i64 3) (.slice (some ⟨pg, 0, none⟩) 1 1)
      refine ⟨(Below.block hg9 _ (Array.getElem?_eq_some_iff.1 m0).1).trans m0, ?_, g2.trans (Below.mono hg9 g2.size)⟩
      obtain ⟨lo, l2, e1, e2⟩ := g1
      exact ⟨lo, l2, e1, e2.keep hg9⟩
    clear hS9 hg9 g1 g2
    go_wp2
    refine bodyPost_ret (form_res H9.out.1 rfl) rfl ?_
    unfold FoA foE
    rw [HF.out, if_neg (by decide)]
    exact ⟨_, rfl, H9.out.2.1, H9.out.2.2⟩
end Go.Proofs.YtghbekpilhnkfabDoor.Gt
