/- The law CsrFixed, walked: the document's examples; the order of errors; the greatest arrays. -/
import Derived.Test.YtgfmalimnbgdeaaDoorCsrFxL
import Derived.Test.YtgfmalimnbgdeaaDoorCsrDc
import Derived.Test.YtgfmalimnbgdeaaDoorCsrTri
namespace Go.Proofs.YtgfmalimnbgdeaaDoor
open Go.RowKit Go.Extern

attribute [local go_sem] Oper.semAt_some

/-- what the law's variables hold: the arrays c, the error's number, the great row. -/
structure FX (w0 wx : World) (F T V cb sb gb bb : Nat) : Prop where
  below : Below w0.heap.size w0 wx
  cin : CsrIn wx 3 zsB (some ⟨F, 0, none⟩) (some ⟨T, 0, none⟩) (some ⟨V, 0, none⟩) 4 3 3
  cbox : wx.heap[cb]? = some (.cells #[.slice (some ⟨F, 0, none⟩) 4 4, .slice (some ⟨T, 0, none⟩) 3 3, .slice (some ⟨V, 0, none⟩) 3 3] 29)
  sbox : wx.heap[sb]? = some (.cells #[.int .i64 14, .slice none 0 0] 37)
  gbox : wx.heap[gb]? = some (.cells #[.slice (some ⟨bb, 0, none⟩) 65538 65538, .slice none 0 0, .slice none 0 0] 29)
  big : IntRow wx bb 65538 (fun _ => 0)
section
variable {w0 wx wy : World} {F T V cb sb gb bb : Nat}
theorem FX.keep (h : FX w0 wx F T V cb sb gb bb) (hb : Below wx.heap.size wx wy) : FX w0 wy F T V cb sb gb bb :=
  ⟨h.below.trans (hb.mono h.below.size), h.cin.keep hb, (hb.block _ (lt_of_get h.cbox)).trans h.cbox, (hb.block _ (lt_of_get h.sbox)).trans h.sbox, (hb.block _ (lt_of_get h.gbox)).trans h.gbox, h.big.keep (hb.block _ h.big.lt)⟩
theorem FX.cells (h : FX w0 wx F T V cb sb gb bb) : (wx.cell? ⟨cb, 0, none⟩ = some (.slice (some ⟨F, 0, none⟩) 4 4) ∧ wx.cell? ⟨cb, 1, none⟩ = some (.slice (some ⟨T, 0, none⟩) 3 3) ∧ wx.cell? ⟨cb, 2, none⟩ = some (.slice (some ⟨V, 0, none⟩) 3 3)) ∧ (wx.cell? ⟨sb, 0, none⟩ = some (.int .i64 14) ∧ wx.cell? ⟨sb, 1, none⟩ = some (.slice none 0 0)) ∧ (wx.cell? ⟨gb, 0, none⟩ = some (.slice (some ⟨bb, 0, none⟩) 65538 65538) ∧ wx.cell? ⟨gb, 1, none⟩ = some (.slice none 0 0) ∧ wx.cell? ⟨gb, 2, none⟩ = some (.slice none 0 0)) ∧ cb < wx.heap.size ∧ sb < wx.heap.size ∧ gb < wx.heap.size :=
  ⟨box3 h.cbox, by simp [World.cell?, h.sbox], box3 h.gbox, lt_of_get h.cbox, lt_of_get h.sbox, lt_of_get h.gbox⟩
end
section
variable {wx : World} {F T V : Nat}
theorem rowc (hC : CsrIn wx 3 zsB (some ⟨F, 0, none⟩) (some ⟨T, 0, none⟩) (some ⟨V, 0, none⟩) 4 3 3) : Calls Tryd.prog 22 #[.agg #[.slice (some ⟨F, 0, none⟩) 4 4, .slice (some ⟨T, 0, none⟩) 3 3, .slice (some ⟨V, 0, none⟩) 3 3], .int .i64 3] wx fun e w' => e = .returned (.tuple #[.slice none 0 0, .iface 65 (.int .i64 7)]) ∧ Below wx.heap.size wx w' :=
  row_node 3 zsB _ _ _ 4 3 3 wx zsB_fine hC 3 (by omega)
theorem findc (v u r no : Int) (hC : CsrIn wx 3 zsB (some ⟨F, 0, none⟩) (some ⟨T, 0, none⟩) (some ⟨V, 0, none⟩) 4 3 3) (hF : FindIs 3 zsB v u r no) : Calls Tryd.prog 25 #[.agg #[.slice (some ⟨F, 0, none⟩) 4 4, .slice (some ⟨T, 0, none⟩) 3 3, .slice (some ⟨V, 0, none⟩) 3 3], .int .i64 v, .int .i64 u] wx fun e w' => e = .returned (.tuple #[.int .i64 r, numV no]) ∧ Below wx.heap.size wx w' :=
  find_good 3 zsB _ _ T 0 4 3 3 wx zsB_fine hC (by decide) v u r no hF
end
theorem fi1 : FindIs 3 zsB 0 0 0 16 := Or.inr ⟨⟨by omega, by omega⟩, Or.inr ⟨rfl, rfl, fun a ha h => by
  simp [zsB] at ha
  rcases ha with rfl | rfl | rfl <;> simp at h⟩⟩
theorem fi2 : FindIs 3 zsB (-1) 9 0 7 := Or.inl ⟨rfl, rfl, by omega⟩
theorem fi3 : FindIs 3 zsB 0 3 0 7 := Or.inl ⟨rfl, rfl, by omega⟩
theorem FX.drew {w0 wx : World} {F T V cb sb gb bb : Nat} (h : FX w0 wx F T V cb sb gb bb) : FX w0 wx.drew F T V cb sb gb bb := ⟨h.below.drew, h.cin.keep (Below.refl _ wx).drew, h.cbox, h.sbox, h.gbox, h.big⟩
theorem FX.held {w0 wx : World} {F T V cb sb gb bb : Nat} (h : FX w0 wx F T V cb sb gb bb) : (wx.cell? ⟨sb, 0, none⟩ = some (.int .i64 14) ∧ wx.cell? ⟨sb, 1, none⟩ = some (.slice none 0 0)) ∧ (wx.cell? ⟨gb, 0, none⟩ = some (.slice (some ⟨bb, 0, none⟩) 65538 65538) ∧ wx.cell? ⟨gb, 1, none⟩ = some (.slice none 0 0) ∧ wx.cell? ⟨gb, 2, none⟩ = some (.slice none 0 0)) := ⟨h.cells.2.1, h.cells.2.2.1⟩
theorem same_c {wx : World} {F T V b1 b2 b3 : Nat} (hC : CsrIn wx 3 zsB (some ⟨F, 0, none⟩) (some ⟨T, 0, none⟩) (some ⟨V, 0, none⟩) 4 3 3) (h1 : wx.heap[b1]? = some (.cells #[.int .i64 0, .int .i64 1, .int .i64 2, .int .i64 3] 3)) (h2 : wx.heap[b2]? = some (.cells #[.int .i64 2, .int .i64 0, .int .i64 0] 3)) (h3 : wx.heap[b3]? = some (.cells #[.int .i64 5, .int .i64 4, .int .i64 1] 3)) :
    Calls Tryd.prog 11 #[.agg #[.slice (some ⟨F, 0, none⟩) 4 4, .slice (some ⟨T, 0, none⟩) 3 3, .slice (some ⟨V, 0, none⟩) 3 3], .agg #[.slice (some ⟨b1, 0, none⟩) 4 4, .slice (some ⟨b2, 0, none⟩) 3 3, .slice (some ⟨b3, 0, none⟩) 3 3]] wx fun e w' => e = .returned (.bool true) ∧ Below wx.heap.size wx w' :=
  rSame_yes _ _ _ (some ⟨b1, 0, none⟩) (some ⟨b2, 0, none⟩) (some ⟨b3, 0, none⟩) 4 4 3 3 3 3 4 3 3 [0, 1, 2, 3] [2, 0, 0] [5, 4, 1] wx hC.f hC.t hC.w (ints_of_block (l := [0, 1, 2, 3]) h1 4) (ints_of_block (l := [2, 0, 0]) h2 3) (ints_of_block (l := [5, 4, 1]) h3 3) (by unfold maxLen; decide) (by unfold maxLen; decide) (by unfold maxLen; decide)
theorem same_z {wx : World} {F T V b1 : Nat} (hC : CsrIn wx 0 [] (some ⟨F, 0, none⟩) (some ⟨T, 0, none⟩) (some ⟨V, 0, none⟩) 1 0 0) (h1 : wx.heap[b1]? = some (.cells #[.int .i64 0] 3)) :
    Calls Tryd.prog 11 #[.agg #[.slice (some ⟨F, 0, none⟩) 1 1, .slice (some ⟨T, 0, none⟩) 0 0, .slice (some ⟨V, 0, none⟩) 0 0], .agg #[.slice (some ⟨b1, 0, none⟩) 1 1, .slice none 0 0, .slice none 0 0]] wx fun e w' => e = .returned (.bool true) ∧ Below wx.heap.size wx w' :=
  rSame_yes _ _ _ (some ⟨b1, 0, none⟩) none none 1 1 0 0 0 0 1 0 0 [0] [] [] wx hC.f hC.t hC.w (ints_of_block (l := [0]) h1 1) (ints_none _) (ints_none _) (by unfold maxLen; decide) (by unfold maxLen; decide) (by unfold maxLen; decide)

set_option maxRecDepth 100000 in
set_option maxHeartbeats 16000000 in
theorem fixed_calls (w : World) (hg : HasType w) : Calls Tryd.prog 6 #[] w fun e w' => e = .returned (.bool true) ∧ Below w.heap.size w w' := by
  have HG : Hid (∀ wx, Below w.heap.size w wx → HasType wx) := fun wx h => hg.keep h hg.pos
  have hmk := make_big
  clear hg
  go_enter Tryd.func6, Tryd.ntmps6
  go_wp2_with fail
  refine (awake_calls _).mono ?_
  rintro e w1 ⟨rfl, h⟩
  have I1 : Hid (Below w.heap.size w w1) := h
  clear h
  go_wp2_with fail
  refine (back_lit _ _ (heap_new _ _)).mono ?_
  rintro e w2 ⟨F, T, V, rfl, hC, h⟩
  have I2 : Hid (Below w.heap.size w w2 ∧ CsrIn w2 3 zsB (some ⟨F, 0, none⟩) (some ⟨T, 0, none⟩) (some ⟨V, 0, none⟩) 4 3 3) := by
    have h2 := I1.out.alloc I1.out.size (.cells #[.int .i64 2, .int .i64 0, .int .i64 5, .int .i64 0, .int .i64 1, .int .i64 4, .int .i64 0, .int .i64 2, .int .i64 1] 63)
    exact ⟨h2.trans (h.mono h2.size), hC⟩
  clear h hC
  go_wp2_with fail
  generalize hL : w2.alloc (.cells #[.slice (some ⟨F, 0, none⟩) 4 4, .slice (some ⟨T, 0, none⟩) 3 3, .slice (some ⟨V, 0, none⟩) 3 3] 29) = W2
  have I3 : Hid (Below w.heap.size w W2 ∧ CsrIn W2 3 zsB (some ⟨F, 0, none⟩) (some ⟨T, 0, none⟩) (some ⟨V, 0, none⟩) 4 3 3 ∧ W2.heap[w2.heap.size]? = some (.cells #[.slice (some ⟨F, 0, none⟩) 4 4, .slice (some ⟨T, 0, none⟩) 3 3, .slice (some ⟨V, 0, none⟩) 3 3] 29)) := by
    have hB : Below w2.heap.size w2 W2 := by rw [← hL]; exact (Below.refl _ _).alloc (Nat.le_refl _) _
    exact ⟨I2.out.1.trans (hB.mono I2.out.1.size), I2.out.2.keep hB, by rw [← hL]; exact heap_new _ _⟩
  clear hL
  generalize w2.heap.size = cb at *
  refine (build_none _).mono ?_
  rintro e w3 ⟨F', T', V', rfl, hC, h⟩
  have I4 : Hid (Below w.heap.size w w3 ∧ CsrIn w3 3 zsB (some ⟨F, 0, none⟩) (some ⟨T, 0, none⟩) (some ⟨V, 0, none⟩) 4 3 3 ∧ w3.heap[cb]? = some (.cells #[.slice (some ⟨F, 0, none⟩) 4 4, .slice (some ⟨T, 0, none⟩) 3 3, .slice (some ⟨V, 0, none⟩) 3 3] 29) ∧ CsrIn w3 0 [] (some ⟨F', 0, none⟩) (some ⟨T', 0, none⟩) (some ⟨V', 0, none⟩) 1 0 0) :=
    ⟨I3.out.1.trans (h.mono I3.out.1.size), I3.out.2.1.keep h, (h.block _ (lt_of_get I3.out.2.2)).trans I3.out.2.2, hC⟩
  clear h hC
  obtain ⟨c0, c1, c2⟩ := box3 I4.out.2.2.1
  have cs := lt_of_get I4.out.2.2.1
  go_wp2_with fail
  generalize hL : w3.alloc (.cells #[.slice (some ⟨F', 0, none⟩) 1 1, .slice (some ⟨T', 0, none⟩) 0 0, .slice (some ⟨V', 0, none⟩) 0 0] 29) = W3
  clear c0 c1 c2 cs
  have I5 : Hid (Below w.heap.size w W3 ∧ CsrIn W3 3 zsB (some ⟨F, 0, none⟩) (some ⟨T, 0, none⟩) (some ⟨V, 0, none⟩) 4 3 3 ∧ W3.heap[cb]? = some (.cells #[.slice (some ⟨F, 0, none⟩) 4 4, .slice (some ⟨T, 0, none⟩) 3 3, .slice (some ⟨V, 0, none⟩) 3 3] 29) ∧ CsrIn W3 0 [] (some ⟨F', 0, none⟩) (some ⟨T', 0, none⟩) (some ⟨V', 0, none⟩) 1 0 0 ∧ W3.heap[w3.heap.size]? = some (.cells #[.slice (some ⟨F', 0, none⟩) 1 1, .slice (some ⟨T', 0, none⟩) 0 0, .slice (some ⟨V', 0, none⟩) 0 0] 29)) := by
    have hB : Below w3.heap.size w3 W3 := by rw [← hL]; exact (Below.refl _ _).alloc (Nat.le_refl _) _
    exact ⟨I4.out.1.trans (hB.mono I4.out.1.size), I4.out.2.1.keep hB, (hB.block _ (lt_of_get I4.out.2.2.1)).trans I4.out.2.2.1, I4.out.2.2.2.keep hB, by rw [← hL]; exact heap_new _ _⟩
  clear hL
  generalize w3.heap.size = zb at *
  refine (lawOf_calls _ _ _ 4 4 3 3 3 3 W3).mono ?_
  rintro e w4 ⟨rfl, rfl⟩
  go_wp2_with fail
  refine (same_c (I5.out.2.1.keep (by repeat (first | (with_reducible exact Below.refl _ _) | (with_reducible refine Below.drew ?_) | (with_reducible refine Below.alloc ?_ (by simp <;> omega) _)))) (by simp only [heap_alloc_if]; simp) (by simp only [heap_alloc_if]; simp) (by simp only [heap_alloc_if]; simp)).mono ?_
  rintro e w5 ⟨rfl, h⟩
  have I6 : Hid (Below w.heap.size w w5 ∧ CsrIn w5 3 zsB (some ⟨F, 0, none⟩) (some ⟨T, 0, none⟩) (some ⟨V, 0, none⟩) 4 3 3 ∧ w5.heap[cb]? = some (.cells #[.slice (some ⟨F, 0, none⟩) 4 4, .slice (some ⟨T, 0, none⟩) 3 3, .slice (some ⟨V, 0, none⟩) 3 3] 29) ∧ CsrIn w5 0 [] (some ⟨F', 0, none⟩) (some ⟨T', 0, none⟩) (some ⟨V', 0, none⟩) 1 0 0 ∧ w5.heap[zb]? = some (.cells #[.slice (some ⟨F', 0, none⟩) 1 1, .slice (some ⟨T', 0, none⟩) 0 0, .slice (some ⟨V', 0, none⟩) 0 0] 29)) := by
    have hB : Below W3.heap.size W3 w5 := btr (by repeat (first | (with_reducible exact Below.refl _ _) | (with_reducible refine Below.drew ?_) | (with_reducible refine Below.alloc ?_ (by simp <;> omega) _))) h
    exact ⟨I5.out.1.trans (hB.mono I5.out.1.size), I5.out.2.1.keep hB, (hB.block _ (lt_of_get I5.out.2.2.1)).trans I5.out.2.2.1, I5.out.2.2.2.1.keep hB, (hB.block _ (lt_of_get I5.out.2.2.2.2)).trans I5.out.2.2.2.2⟩
  clear h
  obtain ⟨c0, c1, c2⟩ := box3 I6.out.2.2.2.2
  have cs := lt_of_get I6.out.2.2.2.2
  go_wp2_with fail
  clear c0 c1 c2 cs
  refine (lawOf_calls _ _ _ 1 1 0 0 0 0 w5).mono ?_
  rintro e w6 ⟨rfl, rfl⟩
  go_wp2_with fail
  refine (same_z (I6.out.2.2.2.1.keep (by repeat (first | (with_reducible exact Below.refl _ _) | (with_reducible refine Below.drew ?_) | (with_reducible refine Below.alloc ?_ (by simp <;> omega) _)))) (by simp only [heap_alloc_if]; simp)).mono ?_
  rintro e w7 ⟨rfl, h⟩
  have I7 : Hid (Below w.heap.size w w7 ∧ CsrIn w7 3 zsB (some ⟨F, 0, none⟩) (some ⟨T, 0, none⟩) (some ⟨V, 0, none⟩) 4 3 3 ∧ w7.heap[cb]? = some (.cells #[.slice (some ⟨F, 0, none⟩) 4 4, .slice (some ⟨T, 0, none⟩) 3 3, .slice (some ⟨V, 0, none⟩) 3 3] 29)) := by
    have hB : Below w5.heap.size w5 w7 := btr (by repeat (first | (with_reducible exact Below.refl _ _) | (with_reducible refine Below.drew ?_) | (with_reducible refine Below.alloc ?_ (by simp <;> omega) _))) h
    exact ⟨I6.out.1.trans (hB.mono I6.out.1.size), I6.out.2.1.keep hB, (hB.block _ (lt_of_get I6.out.2.2.1)).trans I6.out.2.2.1⟩
  clear h
  go_wp2_with fail
  refine (E_calls 14 w7).mono ?_
  rintro e w8 ⟨rfl, h⟩
  have I8 : Hid (Below w.heap.size w w8 ∧ CsrIn w8 3 zsB (some ⟨F, 0, none⟩) (some ⟨T, 0, none⟩) (some ⟨V, 0, none⟩) 4 3 3 ∧ w8.heap[cb]? = some (.cells #[.slice (some ⟨F, 0, none⟩) 4 4, .slice (some ⟨T, 0, none⟩) 3 3, .slice (some ⟨V, 0, none⟩) 3 3] 29)) :=
    ⟨I7.out.1.trans (h.mono I7.out.1.size), I7.out.2.1.keep h, (h.block _ (lt_of_get I7.out.2.2)).trans I7.out.2.2⟩
  clear h
  go_wp2_with fail
  generalize hL : ((w8.alloc (.cells #[.int .i64 14, .slice none 0 0] 37)).alloc (.cells (madeCells #[.int .i64 0] 65538) 3)).alloc (.cells #[.slice (some ⟨w8.heap.size + 1, 0, none⟩) 65538 65538, .slice none 0 0, .slice none 0 0] 29) = W8
  have X0 : Hid (FX w W8 F T V cb w8.heap.size (w8.heap.size + 1 + 1) (w8.heap.size + 1)) := by
    have hB : Below w8.heap.size w8 W8 := by rw [← hL]; exact below3 _ _ _ _
    refine ⟨I8.out.1.trans (hB.mono I8.out.1.size), I8.out.2.1.keep hB, (hB.block _ (lt_of_get I8.out.2.2)).trans I8.out.2.2, ?_, ?_, IntRow.made ?_⟩
    · rw [← hL, heap3, if_neg (by omega), if_neg (by omega), if_pos rfl]
    · rw [← hL, heap3, if_pos rfl]
    · rw [← hL, heap3, if_neg (by omega), if_pos rfl]
  clear hL
  generalize w8.heap.size = sb at *
  obtain ⟨gb, hgb⟩ : ∃ gb, sb + 1 + 1 = gb := ⟨_, rfl⟩
  obtain ⟨bb, hbb⟩ : ∃ bb, sb + 1 = bb := ⟨_, rfl⟩
  rw [hgb, hbb] at X0
  simp only [hgb]
  simp only [hbb]
  clear hgb hbb
  refine wp_region_held_drew (S := fun w' => (w'.cell? ⟨sb, 0, none⟩ = some (.int .i64 14) ∧ w'.cell? ⟨sb, 1, none⟩ = some (.slice none 0 0)) ∧ (w'.cell? ⟨gb, 0, none⟩ = some (.slice (some ⟨bb, 0, none⟩) 65538 65538) ∧ w'.cell? ⟨gb, 1, none⟩ = some (.slice none 0 0) ∧ w'.cell? ⟨gb, 2, none⟩ = some (.slice none 0 0))) (by kernel_rfl) (FX.held (FX.drew X0.out)) (fun hHeld0 => ?_)
  have X1 : Hid (FX w W8.drew F T V cb sb gb bb) := FX.drew X0.out
  refine wpAnyH_take (i := 0) (oi := { dst := some 56, op := Op.build 29 #[], type := 29, pos := "law.go:142", after := #[], guard := none }) (v := ?v0) rfl (by kernel_rfl) (by kernel_rfl) (by kernel_rfl) (fun _ _ _ h => h) (Or.inl ⟨by rfl, ?h0⟩) (by assumption) ?r0
  case h0 => ((intro wz hSw; (try dsimp only at hSw); go_simp); try (with_reducible rfl))
  simp only [Act.put, List.setIfInBounds_toArray, List.set_cons_zero, List.set_cons_succ]
  refine wpAnyH_take (i := 2) (oi := { dst := some 58, op := Op.load 37 (Operand.tmp 5), type := 37, pos := "law.go:142", after := #[], guard := none }) (v := ?v2) rfl (by kernel_rfl) (by kernel_rfl) (by kernel_rfl) (fun _ _ _ h => h) (Or.inl ⟨by rfl, ?h2⟩) (by assumption) ?r2
  case h2 => ((intro wz hSw; (try dsimp only at hSw); go_simp); try (with_reducible rfl))
  simp only [Act.put, List.setIfInBounds_toArray, List.set_cons_zero, List.set_cons_succ]
  refine wpAnyH_ready (rs := [1]) (by kernel_rfl) (by simp) ?_
  refine AllReadyH.cons (o := { dst := some 57, op := Op.call { callee := Callee.value (Operand.func 16), args := #[Operand.tmp 56], argTypes := #[29] }, type := 31, pos := "law.go:142", after := #[{ on := 0, ground := Ground.data }], guard := none }) rfl (fun K hK => ?_) AllReadyH.nil
  go_simp
  go_at_call 16; refine (chk_a _).mono ?_; rintro e y2 ⟨rfl, hy⟩
  have T2 : Hid (IsTold y2 (14, []) (.iface 65 (.int .i64 14))) := told_num _ (by omega)
  have X2 : Hid (FX w y2 F T V cb sb gb bb) := X1.out.keep hy
  clear hy
  go_wp2_with fail
  refine hK.out _ _ (FX.held X2.out) (fun hHeld1 => ?_)
  clear hK K hHeld0
  refine wpAnyH_ready (rs := [3]) (by kernel_rfl) (by simp) ?_
  refine AllReadyH.cons (o := { dst := some 59, op := Op.call { callee := Callee.value (Operand.func 13), args := #[Operand.tmp 57, Operand.tmp 58], argTypes := #[31, 37] }, type := 4, pos := "law.go:142", after := #[{ on := 1, ground := Ground.data }, { on := 2, ground := Ground.data }, { on := 1, ground := Ground.chain }], guard := none }) rfl (fun K hK => ?_) AllReadyH.nil
  go_simp
  go_at_call 13; refine (seen_num T2.out (HG.out _ X2.out.below)).mono ?_; rintro e y3 ⟨rfl, hy⟩
  have X3 : Hid (FX w y3 F T V cb sb gb bb) := X2.out.keep hy
  clear hy
  go_wp2_with fail
  refine hK.out _ _ (FX.held X3.out) (fun hHeld2 => ?_)
  clear hK K hHeld1
  refine wpAnyH_take (i := 4) (oi := { dst := some 60, op := Op.unOp UnOp.not 4 (Operand.tmp 59), type := 4, pos := "law.go:142", after := #[{ on := 3, ground := Ground.data }], guard := none }) (v := ?v4) rfl (by kernel_rfl) (by kernel_rfl) (by kernel_rfl) (fun _ _ _ h => h) (Or.inl ⟨by rfl, ?h4⟩) (by assumption) ?r4
  case h4 => ((intro wz hSw; (try dsimp only at hSw); go_simp); try (with_reducible rfl))
  simp only [Act.put, List.setIfInBounds_toArray, List.set_cons_zero, List.set_cons_succ]
  refine wpAnyH_take (i := 5) (oi := { dst := some 61, op := Op.move (Operand.tmp 60), type := 4, pos := "law.go:142", after := #[{ on := 4, ground := Ground.data }, { on := 3, ground := Ground.chain }], guard := none }) (v := ?v5) rfl (by kernel_rfl) (by kernel_rfl) (by kernel_rfl) (fun _ _ _ h => h) (Or.inl ⟨by rfl, ?h5⟩) (by assumption) ?r5
  case h5 => ((intro wz hSw; (try dsimp only at hSw); go_simp); try (with_reducible rfl))
  simp only [Act.put, List.setIfInBounds_toArray, List.set_cons_zero, List.set_cons_succ]
  refine wpAnyH_take (i := 11) (oi := { dst := some 67, op := Op.load 37 (Operand.tmp 5), type := 37, pos := "law.go:142", after := #[{ on := 5, ground := Ground.guard }], guard := some (5, false) }) (v := ?v11) rfl (by kernel_rfl) (by kernel_rfl) (by kernel_rfl) (fun _ _ _ h => h) (Or.inl ⟨by rfl, ?h11⟩) (by assumption) ?r11
  case h11 => ((intro wz hSw; (try dsimp only at hSw); go_simp); try (with_reducible rfl))
  simp only [Act.put, List.setIfInBounds_toArray, List.set_cons_zero, List.set_cons_succ]
  refine wpAnyH_three (i := 6) (j := 7) (k := 8) (oi := { dst := some 62, op := Op.buildSlice 27 4 #[(0, Operand.const (Value.int IntKind.i64 0)), (1, Operand.const (Value.int IntKind.i64 2)), (2, Operand.const (Value.int IntKind.i64 1)), (3, Operand.const (Value.int IntKind.i64 1))], type := 27, pos := "law.go:142", after := #[{ on := 5, ground := Ground.guard }], guard := some (5, false) }) (oj := { dst := some 63, op := Op.buildSlice 27 1 #[(0, Operand.const (Value.int IntKind.i64 1))], type := 27, pos := "law.go:142", after := #[{ on := 5, ground := Ground.guard }], guard := some (5, false) }) (ok := { dst := some 64, op := Op.buildSlice 27 1 #[(0, Operand.const (Value.int IntKind.i64 1))], type := 27, pos := "law.go:142", after := #[{ on := 5, ground := Ground.guard }], guard := some (5, false) }) (ci := #[.int .i64 0, .int .i64 2, .int .i64 1, .int .i64 1]) (cj := #[.int .i64 1]) (ck := #[.int .i64 1]) (T := 3) (ni := 4) (nj := 1) (nk := 1) rfl rfl rfl (by kernel_rfl) (by kernel_rfl) (by kernel_rfl) (by kernel_rfl) (by kernel_rfl) (by kernel_rfl) (by kernel_rfl) (by decide) (by kernel_rfl) (by kernel_rfl) (by kernel_rfl) (by kernel_rfl) (by kernel_rfl) (by kernel_rfl) (fun _ _ h => by cases h) (fun _ _ h => by cases h) (fun _ _ h => by cases h) ⟨by rfl, fun wz => by go_simp⟩ ⟨by rfl, fun wz => by go_simp⟩ ⟨by rfl, fun wz => by go_simp⟩ (fun wz hz => FX.held (X3.out.keep hz)) ?_
  intro f4 t4 u4 y4 g1 g2 g3 hy
  have G : Hid (y4.heap[f4]? = some (.cells #[.int .i64 0, .int .i64 2, .int .i64 1, .int .i64 1] 3) ∧ y4.heap[t4]? = some (.cells #[.int .i64 1] 3) ∧ y4.heap[u4]? = some (.cells #[.int .i64 1] 3)) := ⟨g1, g2, g3⟩
  have X4 : Hid (FX w y4 F T V cb sb gb bb) := X3.out.keep hy
  have hHeld3 : (fun w' => (w'.cell? ⟨sb, 0, none⟩ = some (.int .i64 14) ∧ w'.cell? ⟨sb, 1, none⟩ = some (.slice none 0 0)) ∧ (w'.cell? ⟨gb, 0, none⟩ = some (.slice (some ⟨bb, 0, none⟩) 65538 65538) ∧ w'.cell? ⟨gb, 1, none⟩ = some (.slice none 0 0) ∧ w'.cell? ⟨gb, 2, none⟩ = some (.slice none 0 0))) y4 := FX.held X4.out
  clear g1 g2 g3 hy hHeld2
  simp only [Act.put, List.setIfInBounds_toArray, List.set_cons_zero, List.set_cons_succ]
  refine wpAnyH_take (i := 9) (oi := { dst := some 65, op := Op.build 29 #[(0, Operand.tmp 62), (1, Operand.tmp 63), (2, Operand.tmp 64)], type := 29, pos := "law.go:142", after := #[{ on := 6, ground := Ground.data }, { on := 7, ground := Ground.data }, { on := 8, ground := Ground.data }, { on := 5, ground := Ground.guard }], guard := some (5, false) }) (v := ?v9) rfl (by kernel_rfl) (by kernel_rfl) (by kernel_rfl) (fun _ _ _ h => h) (Or.inl ⟨by rfl, ?h9⟩) (by assumption) ?r9
  case h9 => ((intro wz hSw; (try dsimp only at hSw); go_simp); try (with_reducible rfl))
  simp only [Act.put, List.setIfInBounds_toArray, List.set_cons_zero, List.set_cons_succ]
  refine wpAnyH_ready (rs := [10]) (by kernel_rfl) (by simp) ?_
  refine AllReadyH.cons (o := { dst := some 66, op := Op.call { callee := Callee.value (Operand.func 16), args := #[Operand.tmp 65], argTypes := #[29] }, type := 31, pos := "law.go:142", after := #[{ on := 9, ground := Ground.data }, { on := 5, ground := Ground.chain }, { on := 5, ground := Ground.guard }], guard := some (5, false) }) rfl (fun K hK => ?_) AllReadyH.nil
  go_simp
  go_at_call 16; refine (chk_f G.out.1).mono ?_; rintro e y5 ⟨tv5, rfl, ht, hy⟩
  have T5 : Hid (IsTold y5 (14, [(3, 1)]) tv5) := ht
  clear ht
  have X5 : Hid (FX w y5 F T V cb sb gb bb) := X4.out.keep hy
  clear hy
  go_wp2_with fail
  refine hK.out _ _ (FX.held X5.out) (fun hHeld4 => ?_)
  clear hK K hHeld3
  refine wpAnyH_ready (rs := [12]) (by kernel_rfl) (by simp) ?_
  refine AllReadyH.cons (o := { dst := some 68, op := Op.call { callee := Callee.value (Operand.func 29), args := #[Operand.const (Value.int IntKind.i64 3), Operand.const (Value.int IntKind.i64 1), Operand.tmp 67], argTypes := #[67, 3, 37] }, type := 37, pos := "law.go:142", after := #[{ on := 11, ground := Ground.data }, { on := 10, ground := Ground.chain }, { on := 5, ground := Ground.guard }], guard := some (5, false) }) rfl (fun K hK => ?_) AllReadyH.nil
  go_simp
  go_at_call 29; refine (refAt_calls 3 1 _ _).mono ?_; rintro e y6 ⟨pg6, rfl, hg, hy⟩
  have T6 : Hid (type_of% (T5.out.keep (Below.keeps hy))) := T5.out.keep (Below.keeps hy)
  have P6 : Hid (type_of% hg) := hg
  clear hg
  have X6 : Hid (FX w y6 F T V cb sb gb bb) := X5.out.keep hy
  clear hy
  go_wp2_with fail
  refine hK.out _ _ (FX.held X6.out) (fun hHeld5 => ?_)
  clear hK K hHeld4
  refine wpAnyH_ready (rs := [13]) (by kernel_rfl) (by simp) ?_
  refine AllReadyH.cons (o := { dst := some 69, op := Op.call { callee := Callee.value (Operand.func 13), args := #[Operand.tmp 66, Operand.tmp 68], argTypes := #[31, 37] }, type := 4, pos := "law.go:142", after := #[{ on := 10, ground := Ground.data }, { on := 12, ground := Ground.data }, { on := 12, ground := Ground.chain }, { on := 5, ground := Ground.guard }], guard := some (5, false) }) rfl (fun K hK => ?_) AllReadyH.nil
  go_simp
  go_at_call 13; refine (seen_one T6.out (HG.out _ X6.out.below) P6.out).mono ?_; rintro e y7 ⟨rfl, hy⟩
  have X7 : Hid (FX w y7 F T V cb sb gb bb) := X6.out.keep hy
  clear hy
  go_wp2_with fail
  refine hK.out _ _ (FX.held X7.out) (fun hHeld6 => ?_)
  clear hK K hHeld5
  refine wpAnyH_take (i := 14) (oi := { dst := some 70, op := Op.unOp UnOp.not 4 (Operand.tmp 69), type := 4, pos := "law.go:142", after := #[{ on := 13, ground := Ground.data }, { on := 5, ground := Ground.guard }], guard := some (5, false) }) (v := ?v14) rfl (by kernel_rfl) (by kernel_rfl) (by kernel_rfl) (fun _ _ _ h => h) (Or.inl ⟨by rfl, ?h14⟩) (by assumption) ?r14
  case h14 => ((intro wz hSw; (try dsimp only at hSw); go_simp); try (with_reducible rfl))
  simp only [Act.put, List.setIfInBounds_toArray, List.set_cons_zero, List.set_cons_succ]
  refine wpAnyH_take (i := 15) (oi := { dst := some 71, op := Op.pick (Operand.tmp 61) (Operand.const (Value.bool true)) (Operand.tmp 70), type := 4, pos := "law.go:142", after := #[{ on := 5, ground := Ground.data }, { on := 14, ground := Ground.data }], guard := none }) (v := ?v15) rfl (by kernel_rfl) (by kernel_rfl) (by kernel_rfl) (fun _ _ _ h => h) (Or.inl ⟨by rfl, ?h15⟩) (by assumption) ?r15
  case h15 => ((intro wz hSw; (try dsimp only at hSw); go_simp); try (with_reducible rfl))
  simp only [Act.put, List.setIfInBounds_toArray, List.set_cons_zero, List.set_cons_succ]
  refine wpAnyH_take (i := 16) (oi := { dst := some 72, op := Op.move (Operand.tmp 71), type := 4, pos := "law.go:142", after := #[{ on := 15, ground := Ground.data }, { on := 13, ground := Ground.chain }], guard := none }) (v := ?v16) rfl (by kernel_rfl) (by kernel_rfl) (by kernel_rfl) (fun _ _ _ h => h) (Or.inl ⟨by rfl, ?h16⟩) (by assumption) ?r16
  case h16 => ((intro wz hSw; (try dsimp only at hSw); go_simp); try (with_reducible rfl))
  simp only [Act.put, List.setIfInBounds_toArray, List.set_cons_zero, List.set_cons_succ]
  refine wpAnyH_take (i := 22) (oi := { dst := some 78, op := Op.load 37 (Operand.tmp 5), type := 37, pos := "law.go:142", after := #[{ on := 16, ground := Ground.guard }], guard := some (16, false) }) (v := ?v22) rfl (by kernel_rfl) (by kernel_rfl) (by kernel_rfl) (fun _ _ _ h => h) (Or.inl ⟨by rfl, ?h22⟩) (by assumption) ?r22
  case h22 => ((intro wz hSw; (try dsimp only at hSw); go_simp); try (with_reducible rfl))
  simp only [Act.put, List.setIfInBounds_toArray, List.set_cons_zero, List.set_cons_succ]
  refine wpAnyH_three (i := 17) (j := 18) (k := 19) (oi := { dst := some 73, op := Op.buildSlice 27 3 #[(0, Operand.const (Value.int IntKind.i64 0)), (1, Operand.const (Value.int IntKind.i64 2)), (2, Operand.const (Value.int IntKind.i64 2))], type := 27, pos := "law.go:142", after := #[{ on := 16, ground := Ground.guard }], guard := some (16, false) }) (oj := { dst := some 74, op := Op.buildSlice 27 2 #[(0, Operand.const (Value.int IntKind.i64 1)), (1, Operand.const (Value.int IntKind.i64 1))], type := 27, pos := "law.go:142", after := #[{ on := 16, ground := Ground.guard }], guard := some (16, false) }) (ok := { dst := some 75, op := Op.buildSlice 27 2 #[(0, Operand.const (Value.int IntKind.i64 3)), (1, Operand.const (Value.int IntKind.i64 4))], type := 27, pos := "law.go:142", after := #[{ on := 16, ground := Ground.guard }], guard := some (16, false) }) (ci := #[.int .i64 0, .int .i64 2, .int .i64 2]) (cj := #[.int .i64 1, .int .i64 1]) (ck := #[.int .i64 3, .int .i64 4]) (T := 3) (ni := 3) (nj := 2) (nk := 2) rfl rfl rfl (by kernel_rfl) (by kernel_rfl) (by kernel_rfl) (by kernel_rfl) (by kernel_rfl) (by kernel_rfl) (by kernel_rfl) (by decide) (by kernel_rfl) (by kernel_rfl) (by kernel_rfl) (by kernel_rfl) (by kernel_rfl) (by kernel_rfl) (fun _ _ h => by cases h) (fun _ _ h => by cases h) (fun _ _ h => by cases h) ⟨by rfl, fun wz => by go_simp⟩ ⟨by rfl, fun wz => by go_simp⟩ ⟨by rfl, fun wz => by go_simp⟩ (fun wz hz => FX.held (X7.out.keep hz)) ?_
  clear G
  intro f8 t8 u8 y8 g1 g2 g3 hy
  have G : Hid (y8.heap[f8]? = some (.cells #[.int .i64 0, .int .i64 2, .int .i64 2] 3) ∧ y8.heap[t8]? = some (.cells #[.int .i64 1, .int .i64 1] 3) ∧ y8.heap[u8]? = some (.cells #[.int .i64 3, .int .i64 4] 3)) := ⟨g1, g2, g3⟩
  have X8 : Hid (FX w y8 F T V cb sb gb bb) := X7.out.keep hy
  have hHeld7 : (fun w' => (w'.cell? ⟨sb, 0, none⟩ = some (.int .i64 14) ∧ w'.cell? ⟨sb, 1, none⟩ = some (.slice none 0 0)) ∧ (w'.cell? ⟨gb, 0, none⟩ = some (.slice (some ⟨bb, 0, none⟩) 65538 65538) ∧ w'.cell? ⟨gb, 1, none⟩ = some (.slice none 0 0) ∧ w'.cell? ⟨gb, 2, none⟩ = some (.slice none 0 0))) y8 := FX.held X8.out
  clear g1 g2 g3 hy hHeld6
  simp only [Act.put, List.setIfInBounds_toArray, List.set_cons_zero, List.set_cons_succ]
  refine wpAnyH_take (i := 20) (oi := { dst := some 76, op := Op.build 29 #[(0, Operand.tmp 73), (1, Operand.tmp 74), (2, Operand.tmp 75)], type := 29, pos := "law.go:142", after := #[{ on := 17, ground := Ground.data }, { on := 18, ground := Ground.data }, { on := 19, ground := Ground.data }, { on := 16, ground := Ground.guard }], guard := some (16, false) }) (v := ?v20) rfl (by kernel_rfl) (by kernel_rfl) (by kernel_rfl) (fun _ _ _ h => h) (Or.inl ⟨by rfl, ?h20⟩) (by assumption) ?r20
  case h20 => ((intro wz hSw; (try dsimp only at hSw); go_simp); try (with_reducible rfl))
  simp only [Act.put, List.setIfInBounds_toArray, List.set_cons_zero, List.set_cons_succ]
  refine wpAnyH_ready (rs := [21]) (by kernel_rfl) (by simp) ?_
  refine AllReadyH.cons (o := { dst := some 77, op := Op.call { callee := Callee.value (Operand.func 16), args := #[Operand.tmp 76], argTypes := #[29] }, type := 31, pos := "law.go:142", after := #[{ on := 20, ground := Ground.data }, { on := 16, ground := Ground.chain }, { on := 16, ground := Ground.guard }], guard := some (16, false) }) rfl (fun K hK => ?_) AllReadyH.nil
  go_simp
  go_at_call 16; refine (chk_s G.out.1 G.out.2.1 G.out.2.2).mono ?_; rintro e y9 ⟨tv9, rfl, ht, hy⟩
  have T9 : Hid (IsTold y9 (14, [(4, 1)]) tv9) := ht
  clear ht
  have X9 : Hid (FX w y9 F T V cb sb gb bb) := X8.out.keep hy
  clear hy
  go_wp2_with fail
  refine hK.out _ _ (FX.held X9.out) (fun hHeld8 => ?_)
  clear hK K hHeld7
  refine wpAnyH_ready (rs := [23]) (by kernel_rfl) (by simp) ?_
  refine AllReadyH.cons (o := { dst := some 79, op := Op.call { callee := Callee.value (Operand.func 29), args := #[Operand.const (Value.int IntKind.i64 4), Operand.const (Value.int IntKind.i64 1), Operand.tmp 78], argTypes := #[67, 3, 37] }, type := 37, pos := "law.go:142", after := #[{ on := 22, ground := Ground.data }, { on := 21, ground := Ground.chain }, { on := 16, ground := Ground.guard }], guard := some (16, false) }) rfl (fun K hK => ?_) AllReadyH.nil
  go_simp
  go_at_call 29; refine (refAt_calls 4 1 _ _).mono ?_; rintro e y10 ⟨pg10, rfl, hg, hy⟩
  have T10 : Hid (type_of% (T9.out.keep (Below.keeps hy))) := T9.out.keep (Below.keeps hy)
  have P10 : Hid (type_of% hg) := hg
  clear hg
  have X10 : Hid (FX w y10 F T V cb sb gb bb) := X9.out.keep hy
  clear hy
  go_wp2_with fail
  refine hK.out _ _ (FX.held X10.out) (fun hHeld9 => ?_)
  clear hK K hHeld8
  refine wpAnyH_ready (rs := [24]) (by kernel_rfl) (by simp) ?_
  refine AllReadyH.cons (o := { dst := some 80, op := Op.call { callee := Callee.value (Operand.func 13), args := #[Operand.tmp 77, Operand.tmp 79], argTypes := #[31, 37] }, type := 4, pos := "law.go:142", after := #[{ on := 21, ground := Ground.data }, { on := 23, ground := Ground.data }, { on := 23, ground := Ground.chain }, { on := 16, ground := Ground.guard }], guard := some (16, false) }) rfl (fun K hK => ?_) AllReadyH.nil
  go_simp
  go_at_call 13; refine (seen_one T10.out (HG.out _ X10.out.below) P10.out).mono ?_; rintro e y11 ⟨rfl, hy⟩
  have X11 : Hid (FX w y11 F T V cb sb gb bb) := X10.out.keep hy
  clear hy
  go_wp2_with fail
  refine hK.out _ _ (FX.held X11.out) (fun hHeld10 => ?_)
  clear hK K hHeld9
  refine wpAnyH_take (i := 25) (oi := { dst := some 81, op := Op.unOp UnOp.not 4 (Operand.tmp 80), type := 4, pos := "law.go:142", after := #[{ on := 24, ground := Ground.data }, { on := 16, ground := Ground.guard }], guard := some (16, false) }) (v := ?v25) rfl (by kernel_rfl) (by kernel_rfl) (by kernel_rfl) (fun _ _ _ h => h) (Or.inl ⟨by rfl, ?h25⟩) (by assumption) ?r25
  case h25 => ((intro wz hSw; (try dsimp only at hSw); go_simp); try (with_reducible rfl))
  simp only [Act.put, List.setIfInBounds_toArray, List.set_cons_zero, List.set_cons_succ]
  refine wpAnyH_take (i := 26) (oi := { dst := some 82, op := Op.pick (Operand.tmp 72) (Operand.const (Value.bool true)) (Operand.tmp 81), type := 4, pos := "law.go:142", after := #[{ on := 16, ground := Ground.data }, { on := 25, ground := Ground.data }], guard := none }) (v := ?v26) rfl (by kernel_rfl) (by kernel_rfl) (by kernel_rfl) (fun _ _ _ h => h) (Or.inl ⟨by rfl, ?h26⟩) (by assumption) ?r26
  case h26 => ((intro wz hSw; (try dsimp only at hSw); go_simp); try (with_reducible rfl))
  simp only [Act.put, List.setIfInBounds_toArray, List.set_cons_zero, List.set_cons_succ]
  refine wpAnyH_take (i := 27) (oi := { dst := some 83, op := Op.move (Operand.tmp 82), type := 4, pos := "law.go:142", after := #[{ on := 26, ground := Ground.data }, { on := 24, ground := Ground.chain }], guard := none }) (v := ?v27) rfl (by kernel_rfl) (by kernel_rfl) (by kernel_rfl) (fun _ _ _ h => h) (Or.inl ⟨by rfl, ?h27⟩) (by assumption) ?r27
  case h27 => ((intro wz hSw; (try dsimp only at hSw); go_simp); try (with_reducible rfl))
  simp only [Act.put, List.setIfInBounds_toArray, List.set_cons_zero, List.set_cons_succ]
  refine wpAnyH_take (i := 33) (oi := { dst := some 89, op := Op.load 37 (Operand.tmp 5), type := 37, pos := "law.go:142", after := #[{ on := 27, ground := Ground.guard }], guard := some (27, false) }) (v := ?v33) rfl (by kernel_rfl) (by kernel_rfl) (by kernel_rfl) (fun _ _ _ h => h) (Or.inl ⟨by rfl, ?h33⟩) (by assumption) ?r33
  case h33 => ((intro wz hSw; (try dsimp only at hSw); go_simp); try (with_reducible rfl))
  simp only [Act.put, List.setIfInBounds_toArray, List.set_cons_zero, List.set_cons_succ]
  refine wpAnyH_three (i := 28) (j := 29) (k := 30) (oi := { dst := some 84, op := Op.buildSlice 27 2 #[(0, Operand.const (Value.int IntKind.i64 0)), (1, Operand.const (Value.int IntKind.i64 1))], type := 27, pos := "law.go:142", after := #[{ on := 27, ground := Ground.guard }], guard := some (27, false) }) (oj := { dst := some 85, op := Op.buildSlice 27 1 #[(0, Operand.const (Value.int IntKind.i64 0))], type := 27, pos := "law.go:142", after := #[{ on := 27, ground := Ground.guard }], guard := some (27, false) }) (ok := { dst := some 86, op := Op.buildSlice 27 1 #[(0, Operand.const (Value.int IntKind.i64 1))], type := 27, pos := "law.go:142", after := #[{ on := 27, ground := Ground.guard }], guard := some (27, false) }) (ci := #[.int .i64 0, .int .i64 1]) (cj := #[.int .i64 0]) (ck := #[.int .i64 1]) (T := 3) (ni := 2) (nj := 1) (nk := 1) rfl rfl rfl (by kernel_rfl) (by kernel_rfl) (by kernel_rfl) (by kernel_rfl) (by kernel_rfl) (by kernel_rfl) (by kernel_rfl) (by decide) (by kernel_rfl) (by kernel_rfl) (by kernel_rfl) (by kernel_rfl) (by kernel_rfl) (by kernel_rfl) (fun _ _ h => by cases h) (fun _ _ h => by cases h) (fun _ _ h => by cases h) ⟨by rfl, fun wz => by go_simp⟩ ⟨by rfl, fun wz => by go_simp⟩ ⟨by rfl, fun wz => by go_simp⟩ (fun wz hz => FX.held (X11.out.keep hz)) ?_
  clear G
  intro f12 t12 u12 y12 g1 g2 g3 hy
  have G : Hid (y12.heap[f12]? = some (.cells #[.int .i64 0, .int .i64 1] 3) ∧ y12.heap[t12]? = some (.cells #[.int .i64 0] 3) ∧ y12.heap[u12]? = some (.cells #[.int .i64 1] 3)) := ⟨g1, g2, g3⟩
  have X12 : Hid (FX w y12 F T V cb sb gb bb) := X11.out.keep hy
  have hHeld11 : (fun w' => (w'.cell? ⟨sb, 0, none⟩ = some (.int .i64 14) ∧ w'.cell? ⟨sb, 1, none⟩ = some (.slice none 0 0)) ∧ (w'.cell? ⟨gb, 0, none⟩ = some (.slice (some ⟨bb, 0, none⟩) 65538 65538) ∧ w'.cell? ⟨gb, 1, none⟩ = some (.slice none 0 0) ∧ w'.cell? ⟨gb, 2, none⟩ = some (.slice none 0 0))) y12 := FX.held X12.out
  clear g1 g2 g3 hy hHeld10
  simp only [Act.put, List.setIfInBounds_toArray, List.set_cons_zero, List.set_cons_succ]
  refine wpAnyH_take (i := 31) (oi := { dst := some 87, op := Op.build 29 #[(0, Operand.tmp 84), (1, Operand.tmp 85), (2, Operand.tmp 86)], type := 29, pos := "law.go:142", after := #[{ on := 28, ground := Ground.data }, { on := 29, ground := Ground.data }, { on := 30, ground := Ground.data }, { on := 27, ground := Ground.guard }], guard := some (27, false) }) (v := ?v31) rfl (by kernel_rfl) (by kernel_rfl) (by kernel_rfl) (fun _ _ _ h => h) (Or.inl ⟨by rfl, ?h31⟩) (by assumption) ?r31
  case h31 => ((intro wz hSw; (try dsimp only at hSw); go_simp); try (with_reducible rfl))
  simp only [Act.put, List.setIfInBounds_toArray, List.set_cons_zero, List.set_cons_succ]
  refine wpAnyH_ready (rs := [32]) (by kernel_rfl) (by simp) ?_
  refine AllReadyH.cons (o := { dst := some 88, op := Op.call { callee := Callee.value (Operand.func 16), args := #[Operand.tmp 87], argTypes := #[29] }, type := 31, pos := "law.go:142", after := #[{ on := 31, ground := Ground.data }, { on := 27, ground := Ground.chain }, { on := 27, ground := Ground.guard }], guard := some (27, false) }) rfl (fun K hK => ?_) AllReadyH.nil
  go_simp
  go_at_call 16; refine (chk_l G.out.1 G.out.2.1 G.out.2.2).mono ?_; rintro e y13 ⟨tv13, rfl, ht, hy⟩
  have T13 : Hid (IsTold y13 (14, [(4, 0)]) tv13) := ht
  clear ht
  have X13 : Hid (FX w y13 F T V cb sb gb bb) := X12.out.keep hy
  clear hy
  go_wp2_with fail
  refine hK.out _ _ (FX.held X13.out) (fun hHeld12 => ?_)
  clear hK K hHeld11
  refine wpAnyH_ready (rs := [34]) (by kernel_rfl) (by simp) ?_
  refine AllReadyH.cons (o := { dst := some 90, op := Op.call { callee := Callee.value (Operand.func 29), args := #[Operand.const (Value.int IntKind.i64 4), Operand.const (Value.int IntKind.i64 0), Operand.tmp 89], argTypes := #[67, 3, 37] }, type := 37, pos := "law.go:142", after := #[{ on := 33, ground := Ground.data }, { on := 32, ground := Ground.chain }, { on := 27, ground := Ground.guard }], guard := some (27, false) }) rfl (fun K hK => ?_) AllReadyH.nil
  go_simp
  go_at_call 29; refine (refAt_calls 4 0 _ _).mono ?_; rintro e y14 ⟨pg14, rfl, hg, hy⟩
  have T14 : Hid (type_of% (T13.out.keep (Below.keeps hy))) := T13.out.keep (Below.keeps hy)
  have P14 : Hid (type_of% hg) := hg
  clear hg
  have X14 : Hid (FX w y14 F T V cb sb gb bb) := X13.out.keep hy
  clear hy
  go_wp2_with fail
  refine hK.out _ _ (FX.held X14.out) (fun hHeld13 => ?_)
  clear hK K hHeld12
  refine wpAnyH_ready (rs := [35]) (by kernel_rfl) (by simp) ?_
  refine AllReadyH.cons (o := { dst := some 91, op := Op.call { callee := Callee.value (Operand.func 13), args := #[Operand.tmp 88, Operand.tmp 90], argTypes := #[31, 37] }, type := 4, pos := "law.go:142", after := #[{ on := 32, ground := Ground.data }, { on := 34, ground := Ground.data }, { on := 34, ground := Ground.chain }, { on := 27, ground := Ground.guard }], guard := some (27, false) }) rfl (fun K hK => ?_) AllReadyH.nil
  go_simp
  go_at_call 13; refine (seen_one T14.out (HG.out _ X14.out.below) P14.out).mono ?_; rintro e y15 ⟨rfl, hy⟩
  have X15 : Hid (FX w y15 F T V cb sb gb bb) := X14.out.keep hy
  clear hy
  go_wp2_with fail
  refine hK.out _ _ (FX.held X15.out) (fun hHeld14 => ?_)
  clear hK K hHeld13
  refine wpAnyH_take (i := 36) (oi := { dst := some 92, op := Op.unOp UnOp.not 4 (Operand.tmp 91), type := 4, pos := "law.go:142", after := #[{ on := 35, ground := Ground.data }, { on := 27, ground := Ground.guard }], guard := some (27, false) }) (v := ?v36) rfl (by kernel_rfl) (by kernel_rfl) (by kernel_rfl) (fun _ _ _ h => h) (Or.inl ⟨by rfl, ?h36⟩) (by assumption) ?r36
  case h36 => ((intro wz hSw; (try dsimp only at hSw); go_simp); try (with_reducible rfl))
  simp only [Act.put, List.setIfInBounds_toArray, List.set_cons_zero, List.set_cons_succ]
  refine wpAnyH_take (i := 37) (oi := { dst := some 93, op := Op.pick (Operand.tmp 83) (Operand.const (Value.bool true)) (Operand.tmp 92), type := 4, pos := "law.go:142", after := #[{ on := 27, ground := Ground.data }, { on := 36, ground := Ground.data }], guard := none }) (v := ?v37) rfl (by kernel_rfl) (by kernel_rfl) (by kernel_rfl) (fun _ _ _ h => h) (Or.inl ⟨by rfl, ?h37⟩) (by assumption) ?r37
  case h37 => ((intro wz hSw; (try dsimp only at hSw); go_simp); try (with_reducible rfl))
  simp only [Act.put, List.setIfInBounds_toArray, List.set_cons_zero, List.set_cons_succ]
  refine wpAnyH_take (i := 38) (oi := { dst := some 94, op := Op.move (Operand.tmp 93), type := 4, pos := "law.go:142", after := #[{ on := 37, ground := Ground.data }, { on := 35, ground := Ground.chain }], guard := none }) (v := ?v38) rfl (by kernel_rfl) (by kernel_rfl) (by kernel_rfl) (fun _ _ _ h => h) (Or.inl ⟨by rfl, ?h38⟩) (by assumption) ?r38
  case h38 => ((intro wz hSw; (try dsimp only at hSw); go_simp); try (with_reducible rfl))
  simp only [Act.put, List.setIfInBounds_toArray, List.set_cons_zero, List.set_cons_succ]
  refine wpAnyH_three (i := 39) (j := 40) (k := 41) (oi := { dst := some 95, op := Op.buildSlice 27 3 #[(0, Operand.const (Value.int IntKind.i64 0)), (1, Operand.const (Value.int IntKind.i64 1)), (2, Operand.const (Value.int IntKind.i64 1))], type := 27, pos := "law.go:142", after := #[{ on := 38, ground := Ground.guard }], guard := some (38, false) }) (oj := { dst := some 96, op := Op.buildSlice 27 1 #[(0, Operand.const (Value.int IntKind.i64 2))], type := 27, pos := "law.go:142", after := #[{ on := 38, ground := Ground.guard }], guard := some (38, false) }) (ok := { dst := some 97, op := Op.buildSlice 27 1 #[(0, Operand.const (Value.int IntKind.i64 1))], type := 27, pos := "law.go:142", after := #[{ on := 38, ground := Ground.guard }], guard := some (38, false) }) (ci := #[.int .i64 0, .int .i64 1, .int .i64 1]) (cj := #[.int .i64 2]) (ck := #[.int .i64 1]) (T := 3) (ni := 3) (nj := 1) (nk := 1) rfl rfl rfl (by kernel_rfl) (by kernel_rfl) (by kernel_rfl) (by kernel_rfl) (by kernel_rfl) (by kernel_rfl) (by kernel_rfl) (by decide) (by kernel_rfl) (by kernel_rfl) (by kernel_rfl) (by kernel_rfl) (by kernel_rfl) (by kernel_rfl) (fun _ _ h => by cases h) (fun _ _ h => by cases h) (fun _ _ h => by cases h) ⟨by rfl, fun wz => by go_simp⟩ ⟨by rfl, fun wz => by go_simp⟩ ⟨by rfl, fun wz => by go_simp⟩ (fun wz hz => FX.held (X15.out.keep hz)) ?_
  clear G
  intro f16 t16 u16 y16 g1 g2 g3 hy
  have G : Hid (y16.heap[f16]? = some (.cells #[.int .i64 0, .int .i64 1, .int .i64 1] 3) ∧ y16.heap[t16]? = some (.cells #[.int .i64 2] 3) ∧ y16.heap[u16]? = some (.cells #[.int .i64 1] 3)) := ⟨g1, g2, g3⟩
  have X16 : Hid (FX w y16 F T V cb sb gb bb) := X15.out.keep hy
  have hHeld15 : (fun w' => (w'.cell? ⟨sb, 0, none⟩ = some (.int .i64 14) ∧ w'.cell? ⟨sb, 1, none⟩ = some (.slice none 0 0)) ∧ (w'.cell? ⟨gb, 0, none⟩ = some (.slice (some ⟨bb, 0, none⟩) 65538 65538) ∧ w'.cell? ⟨gb, 1, none⟩ = some (.slice none 0 0) ∧ w'.cell? ⟨gb, 2, none⟩ = some (.slice none 0 0))) y16 := FX.held X16.out
  clear g1 g2 g3 hy hHeld14
  simp only [Act.put, List.setIfInBounds_toArray, List.set_cons_zero, List.set_cons_succ]
  refine wpAnyH_take (i := 42) (oi := { dst := some 98, op := Op.build 29 #[(0, Operand.tmp 95), (1, Operand.tmp 96), (2, Operand.tmp 97)], type := 29, pos := "law.go:142", after := #[{ on := 39, ground := Ground.data }, { on := 40, ground := Ground.data }, { on := 41, ground := Ground.data }, { on := 38, ground := Ground.guard }], guard := some (38, false) }) (v := ?v42) rfl (by kernel_rfl) (by kernel_rfl) (by kernel_rfl) (fun _ _ _ h => h) (Or.inl ⟨by rfl, ?h42⟩) (by assumption) ?r42
  case h42 => ((intro wz hSw; (try dsimp only at hSw); go_simp); try (with_reducible rfl))
  simp only [Act.put, List.setIfInBounds_toArray, List.set_cons_zero, List.set_cons_succ]
  refine wpAnyH_ready (rs := [43]) (by kernel_rfl) (by simp) ?_
  refine AllReadyH.cons (o := { dst := some 99, op := Op.call { callee := Callee.value (Operand.func 16), args := #[Operand.tmp 98], argTypes := #[29] }, type := 31, pos := "law.go:142", after := #[{ on := 42, ground := Ground.data }, { on := 38, ground := Ground.chain }, { on := 38, ground := Ground.guard }], guard := some (38, false) }) rfl (fun K hK => ?_) AllReadyH.nil
  go_simp
  go_at_call 16; refine (chk_n G.out.1 G.out.2.1 G.out.2.2).mono ?_; rintro e y17 ⟨tv17, rfl, ht, hy⟩
  have T17 : Hid (IsTold y17 (7, [(4, 0)]) tv17) := ht
  clear ht
  have X17 : Hid (FX w y17 F T V cb sb gb bb) := X16.out.keep hy
  clear hy
  go_wp2_with fail
  refine hK.out _ _ (FX.held X17.out) (fun hHeld16 => ?_)
  clear hK K hHeld15
  refine wpAnyH_ready (rs := [44]) (by kernel_rfl) (by simp) ?_
  refine AllReadyH.cons (o := { dst := some 100, op := Op.call { callee := Callee.value (Operand.func 28), args := #[Operand.const (Value.int IntKind.i64 7)], argTypes := #[65] }, type := 37, pos := "law.go:142", after := #[{ on := 43, ground := Ground.chain }, { on := 38, ground := Ground.guard }], guard := some (38, false) }) rfl (fun K hK => ?_) AllReadyH.nil
  go_simp
  go_at_call 28; refine (E_calls 7 _).mono ?_; rintro e y18 ⟨rfl, hy⟩
  have T18 : Hid (type_of% (T17.out.keep (Below.keeps hy))) := T17.out.keep (Below.keeps hy)
  have X18 : Hid (FX w y18 F T V cb sb gb bb) := X17.out.keep hy
  clear hy
  go_wp2_with fail
  refine hK.out _ _ (FX.held X18.out) (fun hHeld17 => ?_)
  clear hK K hHeld16
  refine wpAnyH_ready (rs := [45]) (by kernel_rfl) (by simp) ?_
  refine AllReadyH.cons (o := { dst := some 101, op := Op.call { callee := Callee.value (Operand.func 29), args := #[Operand.const (Value.int IntKind.i64 4), Operand.const (Value.int IntKind.i64 0), Operand.tmp 100], argTypes := #[67, 3, 37] }, type := 37, pos := "law.go:142", after := #[{ on := 44, ground := Ground.data }, { on := 44, ground := Ground.chain }, { on := 38, ground := Ground.guard }], guard := some (38, false) }) rfl (fun K hK => ?_) AllReadyH.nil
  go_simp
  go_at_call 29; refine (refAt_calls 4 0 _ _).mono ?_; rintro e y19 ⟨pg19, rfl, hg, hy⟩
  have T19 : Hid (type_of% (T18.out.keep (Below.keeps hy))) := T18.out.keep (Below.keeps hy)
  have P19 : Hid (type_of% hg) := hg
  clear hg
  have X19 : Hid (FX w y19 F T V cb sb gb bb) := X18.out.keep hy
  clear hy
  go_wp2_with fail
  refine hK.out _ _ (FX.held X19.out) (fun hHeld18 => ?_)
  clear hK K hHeld17
  refine wpAnyH_ready (rs := [46]) (by kernel_rfl) (by simp) ?_
  refine AllReadyH.cons (o := { dst := some 102, op := Op.call { callee := Callee.value (Operand.func 13), args := #[Operand.tmp 99, Operand.tmp 101], argTypes := #[31, 37] }, type := 4, pos := "law.go:142", after := #[{ on := 43, ground := Ground.data }, { on := 45, ground := Ground.data }, { on := 45, ground := Ground.chain }, { on := 38, ground := Ground.guard }], guard := some (38, false) }) rfl (fun K hK => ?_) AllReadyH.nil
  go_simp
  go_at_call 13; refine (seen_one T19.out (HG.out _ X19.out.below) P19.out).mono ?_; rintro e y20 ⟨rfl, hy⟩
  have X20 : Hid (FX w y20 F T V cb sb gb bb) := X19.out.keep hy
  clear hy
  go_wp2_with fail
  refine hK.out _ _ (FX.held X20.out) (fun hHeld19 => ?_)
  clear hK K hHeld18
  refine wpAnyH_take (i := 47) (oi := { dst := some 103, op := Op.unOp UnOp.not 4 (Operand.tmp 102), type := 4, pos := "law.go:142", after := #[{ on := 46, ground := Ground.data }, { on := 38, ground := Ground.guard }], guard := some (38, false) }) (v := ?v47) rfl (by kernel_rfl) (by kernel_rfl) (by kernel_rfl) (fun _ _ _ h => h) (Or.inl ⟨by rfl, ?h47⟩) (by assumption) ?r47
  case h47 => ((intro wz hSw; (try dsimp only at hSw); go_simp); try (with_reducible rfl))
  simp only [Act.put, List.setIfInBounds_toArray, List.set_cons_zero, List.set_cons_succ]
  refine wpAnyH_take (i := 48) (oi := { dst := some 104, op := Op.pick (Operand.tmp 94) (Operand.const (Value.bool true)) (Operand.tmp 103), type := 4, pos := "law.go:142", after := #[{ on := 38, ground := Ground.data }, { on := 47, ground := Ground.data }], guard := none }) (v := ?v48) rfl (by kernel_rfl) (by kernel_rfl) (by kernel_rfl) (fun _ _ _ h => h) (Or.inl ⟨by rfl, ?h48⟩) (by assumption) ?r48
  case h48 => ((intro wz hSw; (try dsimp only at hSw); go_simp); try (with_reducible rfl))
  simp only [Act.put, List.setIfInBounds_toArray, List.set_cons_zero, List.set_cons_succ]
  refine wpAnyH_take (i := 49) (oi := { dst := some 105, op := Op.move (Operand.tmp 104), type := 4, pos := "law.go:142", after := #[{ on := 48, ground := Ground.data }, { on := 46, ground := Ground.chain }], guard := none }) (v := ?v49) rfl (by kernel_rfl) (by kernel_rfl) (by kernel_rfl) (fun _ _ _ h => h) (Or.inl ⟨by rfl, ?h49⟩) (by assumption) ?r49
  case h49 => ((intro wz hSw; (try dsimp only at hSw); go_simp); try (with_reducible rfl))
  simp only [Act.put, List.setIfInBounds_toArray, List.set_cons_zero, List.set_cons_succ]
  refine wpAnyH_take (i := 55) (oi := { dst := some 111, op := Op.load 37 (Operand.tmp 5), type := 37, pos := "law.go:142", after := #[{ on := 49, ground := Ground.guard }], guard := some (49, false) }) (v := ?v55) rfl (by kernel_rfl) (by kernel_rfl) (by kernel_rfl) (fun _ _ _ h => h) (Or.inl ⟨by rfl, ?h55⟩) (by assumption) ?r55
  case h55 => ((intro wz hSw; (try dsimp only at hSw); go_simp); try (with_reducible rfl))
  simp only [Act.put, List.setIfInBounds_toArray, List.set_cons_zero, List.set_cons_succ]
  refine wpAnyH_three (i := 50) (j := 51) (k := 52) (oi := { dst := some 106, op := Op.buildSlice 27 2 #[(0, Operand.const (Value.int IntKind.i64 1)), (1, Operand.const (Value.int IntKind.i64 1))], type := 27, pos := "law.go:142", after := #[{ on := 49, ground := Ground.guard }], guard := some (49, false) }) (oj := { dst := some 107, op := Op.buildSlice 27 1 #[(0, Operand.const (Value.int IntKind.i64 2))], type := 27, pos := "law.go:142", after := #[{ on := 49, ground := Ground.guard }], guard := some (49, false) }) (ok := { dst := some 108, op := Op.buildSlice 27 1 #[(0, Operand.const (Value.int IntKind.i64 1))], type := 27, pos := "law.go:142", after := #[{ on := 49, ground := Ground.guard }], guard := some (49, false) }) (ci := #[.int .i64 1, .int .i64 1]) (cj := #[.int .i64 2]) (ck := #[.int .i64 1]) (T := 3) (ni := 2) (nj := 1) (nk := 1) rfl rfl rfl (by kernel_rfl) (by kernel_rfl) (by kernel_rfl) (by kernel_rfl) (by kernel_rfl) (by kernel_rfl) (by kernel_rfl) (by decide) (by kernel_rfl) (by kernel_rfl) (by kernel_rfl) (by kernel_rfl) (by kernel_rfl) (by kernel_rfl) (fun _ _ h => by cases h) (fun _ _ h => by cases h) (fun _ _ h => by cases h) ⟨by rfl, fun wz => by go_simp⟩ ⟨by rfl, fun wz => by go_simp⟩ ⟨by rfl, fun wz => by go_simp⟩ (fun wz hz => FX.held (X20.out.keep hz)) ?_
  clear G
  intro f21 t21 u21 y21 g1 g2 g3 hy
  have G : Hid (y21.heap[f21]? = some (.cells #[.int .i64 1, .int .i64 1] 3) ∧ y21.heap[t21]? = some (.cells #[.int .i64 2] 3) ∧ y21.heap[u21]? = some (.cells #[.int .i64 1] 3)) := ⟨g1, g2, g3⟩
  have X21 : Hid (FX w y21 F T V cb sb gb bb) := X20.out.keep hy
  have hHeld20 : (fun w' => (w'.cell? ⟨sb, 0, none⟩ = some (.int .i64 14) ∧ w'.cell? ⟨sb, 1, none⟩ = some (.slice none 0 0)) ∧ (w'.cell? ⟨gb, 0, none⟩ = some (.slice (some ⟨bb, 0, none⟩) 65538 65538) ∧ w'.cell? ⟨gb, 1, none⟩ = some (.slice none 0 0) ∧ w'.cell? ⟨gb, 2, none⟩ = some (.slice none 0 0))) y21 := FX.held X21.out
  clear g1 g2 g3 hy hHeld19
  simp only [Act.put, List.setIfInBounds_toArray, List.set_cons_zero, List.set_cons_succ]
  refine wpAnyH_take (i := 53) (oi := { dst := some 109, op := Op.build 29 #[(0, Operand.tmp 106), (1, Operand.tmp 107), (2, Operand.tmp 108)], type := 29, pos := "law.go:142", after := #[{ on := 50, ground := Ground.data }, { on := 51, ground := Ground.data }, { on := 52, ground := Ground.data }, { on := 49, ground := Ground.guard }], guard := some (49, false) }) (v := ?v53) rfl (by kernel_rfl) (by kernel_rfl) (by kernel_rfl) (fun _ _ _ h => h) (Or.inl ⟨by rfl, ?h53⟩) (by assumption) ?r53
  case h53 => ((intro wz hSw; (try dsimp only at hSw); go_simp); try (with_reducible rfl))
  simp only [Act.put, List.setIfInBounds_toArray, List.set_cons_zero, List.set_cons_succ]
  refine wpAnyH_ready (rs := [54]) (by kernel_rfl) (by simp) ?_
  refine AllReadyH.cons (o := { dst := some 110, op := Op.call { callee := Callee.value (Operand.func 16), args := #[Operand.tmp 109], argTypes := #[29] }, type := 31, pos := "law.go:142", after := #[{ on := 53, ground := Ground.data }, { on := 49, ground := Ground.chain }, { on := 49, ground := Ground.guard }], guard := some (49, false) }) rfl (fun K hK => ?_) AllReadyH.nil
  go_simp
  go_at_call 16; refine (chk_b G.out.1).mono ?_; rintro e y22 ⟨rfl, hy⟩
  have T22 : Hid (IsTold y22 (14, []) (.iface 65 (.int .i64 14))) := told_num _ (by omega)
  have X22 : Hid (FX w y22 F T V cb sb gb bb) := X21.out.keep hy
  clear hy
  go_wp2_with fail
  refine hK.out _ _ (FX.held X22.out) (fun hHeld21 => ?_)
  clear hK K hHeld20
  refine wpAnyH_ready (rs := [56]) (by kernel_rfl) (by simp) ?_
  refine AllReadyH.cons (o := { dst := some 112, op := Op.call { callee := Callee.value (Operand.func 13), args := #[Operand.tmp 110, Operand.tmp 111], argTypes := #[31, 37] }, type := 4, pos := "law.go:142", after := #[{ on := 54, ground := Ground.data }, { on := 55, ground := Ground.data }, { on := 54, ground := Ground.chain }, { on := 49, ground := Ground.guard }], guard := some (49, false) }) rfl (fun K hK => ?_) AllReadyH.nil
  go_simp
  go_at_call 13; refine (seen_num T22.out (HG.out _ X22.out.below)).mono ?_; rintro e y23 ⟨rfl, hy⟩
  have X23 : Hid (FX w y23 F T V cb sb gb bb) := X22.out.keep hy
  clear hy
  go_wp2_with fail
  refine hK.out _ _ (FX.held X23.out) (fun hHeld22 => ?_)
  clear hK K hHeld21
  refine wpAnyH_take (i := 57) (oi := { dst := some 113, op := Op.unOp UnOp.not 4 (Operand.tmp 112), type := 4, pos := "law.go:142", after := #[{ on := 56, ground := Ground.data }, { on := 49, ground := Ground.guard }], guard := some (49, false) }) (v := ?v57) rfl (by kernel_rfl) (by kernel_rfl) (by kernel_rfl) (fun _ _ _ h => h) (Or.inl ⟨by rfl, ?h57⟩) (by assumption) ?r57
  case h57 => ((intro wz hSw; (try dsimp only at hSw); go_simp); try (with_reducible rfl))
  simp only [Act.put, List.setIfInBounds_toArray, List.set_cons_zero, List.set_cons_succ]
  refine wpAnyH_take (i := 58) (oi := { dst := some 114, op := Op.pick (Operand.tmp 105) (Operand.const (Value.bool true)) (Operand.tmp 113), type := 4, pos := "law.go:142", after := #[{ on := 49, ground := Ground.data }, { on := 57, ground := Ground.data }], guard := none }) (v := ?v58) rfl (by kernel_rfl) (by kernel_rfl) (by kernel_rfl) (fun _ _ _ h => h) (Or.inl ⟨by rfl, ?h58⟩) (by assumption) ?r58
  case h58 => ((intro wz hSw; (try dsimp only at hSw); go_simp); try (with_reducible rfl))
  simp only [Act.put, List.setIfInBounds_toArray, List.set_cons_zero, List.set_cons_succ]
  refine wpAnyH_take (i := 59) (oi := { dst := some 115, op := Op.move (Operand.tmp 114), type := 4, pos := "law.go:142", after := #[{ on := 58, ground := Ground.data }, { on := 56, ground := Ground.chain }], guard := none }) (v := ?v59) rfl (by kernel_rfl) (by kernel_rfl) (by kernel_rfl) (fun _ _ _ h => h) (Or.inl ⟨by rfl, ?h59⟩) (by assumption) ?r59
  case h59 => ((intro wz hSw; (try dsimp only at hSw); go_simp); try (with_reducible rfl))
  simp only [Act.put, List.setIfInBounds_toArray, List.set_cons_zero, List.set_cons_succ]
  refine wpAnyH_take (i := 60) (oi := { dst := some 116, op := Op.load 29 (Operand.tmp 6), type := 29, pos := "law.go:142", after := #[{ on := 59, ground := Ground.guard }], guard := some (59, false) }) (v := ?v60) rfl (by kernel_rfl) (by kernel_rfl) (by kernel_rfl) (fun _ _ _ h => h) (Or.inl ⟨by rfl, ?h60⟩) (by assumption) ?r60
  case h60 => ((intro wz hSw; (try dsimp only at hSw); go_simp); try (with_reducible rfl))
  simp only [Act.put, List.setIfInBounds_toArray, List.set_cons_zero, List.set_cons_succ]
  refine wpAnyH_ready (rs := [61]) (by kernel_rfl) (by simp) ?_
  refine AllReadyH.cons (o := { dst := some 117, op := Op.call { callee := Callee.value (Operand.func 16), args := #[Operand.tmp 116], argTypes := #[29] }, type := 31, pos := "law.go:142", after := #[{ on := 60, ground := Ground.data }, { on := 59, ground := Ground.chain }, { on := 59, ground := Ground.guard }], guard := some (59, false) }) rfl (fun K hK => ?_) AllReadyH.nil
  go_simp
  go_at_call 16; refine (chk_big X23.out.big).mono ?_; rintro e y24 ⟨rfl, hy⟩
  have T24 : Hid (IsTold y24 (9, []) (.iface 65 (.int .i64 9))) := told_num _ (by omega)
  have X24 : Hid (FX w y24 F T V cb sb gb bb) := X23.out.keep hy
  clear hy
  go_wp2_with fail
  refine hK.out _ _ (FX.held X24.out) (fun hHeld23 => ?_)
  clear hK K hHeld22
  refine wpAnyH_ready (rs := [62]) (by kernel_rfl) (by simp) ?_
  refine AllReadyH.cons (o := { dst := some 118, op := Op.call { callee := Callee.value (Operand.func 28), args := #[Operand.const (Value.int IntKind.i64 9)], argTypes := #[65] }, type := 37, pos := "law.go:142", after := #[{ on := 61, ground := Ground.chain }, { on := 59, ground := Ground.guard }], guard := some (59, false) }) rfl (fun K hK => ?_) AllReadyH.nil
  go_simp
  go_at_call 28; refine (E_calls 9 _).mono ?_; rintro e y25 ⟨rfl, hy⟩
  have T25 : Hid (type_of% (T24.out.keep (Below.keeps hy))) := T24.out.keep (Below.keeps hy)
  have X25 : Hid (FX w y25 F T V cb sb gb bb) := X24.out.keep hy
  clear hy
  go_wp2_with fail
  refine hK.out _ _ (FX.held X25.out) (fun hHeld24 => ?_)
  clear hK K hHeld23
  refine wpAnyH_ready (rs := [63]) (by kernel_rfl) (by simp) ?_
  refine AllReadyH.cons (o := { dst := some 119, op := Op.call { callee := Callee.value (Operand.func 13), args := #[Operand.tmp 117, Operand.tmp 118], argTypes := #[31, 37] }, type := 4, pos := "law.go:142", after := #[{ on := 61, ground := Ground.data }, { on := 62, ground := Ground.data }, { on := 62, ground := Ground.chain }, { on := 59, ground := Ground.guard }], guard := some (59, false) }) rfl (fun K hK => ?_) AllReadyH.nil
  go_simp
  go_at_call 13; refine (seen_num T25.out (HG.out _ X25.out.below)).mono ?_; rintro e y26 ⟨rfl, hy⟩
  have X26 : Hid (FX w y26 F T V cb sb gb bb) := X25.out.keep hy
  clear hy
  go_wp2_with fail
  refine hK.out _ _ (FX.held X26.out) (fun hHeld25 => ?_)
  clear hK K hHeld24
  refine wpAnyH_take (i := 64) (oi := { dst := some 120, op := Op.unOp UnOp.not 4 (Operand.tmp 119), type := 4, pos := "law.go:142", after := #[{ on := 63, ground := Ground.data }, { on := 59, ground := Ground.guard }], guard := some (59, false) }) (v := ?v64) rfl (by kernel_rfl) (by kernel_rfl) (by kernel_rfl) (fun _ _ _ h => h) (Or.inl ⟨by rfl, ?h64⟩) (by assumption) ?r64
  case h64 => ((intro wz hSw; (try dsimp only at hSw); go_simp); try (with_reducible rfl))
  simp only [Act.put, List.setIfInBounds_toArray, List.set_cons_zero, List.set_cons_succ]
  refine wpAnyH_take (i := 65) (oi := { dst := some 121, op := Op.pick (Operand.tmp 115) (Operand.const (Value.bool true)) (Operand.tmp 120), type := 4, pos := "law.go:142", after := #[{ on := 59, ground := Ground.data }, { on := 64, ground := Ground.data }], guard := none }) (v := ?v65) rfl (by kernel_rfl) (by kernel_rfl) (by kernel_rfl) (fun _ _ _ h => h) (Or.inl ⟨by rfl, ?h65⟩) (by assumption) ?r65
  case h65 => ((intro wz hSw; (try dsimp only at hSw); go_simp); try (with_reducible rfl))
  simp only [Act.put, List.setIfInBounds_toArray, List.set_cons_zero, List.set_cons_succ]
  refine wpAnyH_take (i := 66) (oi := { dst := some 122, op := Op.move (Operand.tmp 121), type := 4, pos := "law.go:142", after := #[{ on := 65, ground := Ground.data }, { on := 63, ground := Ground.chain }], guard := none }) (v := ?v66) rfl (by kernel_rfl) (by kernel_rfl) (by kernel_rfl) (fun _ _ _ h => h) (Or.inl ⟨by rfl, ?h66⟩) (by assumption) ?r66
  case h66 => ((intro wz hSw; (try dsimp only at hSw); go_simp); try (with_reducible rfl))
  simp only [Act.put, List.setIfInBounds_toArray, List.set_cons_zero, List.set_cons_succ]
  refine wpAnyH_take (i := 67) (oi := { dst := some 123, op := Op.fieldAddr 29 (Operand.tmp 6) 0, type := 0, pos := "law.go:142", after := #[{ on := 66, ground := Ground.guard }], guard := some (66, false) }) (v := ?v67) rfl (by kernel_rfl) (by kernel_rfl) (by kernel_rfl) (fun _ _ _ h => h) (Or.inl ⟨by rfl, ?h67⟩) (by assumption) ?r67
  case h67 => ((intro wz hSw; (try dsimp only at hSw); go_simp); try (with_reducible rfl))
  simp only [Act.put, List.setIfInBounds_toArray, List.set_cons_zero, List.set_cons_succ]
  refine wpAnyH_take (i := 68) (oi := { dst := some 124, op := Op.load 27 (Operand.tmp 123), type := 27, pos := "law.go:142", after := #[{ on := 67, ground := Ground.data }, { on := 66, ground := Ground.guard }], guard := some (66, false) }) (v := ?v68) rfl (by kernel_rfl) (by kernel_rfl) (by kernel_rfl) (fun _ _ _ h => h) (Or.inl ⟨by rfl, ?h68⟩) (by assumption) ?r68
  case h68 => ((intro wz hSw; (try dsimp only at hSw); go_simp); try (with_reducible rfl))
  simp only [Act.put, List.setIfInBounds_toArray, List.set_cons_zero, List.set_cons_succ]
  refine wpAnyH_take (i := 69) (oi := { dst := some 125, op := Op.slice 27 (Operand.tmp 124) (some (Operand.const (Value.int IntKind.i64 1))) none none, type := 27, pos := "law.go:142", after := #[{ on := 68, ground := Ground.data }, { on := 66, ground := Ground.guard }], guard := some (66, false) }) (v := ?v69) rfl (by kernel_rfl) (by kernel_rfl) (by kernel_rfl) (fun _ _ _ h => h) (Or.inl ⟨by rfl, ?h69⟩) (by assumption) ?r69
  case h69 => ((intro wz hSw; (try dsimp only at hSw); go_simp); try (with_reducible rfl))
  simp only [Act.put, List.setIfInBounds_toArray, List.set_cons_zero, List.set_cons_succ]
  refine wpAnyH_take (i := 70) (oi := { dst := some 126, op := Op.build 29 #[(0, Operand.tmp 125)], type := 29, pos := "law.go:142", after := #[{ on := 69, ground := Ground.data }, { on := 66, ground := Ground.guard }], guard := some (66, false) }) (v := ?v70) rfl (by kernel_rfl) (by kernel_rfl) (by kernel_rfl) (fun _ _ _ h => h) (Or.inl ⟨by rfl, ?h70⟩) (by assumption) ?r70
  case h70 => ((intro wz hSw; (try dsimp only at hSw); go_simp); try (with_reducible rfl))
  simp only [Act.put, List.setIfInBounds_toArray, List.set_cons_zero, List.set_cons_succ]
  refine wpAnyH_ready (rs := [71]) (by kernel_rfl) (by simp) ?_
  refine AllReadyH.cons (o := { dst := some 127, op := Op.call { callee := Callee.value (Operand.func 16), args := #[Operand.tmp 126], argTypes := #[29] }, type := 31, pos := "law.go:142", after := #[{ on := 70, ground := Ground.data }, { on := 66, ground := Ground.chain }, { on := 66, ground := Ground.guard }], guard := some (66, false) }) rfl (fun K hK => ?_) AllReadyH.nil
  go_simp
  go_at_call 16; refine (chk_full X26.out.big).mono ?_; rintro e y27 ⟨rfl, hy⟩
  have X27 : Hid (FX w y27 F T V cb sb gb bb) := X26.out.keep hy
  clear hy
  go_wp2_with fail
  refine hK.out _ _ (FX.held X27.out) (fun hHeld26 => ?_)
  clear hK K hHeld25
  refine wpAnyH_take (i := 72) (oi := { dst := some 128, op := Op.binOp BinOp.neq 31 (Operand.tmp 127) (Operand.const Value.nilIface) 31, type := 4, pos := "law.go:142", after := #[{ on := 71, ground := Ground.data }, { on := 66, ground := Ground.guard }], guard := some (66, false) }) (v := ?v72) rfl (by kernel_rfl) (by kernel_rfl) (by kernel_rfl) (fun _ _ _ h => h) (Or.inl ⟨by rfl, ?h72⟩) (by assumption) ?r72
  case h72 => ((intro wz hSw; (try dsimp only at hSw); go_simp); try (with_reducible rfl))
  simp only [Act.put, List.setIfInBounds_toArray, List.set_cons_zero, List.set_cons_succ]
  refine wpAnyH_take (i := 73) (oi := { dst := some 129, op := Op.pick (Operand.tmp 122) (Operand.const (Value.bool true)) (Operand.tmp 128), type := 4, pos := "law.go:142", after := #[{ on := 66, ground := Ground.data }, { on := 72, ground := Ground.data }], guard := none }) (v := ?v73) rfl (by kernel_rfl) (by kernel_rfl) (by kernel_rfl) (fun _ _ _ h => h) (Or.inl ⟨by rfl, ?h73⟩) (by assumption) ?r73
  case h73 => ((intro wz hSw; (try dsimp only at hSw); go_simp); try (with_reducible rfl))
  simp only [Act.put, List.setIfInBounds_toArray, List.set_cons_zero, List.set_cons_succ]
  refine wpAnyH_done (by kernel_rfl) ?_ _
  clear G hHeld26
  have Z0 : Hid (FX w y27 F T V cb sb gb bb) := X27.out
  clear X0 X1 X2 X3 X4 X5 X6 X7 X8 X9 X10 X11 X12 X13 X14 X15 X16 X17 X18 X19 X20 X21 X22 X23 X24 X25 X26 X27
  obtain ⟨⟨c0, c1, c2⟩, ⟨s0, s1⟩, _, cs, ss, _⟩ := Z0.out.cells
  go_wp2_with fail
  refine (rowc Z0.out.cin).mono ?_
  rintro e z1 ⟨rfl, hy⟩
  have Z1 : Hid (FX w z1 F T V cb sb gb bb) := Z0.out.keep hy
  clear hy
  clear c0 c1 c2 s0 s1 cs ss
  obtain ⟨⟨c0, c1, c2⟩, ⟨s0, s1⟩, _, cs, ss, _⟩ := Z1.out.cells
  go_wp2_with fail
  refine (findc 0 0 0 16 Z1.out.cin fi1).mono ?_
  rintro e z2 ⟨rfl, hy⟩
  have Z2 : Hid (FX w z2 F T V cb sb gb bb) := Z1.out.keep hy
  clear hy
  rw [show numV 16 = .iface 65 (.int .i64 16) from rfl]
  clear c0 c1 c2 s0 s1 cs ss
  obtain ⟨⟨c0, c1, c2⟩, ⟨s0, s1⟩, _, cs, ss, _⟩ := Z2.out.cells
  go_wp2_with fail
  refine (findc (-1) 9 0 7 Z2.out.cin fi2).mono ?_
  rintro e z3 ⟨rfl, hy⟩
  have Z3 : Hid (FX w z3 F T V cb sb gb bb) := Z2.out.keep hy
  clear hy
  rw [show numV 7 = .iface 65 (.int .i64 7) from rfl]
  clear c0 c1 c2 s0 s1 cs ss
  obtain ⟨⟨c0, c1, c2⟩, ⟨s0, s1⟩, _, cs, ss, _⟩ := Z3.out.cells
  go_wp2_with fail
  refine (findc 0 3 0 7 Z3.out.cin fi3).mono ?_
  rintro e z4 ⟨rfl, hy⟩
  have Z4 : Hid (FX w z4 F T V cb sb gb bb) := Z3.out.keep hy
  clear hy
  rw [show numV 7 = .iface 65 (.int .i64 7) from rfl]
  clear c0 c1 c2 s0 s1 cs ss
  obtain ⟨⟨c0, c1, c2⟩, ⟨s0, s1⟩, _, cs, ss, _⟩ := Z4.out.cells
  go_wp2_with fail
  refine (row_b (heap_new _ _)).mono ?_
  rintro e z5 ⟨Ty, tx, rfl, ht, hy⟩
  have Z5 : Hid (FX w z5 F T V cb sb gb bb) := Z4.out.keep (btr ((Below.refl _ _).alloc (Nat.le_refl _) _) hy)
  have U5 : Hid (IsTold z5 (14, []) (.iface Ty tx)) := ht
  clear hy ht c0 c1 c2 s0 s1 cs ss
  go_wp2_with fail
  refine (E_calls 7 _).mono ?_
  rintro e z6 ⟨rfl, hy⟩
  have Z6 : Hid (FX w z6 F T V cb sb gb bb) := Z5.out.keep hy
  have U6 : Hid (type_of% (U5.out.keep (Below.keeps hy))) := U5.out.keep (Below.keeps hy)
  clear hy
  go_wp2_with fail
  refine (seen_num (c := 7) (told_num _ (by omega)) (HG.out _ Z6.out.below)).mono ?_
  rintro e z7 ⟨rfl, hy⟩
  have Z7 : Hid (FX w z7 F T V cb sb gb bb) := Z6.out.keep hy
  have U7 : Hid (type_of% (U6.out.keep (Below.keeps hy))) := U6.out.keep (Below.keeps hy)
  clear hy
  go_wp2_with fail
  refine (E_calls 16 _).mono ?_
  rintro e z8 ⟨rfl, hy⟩
  have Z8 : Hid (FX w z8 F T V cb sb gb bb) := Z7.out.keep hy
  have U8 : Hid (type_of% (U7.out.keep (Below.keeps hy))) := U7.out.keep (Below.keeps hy)
  clear hy
  go_wp2_with fail
  refine (seen_num (c := 16) (told_num _ (by omega)) (HG.out _ Z8.out.below)).mono ?_
  rintro e z9 ⟨rfl, hy⟩
  have Z9 : Hid (FX w z9 F T V cb sb gb bb) := Z8.out.keep hy
  have U9 : Hid (type_of% (U8.out.keep (Below.keeps hy))) := U8.out.keep (Below.keeps hy)
  clear hy
  go_wp2_with fail
  refine (E_calls 7 _).mono ?_
  rintro e z10 ⟨rfl, hy⟩
  have Z10 : Hid (FX w z10 F T V cb sb gb bb) := Z9.out.keep hy
  have U10 : Hid (type_of% (U9.out.keep (Below.keeps hy))) := U9.out.keep (Below.keeps hy)
  clear hy
  go_wp2_with fail
  refine (seen_num (c := 7) (told_num _ (by omega)) (HG.out _ Z10.out.below)).mono ?_
  rintro e z11 ⟨rfl, hy⟩
  have Z11 : Hid (FX w z11 F T V cb sb gb bb) := Z10.out.keep hy
  have U11 : Hid (type_of% (U10.out.keep (Below.keeps hy))) := U10.out.keep (Below.keeps hy)
  clear hy
  go_wp2_with fail
  refine (E_calls 7 _).mono ?_
  rintro e z12 ⟨rfl, hy⟩
  have Z12 : Hid (FX w z12 F T V cb sb gb bb) := Z11.out.keep hy
  have U12 : Hid (type_of% (U11.out.keep (Below.keeps hy))) := U11.out.keep (Below.keeps hy)
  clear hy
  go_wp2_with fail
  refine (seen_num (c := 7) (told_num _ (by omega)) (HG.out _ Z12.out.below)).mono ?_
  rintro e z13 ⟨rfl, hy⟩
  have Z13 : Hid (FX w z13 F T V cb sb gb bb) := Z12.out.keep hy
  have U13 : Hid (type_of% (U12.out.keep (Below.keeps hy))) := U12.out.keep (Below.keeps hy)
  clear hy
  obtain ⟨⟨c0, c1, c2⟩, ⟨s0, s1⟩, _, cs, ss, _⟩ := Z13.out.cells
  go_wp2_with fail
  refine (seen_num U13.out (HG.out _ Z13.out.below)).mono ?_
  rintro e z14 ⟨rfl, hy⟩
  have Z14 : Hid (FX w z14 F T V cb sb gb bb) := Z13.out.keep hy
  clear hy
  go_wp2
  go_ret
  exact ⟨rfl, Z14.out.below⟩
end Go.Proofs.YtgfmalimnbgdeaaDoor
