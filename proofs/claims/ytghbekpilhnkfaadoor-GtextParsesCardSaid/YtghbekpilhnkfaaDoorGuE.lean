/- the laws GtextChecks and GtextParses. (genue.py) -/
import Derived.Test.YtghbekpilhnkfaaDoorGuD
import Derived.Test.YtghbekpilhnkfaaDoorGtY
namespace Go.Proofs.YtghbekpilhnkfaaDoor.Gt
open Go Go.Lib Go.RowKit Go.Extern Hi

attribute [local go_sem] Oper.semAt_some

theorem graphErr_len (N : Int) (xs : List Arc3) : (graphErr N xs).2.length ≤ maxLen := by
  unfold graphErr
  split
  · exact Nat.zero_le _
  · split
    · exact Nat.zero_le _
    · simp [maxLen]
theorem own_len {w : World} {B n m : Nat} {e : TypeId} {z : Nat} {ao : Option Addr} {xs : List Value} (h : w.ownsRow B e z (.slice ao n m) n xs) : n ≤ maxLen := by
  rcases h.2 with ⟨e1, h0⟩ | ⟨g, cap, cur, e1, hg, hh, hc, hcm, r⟩
  · rw [h0]; exact Nat.zero_le _
  · omega
theorem psE_len (t : By) : (psE t).2.length ≤ maxLen := by
  have h1 : (rowsE t).2.length ≤ 1 := by
    unfold rowsE
    split
    · exact Nat.zero_le _
    · split
      · exact Nat.zero_le _
      · exact Nat.le_refl _
  have h2 : (psE t).2.length ≤ 1 := by
    unfold psE
    split
    · split
      · exact Nat.zero_le _
      · exact Nat.le_refl _
    · exact h1
  unfold maxLen
  omega

set_option maxRecDepth 100000 in
set_option maxHeartbeats 8000000 in
theorem gchecks_calls (N : Int) (ao : Option Addr) (cap : Nat) (xs : List Arc3) (w : World) (hl : HasArcs w (.slice ao xs.length cap) xs) (hm : xs.length ≤ maxLen) (hT : TabW w) (hH : HasType w) :
    Calls Tryd.prog 3 #[.agg #[.int .i64 N, .slice ao xs.length cap]] w fun e w' => e = .returned (.bool true) ∧ Below w.heap.size w w' := by
  obtain ⟨z, hz⟩ : ∃ z, w.heap.size = z := ⟨_, rfl⟩
  obtain ⟨W1, hW1⟩ : ∃ W1, w.alloc (.cells #[.int .i64 N, .slice ao xs.length cap] 24) = W1 := ⟨_, rfl⟩
  have HW1 : Hid (w.alloc (.cells #[.int .i64 N, .slice ao xs.length cap] 24) = W1) := hW1
  have n0 : W1.heap[z]? = some (.cells #[.int .i64 N, .slice ao xs.length cap] 24) := by rw [← hW1, ← hz]; exact heap_newG _ _
  have hb1 : Below w.heap.size w W1 := by rw [← hW1]; exact (Below.refl _ _).alloc (Nat.le_refl _) _
  have HK1 : Hid (∀ wx, Below W1.heap.size W1 wx → wx.cell? ⟨z, 0, none⟩ = some (.int .i64 N) ∧ wx.cell? ⟨z, 1, none⟩ = some (.slice ao xs.length cap) ∧ HasArcs wx (.slice ao xs.length cap) xs ∧ TabW wx ∧ HasType wx ∧ Below w.heap.size w wx) := fun wx hx => by
    have m := (hx.block _ (Array.getElem?_eq_some_iff.1 n0).1).trans n0
    have hb := hb1.trans (hx.mono hb1.size)
    exact ⟨by simp [World.cell?, m], by simp [World.cell?, m], hl.keep hb, hT.keep hb hT.lt, hH.keep hb hH.pos, hb⟩
  have HAW : Hid (Calls Tryd.prog 9 #[] W1 fun e w' => e = .returned (.bool true) ∧ Below W1.heap.size W1 w') := awake3_calls W1 (HK1.out W1 (Below.refl _ _)).2.2.2.1 (HK1.out W1 (Below.refl _ _)).2.2.2.2.1
  clear hW1 n0 hb1 hT hH hl
  go_enter Tryd.func3, Tryd.ntmps3
  go_upto_region 1 with fail
  rw [HW1.out]
  try rw [hz]
  go_wp2_with fail
  refine HAW.out.mono ?_
  rintro e y1 ⟨rfl, hy1⟩
  have HY1 : Hid (Below W1.heap.size W1 y1) := hy1
  obtain ⟨c0, c1, hA1, hT1, _, _⟩ := HK1.out y1 hy1
  have HPR : Hid (Calls Tryd.prog 10 #[.agg #[.int .i64 N, .slice ao xs.length cap]] y1 (PrA N xs y1)) := print_calls N ao cap xs y1 hA1 hm hT1
  clear hy1 HAW hA1 hT1
  go_wp2_with fail
  refine HPR.out.mono ?_
  rintro e y2 ⟨s, v, rfl, hs, htd, hy2⟩
  have hb2 : Below W1.heap.size W1 y2 := btrG HY1.out hy2
  obtain ⟨d0, d1, hA1, hT1, _, _⟩ := HK1.out y2 hb2
  have HY2 : Hid (IsTold y2 (graphErr N xs) v ∧ bs s = prS N xs ∧ Below W1.heap.size W1 y2) := ⟨htd, hs, hb2⟩
  have HDP : Hid (Calls Tryd.prog 11 #[.agg #[.int .i64 N, .slice ao xs.length cap]] y2 (DrPA N xs y2)) := docPrint_calls N ao cap xs y2 hA1 hm hT1
  clear hs htd hy2 hb2 hA1 hT1 HPR c0 c1
  go_wp2_with fail
  refine HDP.out.mono ?_
  rintro e y3 ⟨s2, lo, lc, rfl, hs2, hp, hy3⟩
  obtain rfl : s = s2 := bs_inj (HY2.out.2.1.trans hs2.symm)
  obtain ⟨E, hE⟩ : ∃ E, graphErr N xs = E := ⟨_, rfl⟩
  have HE : Hid (graphErr N xs = E) := hE
  have HLE : Hid (E.2.length ≤ maxLen) := by rw [← hE]; exact graphErr_len N xs
  rw [hE] at hp HY2 ⊢
  obtain ⟨eb, heb⟩ : ∃ eb, y3.heap.size = eb := ⟨_, rfl⟩
  obtain ⟨W4, hW4⟩ : ∃ W4, y3.alloc (.cells #[.int .i64 E.1, .slice lo E.2.length lc] 32) = W4 := ⟨_, rfl⟩
  have HW4 : Hid (y3.alloc (.cells #[.int .i64 E.1, .slice lo E.2.length lc] 32) = W4) := hW4
  have m0 : W4.heap[eb]? = some (.cells #[.int .i64 E.1, .slice lo E.2.length lc] 32) := by rw [← hW4, ← heb]; exact heap_newG _ _
  have hb4 : Below y3.heap.size y3 W4 := by rw [← hW4]; exact (Below.refl _ _).alloc (Nat.le_refl _) _
  have hb14 : Below W1.heap.size W1 W4 := btrG (btrG HY2.out.2.2 hy3) hb4
  have ht4 : IsTold W4 E v := (HY2.out.1.keep (Below.keeps hy3)).keep (Below.keeps hb4)
  have HK : Hid (∀ wx, Below W4.heap.size W4 wx → wx.cell? ⟨z, 0, none⟩ = some (.int .i64 N) ∧ wx.cell? ⟨z, 1, none⟩ = some (.slice ao xs.length cap) ∧ HasArcs wx (.slice ao xs.length cap) xs ∧ TabW wx ∧ HasType wx ∧ Below w.heap.size w wx ∧ wx.cell? ⟨eb, 0, none⟩ = some (.int .i64 E.1) ∧ wx.cell? ⟨eb, 1, none⟩ = some (.slice lo E.2.length lc) ∧ IsTold wx E v ∧ HasPlaces wx (.slice lo E.2.length lc) E.2) := fun wx hx => by
    obtain ⟨g0, g1, g2, g3, g4, g5⟩ := HK1.out wx (btrG hb14 hx)
    have m := (hx.block _ (Array.getElem?_eq_some_iff.1 m0).1).trans m0
    exact ⟨g0, g1, g2, g3, g4, g5, by simp [World.cell?, m], by simp [World.cell?, m], ht4.keep (Below.keeps hx), (hp.keep hb4).keep hx⟩
  have HS : Hid (∀ wx, Below W4.heap.size W4 wx → (fun w' : World => w'.cell? ⟨z, 0, none⟩ = some (.int .i64 N) ∧ w'.cell? ⟨z, 1, none⟩ = some (.slice ao xs.length cap) ∧ w'.cell? ⟨eb, 0, none⟩ = some (.int .i64 E.1) ∧ w'.cell? ⟨eb, 1, none⟩ = some (.slice lo E.2.length lc) ∧ Hid (Below W4.heap.size W4 w')) wx) := fun wx hx => by
    obtain ⟨g0, g1, _, _, _, _, g6, g7, _⟩ := HK.out wx hx
    exact ⟨g0, g1, g6, g7, (hx : Hid _)⟩
  have HSE : Hid (∀ wx, (fun w' : World => w'.cell? ⟨z, 0, none⟩ = some (.int .i64 N) ∧ w'.cell? ⟨z, 1, none⟩ = some (.slice ao xs.length cap) ∧ w'.cell? ⟨eb, 0, none⟩ = some (.int .i64 E.1) ∧ w'.cell? ⟨eb, 1, none⟩ = some (.slice lo E.2.length lc) ∧ Hid (Below W4.heap.size W4 w')) wx → Calls Tryd.prog 12 #[v, .agg #[.int .i64 E.1, .slice lo E.2.length lc]] wx fun e w' => e = .returned (.bool true) ∧ Below wx.heap.size wx w' ∧ (fun w' : World => w'.cell? ⟨z, 0, none⟩ = some (.int .i64 N) ∧ w'.cell? ⟨z, 1, none⟩ = some (.slice ao xs.length cap) ∧ w'.cell? ⟨eb, 0, none⟩ = some (.int .i64 E.1) ∧ w'.cell? ⟨eb, 1, none⟩ = some (.slice lo E.2.length lc) ∧ Hid (Below W4.heap.size W4 w')) w') := fun wx hSx => by
    have hx := hSx.2.2.2.2.out
    obtain ⟨_, _, _, _, g4, _, _, _, g8, g9⟩ := HK.out wx hx
    refine (seen_told E v lo lc wx g8 g9 HLE.out g4).mono ?_
    rintro e w' ⟨rfl, hb⟩
    exact ⟨rfl, hb, HS.out w' (btrG hx hb)⟩
  clear hW4 m0 hb4 hb14 ht4 hp hy3 hs2 hE HDP d0 d1
  go_upto_region 5 with fail
  rw [HW4.out]
  try rw [heb]
  refine wp_region_M (S := (fun w' : World => w'.cell? ⟨z, 0, none⟩ = some (.int .i64 N) ∧ w'.cell? ⟨z, 1, none⟩ = some (.slice ao xs.length cap) ∧ w'.cell? ⟨eb, 0, none⟩ = some (.int .i64 E.1) ∧ w'.cell? ⟨eb, 1, none⟩ = some (.slice lo E.2.length lc) ∧ Hid (Below W4.heap.size W4 w'))) (by kernel_rfl) (HS.out _ (Below.refl _ _).drew) ?_
  refine wpAnyM_take (i := 0) (oi := { dst := Option.some 19, op := Op.move (Operand.tmp 3), type := 9, pos := "law.go:28", after := #[], guard := Option.none }) (v := ?va1z0) rfl (by kernel_rfl) (by kernel_rfl) (by kernel_rfl) (fun _ _ _ h => h) (YieldsM.of_if (Or.inl ⟨by rfl, ?ha1z0⟩)) ?ra1z0
  case ha1z0 => ((intro wz hSw; (try dsimp only at hSw); go_simp); try (with_reducible rfl))
  try simp only [Act.put, List.setIfInBounds_toArray, List.set_cons_zero, List.set_cons_succ]
  refine wpAnyM_take (i := 1) (oi := { dst := Option.some 20, op := Op.move (Operand.tmp 5), type := 9, pos := "law.go:28", after := #[], guard := Option.none }) (v := ?va2z1) rfl (by kernel_rfl) (by kernel_rfl) (by kernel_rfl) (fun _ _ _ h => h) (YieldsM.of_if (Or.inl ⟨by rfl, ?ha2z1⟩)) ?ra2z1
  case ha2z1 => ((intro wz hSw; (try dsimp only at hSw); go_simp); try (with_reducible rfl))
  try simp only [Act.put, List.setIfInBounds_toArray, List.set_cons_zero, List.set_cons_succ]
  refine wpAnyM_take (i := 2) (oi := { dst := Option.some 21, op := Op.binOp BinOp.eql 9 (Operand.tmp 19) (Operand.tmp 20) 9, type := 4, pos := "law.go:28", after := #[{ on := 0, ground := Ground.data }, { on := 1, ground := Ground.data }], guard := Option.none }) (v := ?va3z2) rfl (by kernel_rfl) (by kernel_rfl) (by kernel_rfl) (fun _ _ _ h => h) (YieldsM.of_if (Or.inl ⟨by rfl, ?ha3z2⟩)) ?ra3z2
  case ha3z2 => ((intro wz hSw; (try dsimp only at hSw); go_simp); try (with_reducible rfl))
  try simp only [Act.put, List.setIfInBounds_toArray, List.set_cons_zero, List.set_cons_succ]
  refine wpAnyM_take (i := 3) (oi := { dst := Option.some 22, op := Op.move (Operand.tmp 21), type := 4, pos := "law.go:28", after := #[{ on := 2, ground := Ground.data }], guard := Option.none }) (v := ?va4z3) rfl (by kernel_rfl) (by kernel_rfl) (by kernel_rfl) (fun _ _ _ h => h) (YieldsM.of_if (Or.inl ⟨by rfl, ?ha4z3⟩)) ?ra4z3
  case ha4z3 => ((intro wz hSw; (try dsimp only at hSw); go_simp); try (with_reducible rfl))
  try simp only [Act.put, List.setIfInBounds_toArray, List.set_cons_zero, List.set_cons_succ]
  refine wpAnyM_take (i := 4) (oi := { dst := Option.some 23, op := Op.move (Operand.tmp 4), type := 27, pos := "law.go:28", after := #[{ on := 3, ground := Ground.guard }], guard := Option.some (3, Bool.true) }) (v := ?va5z4) rfl (by kernel_rfl) (by kernel_rfl) (by kernel_rfl) (fun _ _ _ h => h) (YieldsM.of_if (Or.inl ⟨by rfl, ?ha5z4⟩)) ?ra5z4
  case ha5z4 => ((intro wz hSw; (try dsimp only at hSw); go_simp); try (with_reducible rfl))
  try simp only [Act.put, List.setIfInBounds_toArray, List.set_cons_zero, List.set_cons_succ]
  refine wpAnyM_take (i := 5) (oi := { dst := Option.some 24, op := Op.load 32 (Operand.tmp 6), type := 32, pos := "law.go:28", after := #[{ on := 3, ground := Ground.guard }], guard := Option.some (3, Bool.true) }) (v := ?va6z5) rfl (by kernel_rfl) (by kernel_rfl) (by kernel_rfl) (fun _ _ _ h => h) (YieldsM.of_if (Or.inl ⟨by rfl, ?ha6z5⟩)) ?ra6z5
  case ha6z5 => ((intro wz hSw; (try dsimp only at hSw); go_simp); try (with_reducible rfl))
  try simp only [Act.put, List.setIfInBounds_toArray, List.set_cons_zero, List.set_cons_succ]
  refine wpAnyM_take (i := 6) (oi := { dst := Option.some 25, op := Op.call { callee := Callee.value (Operand.func 12), args := #[Operand.tmp 23, Operand.tmp 24], argTypes := #[27, 32] }, type := 4, pos := "law.go:28", after := #[{ on := 4, ground := Ground.data }, { on := 5, ground := Ground.data }, { on := 3, ground := Ground.chain }, { on := 3, ground := Ground.guard }], guard := Option.some (3, Bool.true) }) (v := (.bool true)) rfl (by kernel_rfl) (by kernel_rfl) (by kernel_rfl) (fun _ _ _ h => h) (YieldsM.of_call (f := 12) (by rfl) (fun _ _ => by kernel_rfl) (HSE.out)) ?_
  try simp only [Act.put, List.setIfInBounds_toArray, List.set_cons_zero, List.set_cons_succ]
  refine wpAnyM_take (i := 7) (oi := { dst := Option.some 26, op := Op.pick (Operand.tmp 22) (Operand.tmp 25) (Operand.const (Value.bool Bool.false)), type := 4, pos := "law.go:28", after := #[{ on := 3, ground := Ground.data }, { on := 6, ground := Ground.data }], guard := Option.none }) (v := ?vb7z7) rfl (by kernel_rfl) (by kernel_rfl) (by kernel_rfl) (fun _ _ _ h => h) (YieldsM.of_if (Or.inl ⟨by rfl, ?hb7z7⟩)) ?rb7z7
  case hb7z7 => ((intro wz hSw; (try dsimp only at hSw); go_simp); try (with_reducible rfl))
  try simp only [Act.put, List.setIfInBounds_toArray, List.set_cons_zero, List.set_cons_succ]
  refine wpAnyM_take (i := 8) (oi := { dst := Option.some 27, op := Op.move (Operand.tmp 26), type := 4, pos := "law.go:28", after := #[{ on := 7, ground := Ground.data }, { on := 6, ground := Ground.chain }], guard := Option.none }) (v := ?vb8z8) rfl (by kernel_rfl) (by kernel_rfl) (by kernel_rfl) (fun _ _ _ h => h) (YieldsM.of_if (Or.inl ⟨by rfl, ?hb8z8⟩)) ?rb8z8
  case hb8z8 => ((intro wz hSw; (try dsimp only at hSw); go_simp); try (with_reducible rfl))
  try simp only [Act.put, List.setIfInBounds_toArray, List.set_cons_zero, List.set_cons_succ]
  refine wpAnyM_take (i := 9) (oi := { dst := Option.some 28, op := Op.load 24 (Operand.tmp 1), type := 24, pos := "law.go:28", after := #[{ on := 8, ground := Ground.guard }], guard := Option.some (8, Bool.true) }) (v := ?vb9z9) rfl (by kernel_rfl) (by kernel_rfl) (by kernel_rfl) (fun _ _ _ h => h) (YieldsM.of_if (Or.inl ⟨by rfl, ?hb9z9⟩)) ?rb9z9
  case hb9z9 => ((intro wz hSw; (try dsimp only at hSw); go_simp); try (with_reducible rfl))
  try simp only [Act.put, List.setIfInBounds_toArray, List.set_cons_zero, List.set_cons_succ]
  refine wpAnyM_take (i := 11) (oi := { dst := Option.some 30, op := Op.load 24 (Operand.tmp 1), type := 24, pos := "law.go:28", after := #[{ on := 8, ground := Ground.guard }], guard := Option.some (8, Bool.true) }) (v := ?vb10z11) rfl (by kernel_rfl) (by kernel_rfl) (by kernel_rfl) (fun _ _ _ h => h) (YieldsM.of_if (Or.inl ⟨by rfl, ?hb10z11⟩)) ?rb10z11
  case hb10z11 => ((intro wz hSw; (try dsimp only at hSw); go_simp); try (with_reducible rfl))
  try simp only [Act.put, List.setIfInBounds_toArray, List.set_cons_zero, List.set_cons_succ]
  refine readyM (i := 10) (o := { dst := Option.some 29, op := Op.call { callee := Callee.value (Operand.func 13), args := #[Operand.tmp 28], argTypes := #[24] }, type := 27, pos := "law.go:28", after := #[{ on := 9, ground := Ground.data }, { on := 8, ground := Ground.chain }, { on := 8, ground := Ground.guard }], guard := Option.some (8, Bool.true) }) rfl (by kernel_rfl) ?_
  intro u1 hg1 hS1 K hK
  rw [if_pos (by rfl)]
  have b1 : Below W4.heap.size W4 u1 := hS1.2.2.2.2.out
  have hA1 := (HK.out u1 b1).2.2.1
  go_simp
  refine (check_calls N ao cap xs u1 hA1 hm).mono ?_
  rintro e9 y6 ⟨v6, rfl, ht6, hy6⟩
  have b6 : Below W4.heap.size W4 y6 := btrG b1 hy6
  rw [HE.out] at ht6
  have H6 : Hid (IsTold y6 E v6 ∧ Below W4.heap.size W4 y6) := ⟨ht6, b6⟩
  refine hK.out _ _ (HS.out _ b6) ?_
  clear hK K hg1 hS1 hA1 b1 hy6 ht6 b6
  try simp only [Act.put, List.setIfInBounds_toArray, List.set_cons_zero, List.set_cons_succ]
  refine readyM (i := 12) (o := { dst := Option.some 31, op := Op.call { callee := Callee.value (Operand.func 14), args := #[Operand.tmp 30], argTypes := #[24] }, type := 32, pos := "law.go:28", after := #[{ on := 11, ground := Ground.data }, { on := 10, ground := Ground.chain }, { on := 8, ground := Ground.guard }], guard := Option.some (8, Bool.true) }) rfl (by kernel_rfl) ?_
  intro u2 hg2 hS2 K hK
  rw [if_pos (by rfl)]
  have b2 : Below W4.heap.size W4 u2 := hS2.2.2.2.2.out
  have hA2 := (HK.out u2 b2).2.2.1
  have t2 : IsTold u2 E v6 := H6.out.1.keep (Below.keeps hg2)
  go_simp
  refine (docCheck_calls N ao cap xs u2 hA2 hm).mono ?_
  rintro e9 y7 ⟨l7, c7, rfl, hp7, hy7⟩
  have b7 : Below W4.heap.size W4 y7 := btrG b2 hy7
  rw [HE.out] at hp7 ⊢
  have H7 : Hid (IsTold y7 E v6 ∧ HasPlaces y7 (.slice l7 E.2.length c7) E.2 ∧ Below W4.heap.size W4 y7) := ⟨t2.keep (Below.keeps hy7), hp7, b7⟩
  refine hK.out _ _ (HS.out _ b7) ?_
  clear hK K hg2 hS2 hA2 b2 hy7 hp7 b7 t2 H6
  try simp only [Act.put, List.setIfInBounds_toArray, List.set_cons_zero, List.set_cons_succ]
  refine readyM (i := 13) (o := { dst := Option.some 32, op := Op.call { callee := Callee.value (Operand.func 12), args := #[Operand.tmp 29, Operand.tmp 31], argTypes := #[27, 32] }, type := 4, pos := "law.go:28", after := #[{ on := 10, ground := Ground.data }, { on := 12, ground := Ground.data }, { on := 12, ground := Ground.chain }, { on := 8, ground := Ground.guard }], guard := Option.some (8, Bool.true) }) rfl (by kernel_rfl) ?_
  intro u3 hg3 hS3 K hK
  rw [if_pos (by rfl)]
  have b3 : Below W4.heap.size W4 u3 := hS3.2.2.2.2.out
  have t3 := seen_told E v6 l7 c7 u3 (H7.out.1.keep (Below.keeps hg3)) (H7.out.2.1.keep hg3) HLE.out (HK.out u3 b3).2.2.2.2.1
  go_simp
  refine t3.mono ?_
  rintro e9 y8 ⟨rfl, hy8⟩
  have b8 : Below W4.heap.size W4 y8 := btrG b3 hy8
  refine hK.out _ _ (HS.out _ b8) ?_
  clear hK K hg3 hS3 b3 hy8 t3 H7
  try simp only [Act.put, List.setIfInBounds_toArray, List.set_cons_zero, List.set_cons_succ]
  refine wpAnyM_take (i := 14) (oi := { dst := Option.some 33, op := Op.pick (Operand.tmp 27) (Operand.tmp 32) (Operand.const (Value.bool Bool.false)), type := 4, pos := "law.go:28", after := #[{ on := 8, ground := Ground.data }, { on := 13, ground := Ground.data }], guard := Option.none }) (v := ?vc11z14) rfl (by kernel_rfl) (by kernel_rfl) (by kernel_rfl) (fun _ _ _ h => h) (YieldsM.of_if (Or.inl ⟨by rfl, ?hc11z14⟩)) ?rc11z14
  case hc11z14 => ((intro wz hSw; (try dsimp only at hSw); go_simp); try (with_reducible rfl))
  try simp only [Act.put, List.setIfInBounds_toArray, List.set_cons_zero, List.set_cons_succ]
  refine wpAnyM_take (i := 15) (oi := { dst := Option.some 2, op := Op.assign (Operand.tmp 33), type := 4, pos := "law.go:28", after := #[{ on := 14, ground := Ground.data }, { on := 13, ground := Ground.chain }, { on := 0, ground := Ground.phase }, { on := 1, ground := Ground.phase }, { on := 2, ground := Ground.phase }, { on := 3, ground := Ground.phase }, { on := 4, ground := Ground.phase }, { on := 5, ground := Ground.phase }, { on := 6, ground := Ground.phase }, { on := 7, ground := Ground.phase }, { on := 8, ground := Ground.phase }, { on := 9, ground := Ground.phase }, { on := 10, ground := Ground.phase }, { on := 11, ground := Ground.phase }, { on := 12, ground := Ground.phase }, { on := 13, ground := Ground.phase }, { on := 14, ground := Ground.phase }], guard := Option.none }) (v := ?vc12z15) rfl (by kernel_rfl) (by kernel_rfl) (by kernel_rfl) (fun _ _ _ h => h) (YieldsM.of_if (Or.inl ⟨by rfl, ?hc12z15⟩)) ?rc12z15
  case hc12z15 => ((intro wz hSw; (try dsimp only at hSw); go_simp); try (with_reducible rfl))
  try simp only [Act.put, List.setIfInBounds_toArray, List.set_cons_zero, List.set_cons_succ]
  refine wpAnyM_done (by kernel_rfl) ?_ _
  intro u9 hg9 hS9
  have H9 : Hid (Below w.heap.size w u9) := (HK.out u9 hS9.2.2.2.2.out).2.2.2.2.2.1
  clear hS9 hg9 HSE
  go_wp2
  go_ret
  exact ⟨rfl, H9.out⟩

set_option maxRecDepth 100000 in
set_option maxHeartbeats 8000000 in
theorem gparses_calls (s : ByteArray) (w : World) (hs : s.size ≤ 281474976710656) (hT : TabW w) (hH : HasType w) :
    Calls Tryd.prog 4 #[.string s] w fun e w' => e = .returned (.bool true) ∧ Below w.heap.size w w' := by
  have HAW : Hid (Calls Tryd.prog 9 #[] w fun e w' => e = .returned (.bool true) ∧ Below w.heap.size w w') := awake3_calls w hT hH
  have HH : Hid (∀ wx, Below w.heap.size w wx → HasType wx) := fun wx hx => hH.keep hx hH.pos
  have HSZ : Hid (s.size ≤ 281474976710656) := hs
  clear hT hH hs
  go_enter Tryd.func4, Tryd.ntmps4
  go_wp2_with fail
  refine HAW.out.mono ?_
  rintro e y1 ⟨rfl, hy1⟩
  have HY1 : Hid (Below w.heap.size w y1) := hy1
  have HPA : Hid (Calls Tryd.prog 15 #[.string s] y1 (PsA (bs s) y1)) := parse_calls s y1 HSZ.out
  clear hy1 HAW
  go_wp2_with fail
  refine HPA.out.mono ?_
  rintro e y2 ⟨v, ao, ac, rfl, htd, hy2, hown⟩
  obtain ⟨E, hE⟩ : ∃ E, psE (bs s) = E := ⟨_, rfl⟩
  obtain ⟨n, xs, hG⟩ : ∃ n xs, psG (bs s) = (n, xs) := ⟨_, _, rfl⟩
  have HE : Hid (psE (bs s) = E ∧ psG (bs s) = (n, xs)) := ⟨hE, hG⟩
  have HLE : Hid (E.2.length ≤ maxLen) := by rw [← hE]; exact psE_len _
  rw [hE] at htd
  rw [hG] at hown ⊢
  simp only at hown ⊢
  have hA := arcs_of hown
  have HXL : Hid (xs.length ≤ maxLen) := own_len hown
  obtain ⟨z1, hz1⟩ : ∃ z1, y2.heap.size = z1 := ⟨_, rfl⟩
  obtain ⟨W3, hW3⟩ : ∃ W3, y2.alloc (.cells #[.int .i64 (n : Int), .slice ao xs.length ac] 24) = W3 := ⟨_, rfl⟩
  have HW3 : Hid (y2.alloc (.cells #[.int .i64 (n : Int), .slice ao xs.length ac] 24) = W3) := hW3
  have m3 : W3.heap[z1]? = some (.cells #[.int .i64 (n : Int), .slice ao xs.length ac] 24) := by rw [← hW3, ← hz1]; exact heap_newG _ _
  have hb3 : Below y2.heap.size y2 W3 := by rw [← hW3]; exact (Below.refl _ _).alloc (Nat.le_refl _) _
  have HK3 : Hid (∀ wx, Below W3.heap.size W3 wx → wx.cell? ⟨z1, 0, none⟩ = some (.int .i64 (n : Int)) ∧ wx.cell? ⟨z1, 1, none⟩ = some (.slice ao xs.length ac) ∧ HasArcs wx (.slice ao xs.length ac) xs ∧ IsTold wx E v ∧ Below w.heap.size w wx) := fun wx hx => by
    have m := (hx.block _ (Array.getElem?_eq_some_iff.1 m3).1).trans m3
    have h2 := btrG hb3 hx
    exact ⟨by simp [World.cell?, m], by simp [World.cell?, m], hA.keep h2, htd.keep (Below.keeps h2), btrG (btrG HY1.out hy2) h2⟩
  have HDC : Hid (Calls Tryd.prog 16 #[.string s] W3 (DpA (bs s) W3)) := docParse_calls s W3 HSZ.out
  clear hE hG htd hown hA hW3 m3 hb3 hy2 HPA
  go_upto_region 4 with fail
  rw [HW3.out]
  try rw [hz1]
  go_wp2_with fail
  refine HDC.out.mono ?_
  rintro e y4 ⟨u, bo, bc, rfl, ⟨lo, lc, rfl, hp⟩, hy4, hown⟩
  rw [HE.out.1] at hp ⊢
  rw [HE.out.2] at hown ⊢
  simp only at hown ⊢
  have hA := arcs_of hown
  obtain ⟨z2, hz2⟩ : ∃ z2, y4.heap.size = z2 := ⟨_, rfl⟩
  obtain ⟨z3, hz3⟩ : ∃ z3, z2 + 1 = z3 := ⟨_, rfl⟩
  obtain ⟨A, hAA⟩ : ∃ A, (y4.alloc (.cells #[.int .i64 0, .slice none 0 0] 24)).alloc (.cells #[.int .i64 0, .slice none 0 0] 32) = A := ⟨_, rfl⟩
  have a5 : A.heap[z2]? = some (.cells #[.int .i64 0, .slice none 0 0] 24) := by rw [← hAA, ← hz2]; exact (Below.heap_alloc _ _ _ (by simp)).trans (heap_newG _ _)
  have a6 : A.heap[z3]? = some (.cells #[.int .i64 0, .slice none 0 0] 32) := by
    have q := heap_newG (y4.alloc (.cells #[.int .i64 0, .slice none 0 0] 24)) (.cells #[.int .i64 0, .slice none 0 0] 32)
    rw [World.size_alloc, hz2, hz3, hAA] at q
    exact q
  have hbA : Below y4.heap.size y4 A := by rw [← hAA]; exact ((Below.refl _ _).alloc (Nat.le_refl _) _).alloc (by simp) _
  obtain ⟨B, hB⟩ : ∃ B, (A.setCell ⟨z2, 0, none⟩ (.int .i64 (n : Int))).setCell ⟨z2, 1, none⟩ (.slice bo xs.length bc) = B := ⟨_, rfl⟩
  obtain ⟨W5, hW5⟩ : ∃ W5, (B.setCell ⟨z3, 0, none⟩ (.int .i64 E.1)).setCell ⟨z3, 1, none⟩ (.slice lo E.2.length lc) = W5 := ⟨_, rfl⟩
  obtain ⟨kB, oB⟩ := set_far hbA (by omega : y4.heap.size ≤ z2) (.int .i64 (n : Int)) (.slice bo xs.length bc)
  have b5 : B.heap[z2]? = some (.cells #[.int .i64 (n : Int), .slice bo xs.length bc] 24) := by rw [← hB]; exact set_twoG a5 _ _
  have b6 : B.heap[z3]? = some (.cells #[.int .i64 0, .slice none 0 0] 32) := by rw [← hB]; exact (oB z3 (by omega)).trans a6
  rw [hB] at kB
  obtain ⟨hb5, oW⟩ := set_far kB (by omega : y4.heap.size ≤ z3) (.int .i64 E.1) (.slice lo E.2.length lc)
  have m5 : W5.heap[z2]? = some (.cells #[.int .i64 (n : Int), .slice bo xs.length bc] 24) := by rw [← hW5]; exact (oW z2 (by omega)).trans b5
  have m6 : W5.heap[z3]? = some (.cells #[.int .i64 E.1, .slice lo E.2.length lc] 32) := by rw [← hW5]; exact set_twoG b6 _ _
  rw [hW5] at hb5
  have HAW : Hid ((y4.alloc (.cells #[.int .i64 0, .slice none 0 0] 24)).alloc (.cells #[.int .i64 0, .slice none 0 0] 32) = A ∧ (A.setCell ⟨z2, 0, none⟩ (.int .i64 (n : Int))).setCell ⟨z2, 1, none⟩ (.slice bo xs.length bc) = B ∧ (B.setCell ⟨z3, 0, none⟩ (.int .i64 E.1)).setCell ⟨z3, 1, none⟩ (.slice lo E.2.length lc) = W5) := ⟨hAA, hB, hW5⟩
  have f0 : ((y4.alloc (.cells #[.int .i64 0, .slice none 0 0] 24)).alloc (.cells #[.int .i64 0, .slice none 0 0] 32)).cell? ⟨z2, 0, none⟩ = some (.int .i64 0) := by rw [hAA]; simp [World.cell?, a5]
  have f1 : ((y4.alloc (.cells #[.int .i64 0, .slice none 0 0] 24)).alloc (.cells #[.int .i64 0, .slice none 0 0] 32)).cell? ⟨z2, 1, none⟩ = some (.slice none 0 0) := by rw [hAA]; simp [World.cell?, a5]
  have f2 : ((y4.alloc (.cells #[.int .i64 0, .slice none 0 0] 24)).alloc (.cells #[.int .i64 0, .slice none 0 0] 32)).frozen? ⟨z2, 0, none⟩ = false := by rw [hAA]; simp [World.frozen?, a5]
  have f3 : ((y4.alloc (.cells #[.int .i64 0, .slice none 0 0] 24)).alloc (.cells #[.int .i64 0, .slice none 0 0] 32)).frozen? ⟨z2, 1, none⟩ = false := by rw [hAA]; simp [World.frozen?, a5]
  have f4 : ((y4.alloc (.cells #[.int .i64 0, .slice none 0 0] 24)).alloc (.cells #[.int .i64 0, .slice none 0 0] 32)).cell? ⟨z3, 0, none⟩ = some (.int .i64 0) := by rw [hAA]; simp [World.cell?, a6]
  have f5 : ((y4.alloc (.cells #[.int .i64 0, .slice none 0 0] 24)).alloc (.cells #[.int .i64 0, .slice none 0 0] 32)).cell? ⟨z3, 1, none⟩ = some (.slice none 0 0) := by rw [hAA]; simp [World.cell?, a6]
  have f6 : ((y4.alloc (.cells #[.int .i64 0, .slice none 0 0] 24)).alloc (.cells #[.int .i64 0, .slice none 0 0] 32)).frozen? ⟨z3, 0, none⟩ = false := by rw [hAA]; simp [World.frozen?, a6]
  have f7 : ((y4.alloc (.cells #[.int .i64 0, .slice none 0 0] 24)).alloc (.cells #[.int .i64 0, .slice none 0 0] 32)).frozen? ⟨z3, 1, none⟩ = false := by rw [hAA]; simp [World.frozen?, a6]
  have hzz : z2 ≠ z3 := by omega
  have hzz2 : z3 ≠ z2 := by omega
  obtain ⟨c0, c1, hA1, ht1, hbw⟩ := HK3.out W5 (btrG hy4 hb5)
  have d0 : W5.cell? ⟨z2, 0, none⟩ = some (.int .i64 (n : Int)) := by simp [World.cell?, m5]
  have d1 : W5.cell? ⟨z2, 1, none⟩ = some (.slice bo xs.length bc) := by simp [World.cell?, m5]
  have HSM : Hid (Calls Tryd.prog 17 #[.agg #[.int .i64 (n : Int), .slice ao xs.length ac], .agg #[.int .i64 (n : Int), .slice bo xs.length bc]] W5 fun e w' => e = .returned (.bool true) ∧ Below W5.heap.size W5 w') := same_yes n _ _ _ _ _ _ xs W5 hA1 (hA.keep hb5) HXL.out
  have HQ : Hid (∀ wx, Below W5.heap.size W5 wx → wx.cell? ⟨z3, 0, none⟩ = some (.int .i64 E.1) ∧ wx.cell? ⟨z3, 1, none⟩ = some (.slice lo E.2.length lc) ∧ Below w.heap.size w wx ∧ Calls Tryd.prog 12 #[v, .agg #[.int .i64 E.1, .slice lo E.2.length lc]] wx fun e w' => e = .returned (.bool true) ∧ Below wx.heap.size wx w') := fun wx hx => by
    have m := (hx.block _ (Array.getElem?_eq_some_iff.1 m6).1).trans m6
    have hw := hbw.trans (hx.mono hbw.size)
    exact ⟨by simp [World.cell?, m], by simp [World.cell?, m], hw, seen_told E v lo lc wx (ht1.keep (Below.keeps hx)) ((hp.1.keep hb5).keep hx) HLE.out (HH.out wx hw)⟩
  clear hp hown hA hW5 m5 m6 hb5 hA1 ht1 hbw hy4 HDC hAA hB a5 a6 b5 b6 kB oB oW hbA
  go_upto_region 5 with fail
  rw [HAW.out.1, HAW.out.2.1, HAW.out.2.2]
  go_wp2_with fail
  refine HSM.out.mono ?_
  rintro e y6 ⟨rfl, hy6⟩
  obtain ⟨e0, e1, hb6, hse⟩ := HQ.out y6 hy6
  have H6 : Hid (Below w.heap.size w y6) := hb6
  have HSC : Hid (Calls Tryd.prog 12 #[v, .agg #[.int .i64 E.1, .slice lo E.2.length lc]] y6 fun e w' => e = .returned (.bool true) ∧ Below y6.heap.size y6 w') := hse
  clear hy6 hse hb6 c0 c1 d0 d1
  go_wp2_with fail
  refine HSC.out.mono ?_
  rintro e y7 ⟨rfl, hy7⟩
  have H7 : Hid (Below w.heap.size w y7) := btrG H6.out hy7
  clear hy7
  go_wp2
  go_ret
  exact ⟨rfl, H7.out⟩
end Go.Proofs.YtghbekpilhnkfaaDoor.Gt
