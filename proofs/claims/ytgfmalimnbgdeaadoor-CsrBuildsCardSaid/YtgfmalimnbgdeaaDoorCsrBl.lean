/- The law CsrBuilds, walked: at every graph it answers true, and nothing old turns. -/
import Derived.Test.YtgfmalimnbgdeaaDoorCsrBlW
namespace Go.Proofs.YtgfmalimnbgdeaaDoor
open Go.RowKit Go.Extern

attribute [local go_sem] Oper.semAt_some

theorem graphErr_short (N : Int) (xs : List (Int × Int × Int)) : (graphErr N xs).2.length ≤ maxLen := by
  unfold graphErr maxLen
  split
  · simp
  · split <;> simp
theorem arr_short (N : Int) (xs ys : List (Int × Int × Int)) (hy : graphErr N xs = (0, []) → ys.length ≤ 262144) : (arrF N (graphErr N xs) ys).length ≤ maxLen ∧ (arrT (graphErr N xs) ys).length ≤ maxLen ∧ (arrV (graphErr N xs) ys).length ≤ maxLen := by
  unfold arrF arrT arrV maxLen
  by_cases hg : graphErr N xs = (0, [])
  · have := hy hg
    have h2 := ((good_iff N xs).1 hg).1
    rw [if_pos hg, if_pos hg, if_pos hg, firsts_len, tos_len, weights_len]
    omega
  · rw [if_neg hg, if_neg hg, if_neg hg]
    simp
theorem great_calls (N : Int) (ao : Option Addr) (n cap : Nat) (w : World) : Calls Tryd.prog 8 #[.agg #[.int .i64 N, .slice ao n cap]] w fun e w' => e = .returned (.bool (decide (3000 < n ∧ n ≤ 262144))) ∧ Below w.heap.size w w' := by
  have HB : Hid (∀ u, Below w.heap.size w (w.alloc u)) := fun u => (Below.refl _ w).alloc (Nat.le_refl _) _
  by_cases h1 : (3000 : Int) < n
  · by_cases h2 : (n : Int) ≤ 262144
    · rw [decide_eq_true ⟨by omega, by omega⟩]
      go_enter Tryd.func8, Tryd.ntmps8
      go_wp2
      go_ret
      exact ⟨rfl, HB.out _⟩
    · rw [decide_eq_false (by omega)]
      go_enter Tryd.func8, Tryd.ntmps8
      go_wp2
      go_ret
      exact ⟨rfl, HB.out _⟩
  · rw [decide_eq_false (by omega)]
    go_enter Tryd.func8, Tryd.ntmps8
    go_wp2
    go_ret
    exact ⟨rfl, HB.out _⟩
/-- what is looked at behind a program's and a reference's answer: they are alike. -/
structure Alike (Y : World) (cb bb fb : Nat) (E : Int × List (Int × Int)) (A B C : List Int) (fo uo wo go ho ko po : Option Addr) (fc uc wc gc hc kc pc : Nat) (v : Value) : Prop where
  a : Y.heap[cb]? = some (.cells #[.slice fo A.length fc, .slice uo B.length uc, .slice wo C.length wc] 29)
  b : Y.heap[bb]? = some (.cells #[.slice go A.length gc, .slice ho B.length hc, .slice ko C.length kc] 34)
  f : Y.heap[fb]? = some (.cells #[.int .i64 E.1, .slice po E.2.length pc] 37)
  ia : HasInts Y (.slice fo A.length fc) A
  ib : HasInts Y (.slice uo B.length uc) B
  ic : HasInts Y (.slice wo C.length wc) C
  ja : HasInts Y (.slice go A.length gc) A
  jb : HasInts Y (.slice ho B.length hc) B
  jc : HasInts Y (.slice ko C.length kc) C
  told : IsTold Y E v
  places : HasPlaces Y (.slice po E.2.length pc) E.2
  type : HasType Y
  short : A.length ≤ maxLen ∧ B.length ≤ maxLen ∧ C.length ≤ maxLen ∧ E.2.length ≤ maxLen
section
variable {Y : World} {cb bb fb : Nat} {E : Int × List (Int × Int)} {A B C : List Int} {fo uo wo go ho ko po : Option Addr} {fc uc wc gc hc kc pc : Nat} {v : Value}
theorem alike_of (A B C : List Int) (fo uo wo : Option Addr) (fc uc wc : Nat) (wx : World) (hx : Below Y.heap.size Y wx) : Calls Tryd.prog 12 #[.agg #[.slice fo A.length fc, .slice uo B.length uc, .slice wo C.length wc]] wx fun e w' => e = .returned (.agg #[.slice fo A.length fc, .slice uo B.length uc, .slice wo C.length wc]) ∧ Below Y.heap.size Y w' := by
  refine (lawOf_calls fo uo wo A.length fc B.length uc C.length wc wx).mono ?_
  rintro e w' ⟨he, rfl⟩
  exact ⟨he, (hx.alloc hx.size _).alloc (by have := hx.size; simp; omega) _⟩
theorem Alike.same (h : Alike Y cb bb fb E A B C fo uo wo go ho ko po fc uc wc gc hc kc pc v) (wx : World) (hx : Below Y.heap.size Y wx) : Calls Tryd.prog 11 #[.agg #[.slice fo A.length fc, .slice uo B.length uc, .slice wo C.length wc], .agg #[.slice go A.length gc, .slice ho B.length hc, .slice ko C.length kc]] wx fun e w' => e = .returned (.bool true) ∧ Below Y.heap.size Y w' :=
  (rSame_yes fo uo wo go ho ko A.length fc B.length uc C.length wc gc hc kc A B C wx (h.ia.keep hx) (h.ib.keep hx) (h.ic.keep hx) (h.ja.keep hx) (h.jb.keep hx) (h.jc.keep hx) h.short.1 h.short.2.1 h.short.2.2.1).mono fun _ _ ⟨he, hb⟩ => ⟨he, hx.trans (hb.mono hx.size)⟩
theorem Alike.seen (h : Alike Y cb bb fb E A B C fo uo wo go ho ko po fc uc wc gc hc kc pc v) (wx : World) (hx : Below Y.heap.size Y wx) : Calls Tryd.prog 13 #[v, .agg #[.int .i64 E.1, .slice po E.2.length pc]] wx fun e w' => e = .returned (.bool true) ∧ Below Y.heap.size Y w' :=
  (seen_told E v po pc wx (h.told.keep (Below.keeps hx)) (h.places.keep hx) h.short.2.2.2 (h.type.keep hx h.type.pos)).mono fun _ _ ⟨he, hb⟩ => ⟨he, hx.trans (hb.mono hx.size)⟩
theorem Alike.cells (h : Alike Y cb bb fb E A B C fo uo wo go ho ko po fc uc wc gc hc kc pc v) (wx : World) (hx : Below Y.heap.size Y wx) : (wx.cell? ⟨cb, 0, none⟩ = some (.slice fo A.length fc) ∧ wx.cell? ⟨cb, 1, none⟩ = some (.slice uo B.length uc) ∧ wx.cell? ⟨cb, 2, none⟩ = some (.slice wo C.length wc)) ∧ (wx.cell? ⟨bb, 0, none⟩ = some (.slice go A.length gc) ∧ wx.cell? ⟨bb, 1, none⟩ = some (.slice ho B.length hc) ∧ wx.cell? ⟨bb, 2, none⟩ = some (.slice ko C.length kc)) ∧ (wx.cell? ⟨fb, 0, none⟩ = some (.int .i64 E.1) ∧ wx.cell? ⟨fb, 1, none⟩ = some (.slice po E.2.length pc)) ∧ cb < wx.heap.size ∧ bb < wx.heap.size ∧ fb < wx.heap.size := by
  have g1 := (hx.block _ (lt_of_get h.a)).trans h.a
  have g2 := (hx.block _ (lt_of_get h.b)).trans h.b
  have g3 := (hx.block _ (lt_of_get h.f)).trans h.f
  exact ⟨box3 g1, box3 g2, ⟨(cell_two g3).1, (cell_two g3).2.1⟩, lt_of_get g1, lt_of_get g2, lt_of_get g3⟩
end
theorem below_new (wx : World) (o : Obj) : Below wx.heap.size wx (wx.alloc o) := (Below.refl _ wx).alloc (Nat.le_refl _) _

set_option maxRecDepth 100000 in
set_option maxHeartbeats 8000000 in
theorem builds_calls (N : Int) (ao : Option Addr) (cap : Nat) (xs : List (Int × Int × Int)) (w : World) (hl : HasArcs w (.slice ao xs.length cap) xs) (hm : xs.length ≤ maxLen) (hg : HasType w) : Calls Tryd.prog 3 #[.agg #[.int .i64 N, .slice ao xs.length cap]] w fun e w' => e = .returned (.bool true) ∧ Below w.heap.size w w' := by
  have hs1 := arr_short N xs (normA xs) (fun h => by have := ((good_iff _ _).1 (good_norm h)).1; omega)
  have hs2 := arr_short N xs (normA (xs.map turn)) (fun h => by have := ((good_iff _ _).1 (good_norm (good_turn h))).1; omega)
  have hs3 := graphErr_short N xs
  have HBU : Hid (∀ wx, HasArcs wx (.slice ao xs.length cap) xs → Calls Tryd.prog 9 #[.agg #[.int .i64 N, .slice ao xs.length cap]] wx (AnsP wx (graphErr N xs) (arrF N (graphErr N xs) (normA xs)) (arrT (graphErr N xs) (normA xs)) (arrV (graphErr N xs) (normA xs)))) := fun wx h => build_any h hm
  have HBA : Hid (∀ wx, HasArcs wx (.slice ao xs.length cap) xs → Calls Tryd.prog 14 #[.agg #[.int .i64 N, .slice ao xs.length cap]] wx (AnsP wx (graphErr N xs) (arrF N (graphErr N xs) (normA (xs.map turn))) (arrT (graphErr N xs) (normA (xs.map turn))) (arrV (graphErr N xs) (normA (xs.map turn))))) := fun wx h => back_any h hm
  have HDU : Hid (∀ wx, HasArcs wx (.slice ao xs.length cap) xs → Calls Tryd.prog 10 #[.agg #[.int .i64 N, .slice ao xs.length cap]] wx (AnsR wx (graphErr N xs) (arrF N (graphErr N xs) (normA xs)) (arrT (graphErr N xs) (normA xs)) (arrV (graphErr N xs) (normA xs)))) := fun wx h => docBuild_any h hm
  have HDA : Hid (∀ wx, HasArcs wx (.slice ao xs.length cap) xs → Calls Tryd.prog 15 #[.agg #[.int .i64 N, .slice ao xs.length cap]] wx (AnsR wx (graphErr N xs) (arrF N (graphErr N xs) (normA (xs.map turn))) (arrT (graphErr N xs) (normA (xs.map turn))) (arrV (graphErr N xs) (normA (xs.map turn))))) := fun wx h => docBack_any h hm
  generalize arrF N (graphErr N xs) (normA xs) = A at *
  generalize arrT (graphErr N xs) (normA xs) = B at *
  generalize arrV (graphErr N xs) (normA xs) = C at *
  generalize arrF N (graphErr N xs) (normA (xs.map turn)) = A' at *
  generalize arrT (graphErr N xs) (normA (xs.map turn)) = B' at *
  generalize arrV (graphErr N xs) (normA (xs.map turn)) = C' at *
  generalize graphErr N xs = E at *
  have HSH : Hid ((A.length ≤ maxLen ∧ B.length ≤ maxLen ∧ C.length ≤ maxLen ∧ E.2.length ≤ maxLen) ∧ (A'.length ≤ maxLen ∧ B'.length ≤ maxLen ∧ C'.length ≤ maxLen ∧ E.2.length ≤ maxLen)) := ⟨⟨hs1.1, hs1.2.1, hs1.2.2, hs3⟩, ⟨hs2.1, hs2.2.1, hs2.2.2, hs3⟩⟩
  have HL : Hid (HasArcs w (.slice ao xs.length cap) xs) := hl
  have HTY : Hid (HasType w) := hg
  clear hs1 hs2 hs3 hl hg hm
  obtain ⟨EC, ps⟩ := E
  go_enter Tryd.func3, Tryd.ntmps3
  go_wp2_with fail
  have HN0 : Hid ((w.alloc (.cells #[.int .i64 N, .slice ao xs.length cap] 24)).heap[w.heap.size]? = some (.cells #[.int .i64 N, .slice ao xs.length cap] 24)) := heap_new _ _
  have HB0 : Hid (Below w.heap.size w (w.alloc (.cells #[.int .i64 N, .slice ao xs.length cap] 24))) := below_new w _
  generalize w.alloc (.cells #[.int .i64 N, .slice ao xs.length cap] 24) = W0 at *
  have HK : Hid (∀ wx, Below W0.heap.size W0 wx → wx.heap[w.heap.size]? = some (.cells #[.int .i64 N, .slice ao xs.length cap] 24) ∧ wx.cell? ⟨w.heap.size, 0, none⟩ = some (.int .i64 N) ∧ wx.cell? ⟨w.heap.size, 1, none⟩ = some (.slice ao xs.length cap) ∧ w.heap.size < wx.heap.size ∧ HasArcs wx (.slice ao xs.length cap) xs ∧ Below w.heap.size w wx ∧ HasType wx) := fun wx h => by
    have g := (h.block _ (lt_of_get HN0.out)).trans HN0.out
    have hb := HB0.out.trans (h.mono HB0.out.size)
    exact ⟨g, (cell_two g).1, (cell_two g).2.1, lt_of_get g, HL.out.keep hb, hb, HTY.out.keep hb HTY.out.pos⟩
  clear HN0 HB0
  refine (awake_calls W0).mono ?_
  rintro e w1 ⟨rfl, h⟩
  have R1 : Hid (Below W0.heap.size W0 w1) := h
  obtain ⟨_, g0, g1, gs, _, _, _⟩ := HK.out w1 h
  clear h
  go_wp2_with fail
  refine (great_calls N ao xs.length cap w1).mono ?_
  rintro e w2 ⟨rfl, h⟩
  have R2 : Hid (Below W0.heap.size W0 w2) := R1.out.trans (h.mono R1.out.size)
  clear h g0 g1 gs
  obtain ⟨_, g0, g1, gs, _, _, _⟩ := HK.out w2 R2.out
  generalize decide (3000 < xs.length ∧ xs.length ≤ 262144) = big
  cases big with
  | true =>
    have HBE : Hid (Below w.heap.size w w2) := (HK.out w2 R2.out).2.2.2.2.2.1
    go_wp2
    go_ret
    exact ⟨rfl, HBE.out⟩
  | false =>
    go_wp2_with fail
    refine (HBU.out w2 (HK.out w2 R2.out).2.2.2.2.1).mono ?_
    rintro e w3 ⟨fo, fc, uo, uc, wo, wc, v, rfl, ht, ha, hb, hc, hnw, h⟩
    have R3 : Hid (Below W0.heap.size W0 w3) := R2.out.trans (h.mono R2.out.size)
    have P3 : Hid (IsTold w3 (EC, ps) v ∧ HasInts w3 (.slice fo A.length fc) A ∧ HasInts w3 (.slice uo B.length uc) B ∧ HasInts w3 (.slice wo C.length wc) C) := ⟨ht, ha, hb, hc⟩
    clear h ht ha hb hc hnw g0 g1 gs
    obtain ⟨_, g0, g1, gs, _, _, _⟩ := HK.out w3 R3.out
    go_wp2_with fail
    have hB := below_new w3 (.cells #[.slice fo A.length fc, .slice uo B.length uc, .slice wo C.length wc] 29)
    have hN := heap_new w3 (.cells #[.slice fo A.length fc, .slice uo B.length uc, .slice wo C.length wc] 29)
    generalize w3.alloc (.cells #[.slice fo A.length fc, .slice uo B.length uc, .slice wo C.length wc] 29) = W3 at *
    have R4 : Hid (Below W0.heap.size W0 W3) := R3.out.trans (hB.mono R3.out.size)
    have Q3 : Hid (Below w3.heap.size w3 W3 ∧ W3.heap[w3.heap.size]? = some (.cells #[.slice fo A.length fc, .slice uo B.length uc, .slice wo C.length wc] 29) ∧ W0.heap.size ≤ w3.heap.size) := ⟨hB, hN, R3.out.size⟩
    clear hB hN g0 g1 gs
    refine (HDU.out W3 (HK.out W3 R4.out).2.2.2.2.1).mono ?_
    rintro e w4 ⟨go, gc, ho, hc, ko, kc, po, pc, rfl, hp, ha, hb, hcc, hnw, h⟩
    have R5 : Hid (Below W0.heap.size W0 w4) := R4.out.trans (h.mono R4.out.size)
    have P4 : Hid (HasPlaces w4 (.slice po ps.length pc) ps ∧ HasInts w4 (.slice go A.length gc) A ∧ HasInts w4 (.slice ho B.length hc) B ∧ HasInts w4 (.slice ko C.length kc) C) := ⟨hp, ha, hb, hcc⟩
    have Q4 : Hid (Below w3.heap.size w3 w4 ∧ w4.heap[w3.heap.size]? = some (.cells #[.slice fo A.length fc, .slice uo B.length uc, .slice wo C.length wc] 29)) := ⟨Q3.out.1.trans (h.mono Q3.out.1.size), (h.block _ (lt_of_get Q3.out.2.1)).trans Q3.out.2.1⟩
    clear h hp ha hb hcc hnw
    obtain ⟨_, g0, g1, gs, _, _, _⟩ := HK.out w4 R5.out
    have hB : Below w4.heap.size w4 ((w4.alloc (.cells #[.slice go A.length gc, .slice ho B.length hc, .slice ko C.length kc] 34)).alloc (.cells #[.int .i64 EC, .slice po ps.length pc] 37)) := ((Below.refl _ w4).alloc (Nat.le_refl _) _).alloc (by simp) _
    have hN1 : ((w4.alloc (.cells #[.slice go A.length gc, .slice ho B.length hc, .slice ko C.length kc] 34)).alloc (.cells #[.int .i64 EC, .slice po ps.length pc] 37)).heap[w4.heap.size]? = some (.cells #[.slice go A.length gc, .slice ho B.length hc, .slice ko C.length kc] 34) := by rw [Below.heap_alloc _ _ _ (by simp)]; exact heap_new _ _
    have hN2 : ((w4.alloc (.cells #[.slice go A.length gc, .slice ho B.length hc, .slice ko C.length kc] 34)).alloc (.cells #[.int .i64 EC, .slice po ps.length pc] 37)).heap[w4.heap.size + 1]? = some (.cells #[.int .i64 EC, .slice po ps.length pc] 37) := by
      have h := heap_new (w4.alloc (.cells #[.slice go A.length gc, .slice ho B.length hc, .slice ko C.length kc] 34)) (.cells #[.int .i64 EC, .slice po ps.length pc] 37)
      simpa using h
    go_upto_region 7 with fail
    generalize ((w4.alloc (.cells #[.slice go A.length gc, .slice ho B.length hc, .slice ko C.length kc] 34)).alloc (.cells #[.int .i64 EC, .slice po ps.length pc] 37)) = Y at *
    have R6 : Hid (Below W0.heap.size W0 Y) := R5.out.trans (hB.mono R5.out.size)
    have AL : Hid (Alike Y w3.heap.size w4.heap.size (w4.heap.size + 1) (EC, ps) A B C fo uo wo go ho ko po fc uc wc gc hc kc pc v) := by
      have h34 := Q4.out.1.trans (hB.mono Q4.out.1.size)
      exact ⟨(hB.block _ (lt_of_get Q4.out.2)).trans Q4.out.2, hN1, hN2, P3.out.2.1.keep h34, P3.out.2.2.1.keep h34, P3.out.2.2.2.keep h34, P4.out.2.1.keep hB, P4.out.2.2.1.keep hB, P4.out.2.2.2.keep hB, P3.out.1.keep (Below.keeps h34), P4.out.1.keep hB, (HK.out Y R6.out).2.2.2.2.2.2, HSH.out.1⟩
    have hlo1 : w3.heap.size < w4.heap.size := lt_of_get Q4.out.2
    have hlo2 : W0.heap.size ≤ w3.heap.size := Q3.out.2.2
    clear hB hN1 hN2 g0 g1 gs Q3 Q4 P3 P4
    generalize w3.heap.size = cb at *
    generalize w4.heap.size = bb at *
    have HOF : Hid (∀ wx, Below Y.heap.size Y wx → _) := fun wx h => alike_of A B C fo uo wo fc uc wc wx h
    have HRS : Hid (∀ wx, Below Y.heap.size Y wx → _) := fun wx h => AL.out.same wx h
    have HSN : Hid (∀ wx, Below Y.heap.size Y wx → _) := fun wx h => AL.out.seen wx h
    have HCE : Hid (∀ wx, Below Y.heap.size Y wx → _) := fun wx h => AL.out.cells wx h
    simp only at HSN HCE
    obtain ⟨⟨a0, a1, a2⟩, ⟨b0, b1, b2⟩, ⟨f0, f1⟩, asz, bsz, fsz⟩ := HCE.out Y (Below.refl _ _)
    go_region_held3 (fun w' => (w'.cell? ⟨cb, 0, none⟩ = some (.slice fo A.length fc) ∧ w'.cell? ⟨cb, 1, none⟩ = some (.slice uo B.length uc) ∧ w'.cell? ⟨cb, 2, none⟩ = some (.slice wo C.length wc)) ∧ (w'.cell? ⟨bb, 0, none⟩ = some (.slice go A.length gc) ∧ w'.cell? ⟨bb, 1, none⟩ = some (.slice ho B.length hc) ∧ w'.cell? ⟨bb, 2, none⟩ = some (.slice ko C.length kc)) ∧ (w'.cell? ⟨bb + 1, 0, none⟩ = some (.int .i64 EC) ∧ w'.cell? ⟨bb + 1, 1, none⟩ = some (.slice po ps.length pc))) (go_keep) (first
      | (go_at_call 12; refine (HOF.out _ (Below.refl _ Y).drew).mono ?_; rintro e y1 ⟨rfl, hy⟩; have Y1 : Hid (Below Y.heap.size Y y1) := hy; clear hy; obtain ⟨⟨p0, p1, p2⟩, ⟨p3, p4, p5⟩, ⟨p6, p7⟩, p8, p9, p10⟩ := HCE.out y1 Y1.out)
      | (go_at_call 11; refine (HRS.out _ Y1.out).mono ?_; rintro e y2 ⟨rfl, hy⟩; have Y2 : Hid (Below Y.heap.size Y y2) := hy; clear hy; obtain ⟨⟨q0, q1, q2⟩, ⟨q3, q4, q5⟩, ⟨q6, q7⟩, q8, q9, q10⟩ := HCE.out y2 Y2.out)
      | (go_at_call 13; refine (HSN.out _ Y2.out).mono ?_; rintro e y3 ⟨rfl, hy⟩; have Y3 : Hid (Below Y.heap.size Y y3) := hy; clear hy; obtain ⟨⟨s0, s1, s2⟩, ⟨s3, s4, s5⟩, ⟨s6, s7⟩, s8, s9, s10⟩ := HCE.out y3 Y3.out))
    have R7 : Hid (Below W0.heap.size W0 y3) := R6.out.trans (Y3.out.mono R6.out.size)
    obtain ⟨_, g0, g1, gs, _, _, _⟩ := HK.out y3 R7.out
    have K7 : Hid (y3.heap[cb]? = some (.cells #[.slice fo A.length fc, .slice uo B.length uc, .slice wo C.length wc] 29) ∧ y3.heap[bb]? = some (.cells #[.slice go A.length gc, .slice ho B.length hc, .slice ko C.length kc] 34) ∧ y3.heap[bb + 1]? = some (.cells #[.int .i64 EC, .slice po ps.length pc] 37)) := ⟨(Y3.out.block _ (lt_of_get AL.out.a)).trans AL.out.a, (Y3.out.block _ (lt_of_get AL.out.b)).trans AL.out.b, (Y3.out.block _ (lt_of_get AL.out.f)).trans AL.out.f⟩
    clear p0 p1 p2 p3 p4 p5 p6 p7 p8 p9 p10 q0 q1 q2 q3 q4 q5 q6 q7 q8 q9 q10 s0 s1 s2 s3 s4 s5 s6 s7 s8 s9 s10 a0 a1 a2 b0 b1 b2 f0 f1 asz bsz fsz HOF HRS HSN HCE
    go_wp2_with fail
    refine (HBA.out y3 (HK.out y3 R7.out).2.2.2.2.1).mono ?_
    rintro e w6 ⟨fo', fc', uo', uc', wo', wc', v', rfl, ht, ha, hb, hcc, hnw, h⟩
    have R8 : Hid (Below W0.heap.size W0 w6) := R7.out.trans (h.mono R7.out.size)
    have P6 : Hid ((IsTold w6 (EC, ps) v' ∧ HasInts w6 (.slice fo' A'.length fc') A' ∧ HasInts w6 (.slice uo' B'.length uc') B' ∧ HasInts w6 (.slice wo' C'.length wc') C') ∧ (NewI y3 (.slice fo' A'.length fc') ∧ NewI y3 (.slice uo' B'.length uc') ∧ NewI y3 (.slice wo' C'.length wc'))) := ⟨⟨ht, ha, hb, hcc⟩, hnw⟩
    have K8 : Hid (w6.heap[cb]? = some (.cells #[.slice fo A.length fc, .slice uo B.length uc, .slice wo C.length wc] 29) ∧ w6.heap[bb]? = some (.cells #[.slice go A.length gc, .slice ho B.length hc, .slice ko C.length kc] 34) ∧ w6.heap[bb + 1]? = some (.cells #[.int .i64 EC, .slice po ps.length pc] 37) ∧ y3.heap.size ≤ w6.heap.size) := ⟨(h.block _ (lt_of_get K7.out.1)).trans K7.out.1, (h.block _ (lt_of_get K7.out.2.1)).trans K7.out.2.1, (h.block _ (lt_of_get K7.out.2.2)).trans K7.out.2.2, h.size⟩
    clear h ht ha hb hcc hnw g0 g1 gs
    obtain ⟨_, g0, g1, gs, _, _, _⟩ := HK.out w6 R8.out
    obtain ⟨r0, r1, r2, z0, z1, z2⟩ : w6.cell? ⟨cb, 0, none⟩ = some (.slice fo A.length fc) ∧ w6.cell? ⟨cb, 1, none⟩ = some (.slice uo B.length uc) ∧ w6.cell? ⟨cb, 2, none⟩ = some (.slice wo C.length wc) ∧ w6.frozen? ⟨cb, 0, none⟩ = false ∧ w6.frozen? ⟨cb, 1, none⟩ = false ∧ w6.frozen? ⟨cb, 2, none⟩ = false := by simp [World.cell?, World.frozen?, K8.out.1]
    have rs := lt_of_get K8.out.1
    have nw1 : ¬ w.heap.size = cb := by have := lt_of_get (HK.out W0 (Below.refl _ _)).1; omega
    have nw2 : ¬ cb = w.heap.size := fun e => nw1 e.symm
    have S6 : Hid ((((w6.setCell ⟨cb, 0, none⟩ (.slice fo' A'.length fc')).setCell ⟨cb, 1, none⟩ (.slice uo' B'.length uc')).setCell ⟨cb, 2, none⟩ (.slice wo' C'.length wc')).heap[cb]? = some (.cells #[.slice fo' A'.length fc', .slice uo' B'.length uc', .slice wo' C'.length wc'] 29) ∧ (∀ k, k ≠ cb → (((w6.setCell ⟨cb, 0, none⟩ (.slice fo' A'.length fc')).setCell ⟨cb, 1, none⟩ (.slice uo' B'.length uc')).setCell ⟨cb, 2, none⟩ (.slice wo' C'.length wc')).heap[k]? = w6.heap[k]?) ∧ Below W0.heap.size W0 (((w6.setCell ⟨cb, 0, none⟩ (.slice fo' A'.length fc')).setCell ⟨cb, 1, none⟩ (.slice uo' B'.length uc')).setCell ⟨cb, 2, none⟩ (.slice wo' C'.length wc')) ∧ (((w6.setCell ⟨cb, 0, none⟩ (.slice fo' A'.length fc')).setCell ⟨cb, 1, none⟩ (.slice uo' B'.length uc')).setCell ⟨cb, 2, none⟩ (.slice wo' C'.length wc')).heap.size = w6.heap.size) :=
      ⟨box_three K8.out.1 _ _ _, fun k hk => (heap_setCell_other _ _ _ _ hk).trans ((heap_setCell_other _ _ _ _ hk).trans (heap_setCell_other _ _ _ _ hk)), ((R8.out.setCell (p := ⟨cb, 0, none⟩) hlo2 _).setCell (p := ⟨cb, 1, none⟩) hlo2 _).setCell (p := ⟨cb, 2, none⟩) hlo2 _, by simp⟩
    go_upto_region 10 with fail
    generalize (((w6.setCell ⟨cb, 0, none⟩ (.slice fo' A'.length fc')).setCell ⟨cb, 1, none⟩ (.slice uo' B'.length uc')).setCell ⟨cb, 2, none⟩ (.slice wo' C'.length wc')) = W6 at *
    have hcb : cb < y3.heap.size := lt_of_get K7.out.1
    have hbb : bb + 1 < y3.heap.size := lt_of_get K7.out.2.2
    have T6 : Hid (IsTold W6 (EC, ps) v' ∧ HasInts W6 (.slice fo' A'.length fc') A' ∧ HasInts W6 (.slice uo' B'.length uc') B' ∧ HasInts W6 (.slice wo' C'.length wc') C' ∧ W6.heap[bb]? = some (.cells #[.slice go A.length gc, .slice ho B.length hc, .slice ko C.length kc] 34) ∧ W6.heap[bb + 1]? = some (.cells #[.int .i64 EC, .slice po ps.length pc] 37)) := by
      have hk : ∀ b, y3.heap.size ≤ b → W6.heap[b]? = w6.heap[b]? := fun b hb => S6.out.2.1 b (by omega)
      have hs : w6.heap.size ≤ W6.heap.size := by rw [S6.out.2.2.2]; exact Nat.le_refl _
      exact ⟨P6.out.1.1.keep (keeps_box K8.out.1 (by decide) S6.out.2.1), P6.out.1.2.1.far P6.out.2.1 hk hs, P6.out.1.2.2.1.far P6.out.2.2.1 hk hs, P6.out.1.2.2.2.far P6.out.2.2.2 hk hs, (S6.out.2.1 bb (by omega)).trans K8.out.2.1, (S6.out.2.1 (bb + 1) (by omega)).trans K8.out.2.2.1⟩
    have hW6 : y3.heap.size ≤ W6.heap.size := by rw [S6.out.2.2.2]; exact K8.out.2.2.2
    clear r0 r1 r2 z0 z1 z2 rs nw1 nw2 g0 g1 gs
    obtain ⟨_, g0, g1, gs, _, _, _⟩ := HK.out W6 S6.out.2.2.1
    go_wp2_with fail
    refine (HDA.out W6 (HK.out W6 S6.out.2.2.1).2.2.2.2.1).mono ?_
    rintro e w7 ⟨go', gc', ho', hc', ko', kc', po', pc', rfl, hp, ha, hb, hcc, hnw, h⟩
    have R9 : Hid (Below W0.heap.size W0 w7) := S6.out.2.2.1.trans (h.mono S6.out.2.2.1.size)
    have P7 : Hid ((HasPlaces w7 (.slice po' ps.length pc') ps ∧ HasInts w7 (.slice go' A'.length gc') A' ∧ HasInts w7 (.slice ho' B'.length hc') B' ∧ HasInts w7 (.slice ko' C'.length kc') C') ∧ (NewI W6 (.slice go' A'.length gc') ∧ NewI W6 (.slice ho' B'.length hc') ∧ NewI W6 (.slice ko' C'.length kc')) ∧ Below W6.heap.size W6 w7) := ⟨⟨hp, ha, hb, hcc⟩, hnw, h⟩
    clear h hp ha hb hcc hnw g0 g1 gs
    have hbx := (P7.out.2.2.block _ (lt_of_get T6.out.2.2.2.2.1)).trans T6.out.2.2.2.2.1
    have hfx := (P7.out.2.2.block _ (lt_of_get T6.out.2.2.2.2.2)).trans T6.out.2.2.2.2.2
    have HBX7 : Hid (type_of% hbx) := hbx
    have HFX7 : Hid (type_of% hfx) := hfx
    obtain ⟨r0, r1, r2, z0, z1, z2⟩ : w7.cell? ⟨bb, 0, none⟩ = some (.slice go A.length gc) ∧ w7.cell? ⟨bb, 1, none⟩ = some (.slice ho B.length hc) ∧ w7.cell? ⟨bb, 2, none⟩ = some (.slice ko C.length kc) ∧ w7.frozen? ⟨bb, 0, none⟩ = false ∧ w7.frozen? ⟨bb, 1, none⟩ = false ∧ w7.frozen? ⟨bb, 2, none⟩ = false := by simp [World.cell?, World.frozen?, hbx]
    obtain ⟨d0, d1, x0, x1⟩ := cell_two hfx
    have rs := lt_of_get hbx
    have rs2 := lt_of_get hfx
    clear hbx hfx
    go_upto_region 11 with fail
    have AL2 : Hid (Alike (((((w7.setCell ⟨bb, 0, none⟩ (.slice go' A'.length gc')).setCell ⟨bb, 1, none⟩ (.slice ho' B'.length hc')).setCell ⟨bb, 2, none⟩ (.slice ko' C'.length kc')).setCell ⟨bb + 1, 0, none⟩ (.int .i64 EC)).setCell ⟨bb + 1, 1, none⟩ (.slice po' ps.length pc')) cb bb (bb + 1) (EC, ps) A' B' C' fo' uo' wo' go' ho' ko' po' fc' uc' wc' gc' hc' kc' pc' v' ∧ Below W0.heap.size W0 (((((w7.setCell ⟨bb, 0, none⟩ (.slice go' A'.length gc')).setCell ⟨bb, 1, none⟩ (.slice ho' B'.length hc')).setCell ⟨bb, 2, none⟩ (.slice ko' C'.length kc')).setCell ⟨bb + 1, 0, none⟩ (.int .i64 EC)).setCell ⟨bb + 1, 1, none⟩ (.slice po' ps.length pc'))) := by
      have h1 : ∀ k, k ≠ bb → (((w7.setCell ⟨bb, 0, none⟩ (.slice go' A'.length gc')).setCell ⟨bb, 1, none⟩ (.slice ho' B'.length hc')).setCell ⟨bb, 2, none⟩ (.slice ko' C'.length kc')).heap[k]? = w7.heap[k]? := fun k hk => (heap_setCell_other _ _ _ _ hk).trans ((heap_setCell_other _ _ _ _ hk).trans (heap_setCell_other _ _ _ _ hk))
      have h1b := box_three HBX7.out (.slice go' A'.length gc') (.slice ho' B'.length hc') (.slice ko' C'.length kc')
      have h1f := (h1 (bb + 1) (by omega)).trans HFX7.out
      have h1s : (((w7.setCell ⟨bb, 0, none⟩ (.slice go' A'.length gc')).setCell ⟨bb, 1, none⟩ (.slice ho' B'.length hc')).setCell ⟨bb, 2, none⟩ (.slice ko' C'.length kc')).heap.size = w7.heap.size := by simp
      have h1k : Keeps w7 (((w7.setCell ⟨bb, 0, none⟩ (.slice go' A'.length gc')).setCell ⟨bb, 1, none⟩ (.slice ho' B'.length hc')).setCell ⟨bb, 2, none⟩ (.slice ko' C'.length kc')) := keeps_box HBX7.out (by decide) h1
      have h1l : Below W0.heap.size W0 (((w7.setCell ⟨bb, 0, none⟩ (.slice go' A'.length gc')).setCell ⟨bb, 1, none⟩ (.slice ho' B'.length hc')).setCell ⟨bb, 2, none⟩ (.slice ko' C'.length kc')) := ((R9.out.setCell (p := ⟨bb, 0, none⟩) (show W0.heap.size ≤ bb by omega) _).setCell (p := ⟨bb, 1, none⟩) (show W0.heap.size ≤ bb by omega) _).setCell (p := ⟨bb, 2, none⟩) (show W0.heap.size ≤ bb by omega) _
      generalize (((w7.setCell ⟨bb, 0, none⟩ (.slice go' A'.length gc')).setCell ⟨bb, 1, none⟩ (.slice ho' B'.length hc')).setCell ⟨bb, 2, none⟩ (.slice ko' C'.length kc')) = X at *
      have h2 : ∀ k, k ≠ bb + 1 → ((X.setCell ⟨bb + 1, 0, none⟩ (.int .i64 EC)).setCell ⟨bb + 1, 1, none⟩ (.slice po' ps.length pc')).heap[k]? = X.heap[k]? := fun k hk => (heap_setCell_other _ _ _ _ hk).trans (heap_setCell_other _ _ _ _ hk)
      have h2f := box_two h1f (.int .i64 EC) (.slice po' ps.length pc')
      have h2s : ((X.setCell ⟨bb + 1, 0, none⟩ (.int .i64 EC)).setCell ⟨bb + 1, 1, none⟩ (.slice po' ps.length pc')).heap.size = X.heap.size := by simp
      have h2k : Keeps X ((X.setCell ⟨bb + 1, 0, none⟩ (.int .i64 EC)).setCell ⟨bb + 1, 1, none⟩ (.slice po' ps.length pc')) := keeps_box h1f (by decide) h2
      have h2l : Below W0.heap.size W0 ((X.setCell ⟨bb + 1, 0, none⟩ (.int .i64 EC)).setCell ⟨bb + 1, 1, none⟩ (.slice po' ps.length pc')) := (h1l.setCell (p := ⟨bb + 1, 0, none⟩) (show W0.heap.size ≤ bb + 1 by omega) _).setCell (p := ⟨bb + 1, 1, none⟩) (show W0.heap.size ≤ bb + 1 by omega) _
      generalize ((X.setCell ⟨bb + 1, 0, none⟩ (.int .i64 EC)).setCell ⟨bb + 1, 1, none⟩ (.slice po' ps.length pc')) = Z at *
      have hs : w7.heap.size ≤ Z.heap.size := by omega
      have hk3 : ∀ b, y3.heap.size ≤ b → Z.heap[b]? = w7.heap[b]? := fun b hb => (h2 b (by omega)).trans (h1 b (by omega))
      have hk6 : ∀ b, W6.heap.size ≤ b → Z.heap[b]? = w7.heap[b]? := fun b hb => hk3 b (by omega)
      have hW := P7.out.2.2
      refine ⟨⟨?_, (h2 bb (by omega)).trans h1b, h2f, (T6.out.2.1.keep hW).far P6.out.2.1 hk3 hs, (T6.out.2.2.1.keep hW).far P6.out.2.2.1 hk3 hs, (T6.out.2.2.2.1.keep hW).far P6.out.2.2.2 hk3 hs, P7.out.1.2.1.far P7.out.2.1.1 hk6 hs, P7.out.1.2.2.1.far P7.out.2.1.2.1 hk6 hs, P7.out.1.2.2.2.far P7.out.2.1.2.2 hk6 hs, ((T6.out.1.keep (Below.keeps hW)).keep h1k).keep h2k, P7.out.1.1.far HBX7.out HFX7.out (fun b hb1 hb2 => (h2 b hb2).trans (h1 b hb1)) hs, (HK.out Z h2l).2.2.2.2.2.2, HSH.out.2⟩, h2l⟩
      exact (h2 cb (by omega)).trans ((h1 cb (by omega)).trans ((hW.block _ (lt_of_get S6.out.1)).trans S6.out.1))
    generalize (((((w7.setCell ⟨bb, 0, none⟩ (.slice go' A'.length gc')).setCell ⟨bb, 1, none⟩ (.slice ho' B'.length hc')).setCell ⟨bb, 2, none⟩ (.slice ko' C'.length kc')).setCell ⟨bb + 1, 0, none⟩ (.int .i64 EC)).setCell ⟨bb + 1, 1, none⟩ (.slice po' ps.length pc')) = Z at *
    clear r0 r1 r2 z0 z1 z2 rs rs2 d0 d1 x0 x1
    have HOF2 : Hid (∀ wx, Below Z.heap.size Z wx → _) := fun wx h => alike_of A' B' C' fo' uo' wo' fc' uc' wc' wx h
    have HRS2 : Hid (∀ wx, Below Z.heap.size Z wx → _) := fun wx h => AL2.out.1.same wx h
    have HSN2 : Hid (∀ wx, Below Z.heap.size Z wx → _) := fun wx h => AL2.out.1.seen wx h
    have HCE2 : Hid (∀ wx, Below Z.heap.size Z wx → _) := fun wx h => AL2.out.1.cells wx h
    simp only at HSN2 HCE2
    obtain ⟨⟨a0, a1, a2⟩, ⟨b0, b1, b2⟩, ⟨f0, f1⟩, asz, bsz, fsz⟩ := HCE2.out Z (Below.refl _ _)
    go_region_held3 (fun w' => (w'.cell? ⟨cb, 0, none⟩ = some (.slice fo' A'.length fc') ∧ w'.cell? ⟨cb, 1, none⟩ = some (.slice uo' B'.length uc') ∧ w'.cell? ⟨cb, 2, none⟩ = some (.slice wo' C'.length wc')) ∧ (w'.cell? ⟨bb, 0, none⟩ = some (.slice go' A'.length gc') ∧ w'.cell? ⟨bb, 1, none⟩ = some (.slice ho' B'.length hc') ∧ w'.cell? ⟨bb, 2, none⟩ = some (.slice ko' C'.length kc')) ∧ (w'.cell? ⟨bb + 1, 0, none⟩ = some (.int .i64 EC) ∧ w'.cell? ⟨bb + 1, 1, none⟩ = some (.slice po' ps.length pc'))) (go_keep) (first
      | (go_at_call 12; refine (HOF2.out _ (Below.refl _ Z).drew).mono ?_; rintro e z1 ⟨rfl, hz⟩; have Z1 : Hid (Below Z.heap.size Z z1) := hz; clear hz; obtain ⟨⟨p0, p1, p2⟩, ⟨p3, p4, p5⟩, ⟨p6, p7⟩, p8, p9, p10⟩ := HCE2.out z1 Z1.out)
      | (go_at_call 11; refine (HRS2.out _ Z1.out).mono ?_; rintro e z2 ⟨rfl, hz⟩; have Z2 : Hid (Below Z.heap.size Z z2) := hz; clear hz; obtain ⟨⟨q0, q1, q2⟩, ⟨q3, q4, q5⟩, ⟨q6, q7⟩, q8, q9, q10⟩ := HCE2.out z2 Z2.out)
      | (go_at_call 13; refine (HSN2.out _ Z2.out).mono ?_; rintro e z3 ⟨rfl, hz⟩; have Z3 : Hid (Below Z.heap.size Z z3) := hz; clear hz; obtain ⟨⟨s0, s1, s2⟩, ⟨s3, s4, s5⟩, ⟨s6, s7⟩, s8, s9, s10⟩ := HCE2.out z3 Z3.out))
    have HBE : Hid (Below w.heap.size w z3) := (HK.out z3 (AL2.out.2.trans (Z3.out.mono AL2.out.2.size))).2.2.2.2.2.1
    go_wp2
    go_ret
    exact ⟨rfl, HBE.out⟩
end Go.Proofs.YtgfmalimnbgdeaaDoor
