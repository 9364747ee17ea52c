/- The law NormalTwice, walked: at every graph it answers true, and nothing old turns. -/
import Derived.Test.YtldfhkdccbgdnaaTwiceM
import Derived.Test.YtldfhkdccbgdnaaAwake
import Derived.Deep.DeepCutAuto
namespace Go.Proofs.Ytldfhkdccbgdnaa
open Go.RowKit Go.Extern

attribute [local go_sem] Oper.semAt_some

/-- a graph in a box of its own, its arcs in memory. -/
structure Gr (wx : World) (b : Nat) (N : Int) (ao : Option Addr) (n cap : Nat) (xs : List (Int × Int × Int)) : Prop where
  box : wx.heap[b]? = some (.cells #[.int .i64 N, .slice ao n cap] 24)
  arcs : HasArcs wx (.slice ao n cap) xs
section
variable {w wx w' : World} {b : Nat} {N : Int} {ao : Option Addr} {n cap : Nat} {xs : List (Int × Int × Int)}
theorem below_draws' {B : Nat} {a w : World} (h : Below B a w) (q : Nat) : Below B a (w.drewN q) := ⟨h.os, h.tape, h.output, h.size, h.block⟩
theorem Gr.keep (h : Gr wx b N ao n cap xs) (hb : Below wx.heap.size wx w') : Gr w' b N ao n cap xs := ⟨(hb.block _ (lt_of_get h.box)).trans h.box, h.arcs.keep hb⟩
theorem Gr.cells (h : Gr wx b N ao n cap xs) : wx.cell? ⟨b, 0, none⟩ = some (.int .i64 N) ∧ wx.cell? ⟨b, 1, none⟩ = some (.slice ao n cap) ∧ b < wx.heap.size := ⟨by simp [World.cell?, h.box], by simp [World.cell?, h.box], lt_of_get h.box⟩
theorem Gr.new (N : Int) (h : HasArcs wx (.slice ao n cap) xs) : Gr (wx.alloc (.cells #[.int .i64 N, .slice ao n cap] 24)) wx.heap.size N ao n cap xs ∧ Below wx.heap.size wx (wx.alloc (.cells #[.int .i64 N, .slice ao n cap] 24)) := by
  have hb : Below wx.heap.size wx (wx.alloc (.cells #[.int .i64 N, .slice ao n cap] 24)) := (Below.refl _ wx).alloc (Nat.le_refl _) _
  exact ⟨⟨heap_new _ _, h.keep hb⟩, hb⟩
end

set_option maxRecDepth 100000 in
set_option maxHeartbeats 8000000 in
theorem twice_good (N : Int) (ao : Option Addr) (k0 cap : Nat) (xs : List (Int × Int × Int)) (w : World) (hl : HasArcs w (.slice ao k0 cap) xs) (hg : graphErr N xs = (0, [])) : Calls Try.prog 4 #[.agg #[.int .i64 N, .slice ao k0 cap]] w fun e w' => e = .returned (.bool true) ∧ Below w.heap.size w w' := by
  have HGD : Hid (graphErr N xs = (0, [])) := hg
  have hlim : xs.length ≤ 262144 := by have := ((good_iff N xs).1 hg).1; omega
  have HLM : Hid (xs.length ≤ 262144) := hlim
  have HG0 : Hid (type_of% (Gr.new N hl)) := Gr.new N hl
  clear hl hg hlim
  go_enter Try.func4, Try.ntmps4
  go_wp2_with fail
  generalize hW0 : w.alloc (.cells #[.int .i64 N, .slice ao k0 cap] 24) = W0
  have I0 : Hid (Gr W0 w.heap.size N ao k0 cap xs ∧ Below w.heap.size w W0) := by rw [← hW0]; exact ⟨HG0.out.1, HG0.out.2⟩
  clear hW0 HG0
  refine (awake_calls W0).mono ?_
  rintro e w1 ⟨rfl, h⟩
  have I1 : Hid (Gr w1 w.heap.size N ao k0 cap xs ∧ Below w.heap.size w w1) := ⟨I0.out.1.keep h, I0.out.2.trans (h.mono I0.out.2.size)⟩
  clear h
  obtain ⟨cg0, cg1, cgs⟩ := I1.out.1.cells
  have S1 : Hid (type_of% (of_good I1.out.1.arcs HGD.out)) := of_good I1.out.1.arcs HGD.out
  go_wp2_with fail
  refine S1.out.mono ?_
  rintro e w2 ⟨no, nn, nc, rfl, hA, h⟩
  have J1 : Hid (Gr w2 w.heap.size N ao k0 cap xs ∧ Below w.heap.size w w2) := ⟨I1.out.1.keep h, I1.out.2.trans (h.mono I1.out.2.size)⟩
  have A1 : Hid (HasArcs w2 (.slice no nn nc) (normA xs)) := hA
  clear cg0 cg1 cgs
  clear h hA S1
  obtain ⟨cg0, cg1, cgs⟩ := J1.out.1.cells
  go_wp2_with fail
  generalize hW : w2.alloc (.cells #[.int .i64 N, .slice no nn nc] 24) = W2
  obtain ⟨hG, hB⟩ := Gr.new N A1.out
  rw [hW] at hG hB
  have hX := lt_of_get hG.box
  clear hX cg0 cg1 cgs
  have I2 : Hid (Gr W2 w.heap.size N ao k0 cap xs ∧ Gr W2 w2.heap.size N no nn nc (normA xs) ∧ Below w.heap.size w W2) := ⟨J1.out.1.keep hB, hG, J1.out.2.trans (hB.mono J1.out.2.size)⟩
  clear hW hG hB
  generalize w2.heap.size = nb at *
  obtain ⟨cg0, cg1, cgs⟩ := I2.out.1.cells
  obtain ⟨cn0, cn1, cns⟩ := I2.out.2.1.cells
  refine (rev_good I2.out.1.arcs HGD.out).mono ?_
  rintro e w3 ⟨tp, tn, tc, rfl, hA, h⟩
  have J2 : Hid (Gr w3 w.heap.size N ao k0 cap xs ∧ Gr w3 nb N no nn nc (normA xs) ∧ Below w.heap.size w w3) := ⟨I2.out.1.keep h, I2.out.2.1.keep h, I2.out.2.2.trans (h.mono I2.out.2.2.size)⟩
  have A2 : Hid (HasArcs w3 (.slice tp tn tc) (xs.map turn)) := hA
  clear cg0 cg1 cgs cn0 cn1 cns
  clear h hA
  obtain ⟨cg0, cg1, cgs⟩ := J2.out.1.cells
  obtain ⟨cn0, cn1, cns⟩ := J2.out.2.1.cells
  go_wp2_with fail
  generalize hW : w3.alloc (.cells #[.int .i64 N, .slice tp tn tc] 24) = W3
  obtain ⟨hG, hB⟩ := Gr.new N A2.out
  rw [hW] at hG hB
  have hX := lt_of_get hG.box
  clear hX cg0 cg1 cgs cn0 cn1 cns
  have I3 : Hid (Gr W3 w.heap.size N ao k0 cap xs ∧ Gr W3 nb N no nn nc (normA xs) ∧ Gr W3 w3.heap.size N tp tn tc (xs.map turn) ∧ Below w.heap.size w W3) := ⟨J2.out.1.keep hB, J2.out.2.1.keep hB, hG, J2.out.2.2.trans (hB.mono J2.out.2.2.size)⟩
  clear hW hG hB
  generalize w3.heap.size = tb at *
  obtain ⟨cg0, cg1, cgs⟩ := I3.out.1.cells
  obtain ⟨cn0, cn1, cns⟩ := I3.out.2.1.cells
  obtain ⟨ct0, ct1, cts⟩ := I3.out.2.2.1.cells
  refine (of_good I3.out.2.1.arcs (good_norm HGD.out)).mono ?_
  rintro e w4 ⟨mo, mn, mc, rfl, hA, h⟩
  have J3 : Hid (Gr w4 w.heap.size N ao k0 cap xs ∧ Gr w4 nb N no nn nc (normA xs) ∧ Gr w4 tb N tp tn tc (xs.map turn) ∧ Below w.heap.size w w4) := ⟨I3.out.1.keep h, I3.out.2.1.keep h, I3.out.2.2.1.keep h, I3.out.2.2.2.trans (h.mono I3.out.2.2.2.size)⟩
  have A3 : Hid (HasArcs w4 (.slice mo mn mc) (normA (normA xs))) := hA
  clear cg0 cg1 cgs cn0 cn1 cns ct0 ct1 cts
  clear h hA
  obtain ⟨cg0, cg1, cgs⟩ := J3.out.1.cells
  obtain ⟨cn0, cn1, cns⟩ := J3.out.2.1.cells
  obtain ⟨ct0, ct1, cts⟩ := J3.out.2.2.1.cells
  go_wp2_with fail
  generalize hW : w4.alloc (.cells #[.int .i64 N, .slice mo mn mc] 24) = W4
  obtain ⟨hG, hB⟩ := Gr.new N A3.out
  rw [hW] at hG hB
  have hX := lt_of_get hG.box
  clear hX cg0 cg1 cgs cn0 cn1 cns ct0 ct1 cts
  have I4 : Hid (Gr W4 w.heap.size N ao k0 cap xs ∧ Gr W4 nb N no nn nc (normA xs) ∧ Gr W4 tb N tp tn tc (xs.map turn) ∧ Gr W4 w4.heap.size N mo mn mc (normA (normA xs)) ∧ Below w.heap.size w W4) := ⟨J3.out.1.keep hB, J3.out.2.1.keep hB, J3.out.2.2.1.keep hB, hG, J3.out.2.2.2.trans (hB.mono J3.out.2.2.2.size)⟩
  clear hW hG hB
  generalize w4.heap.size = mb at *
  obtain ⟨cg0, cg1, cgs⟩ := I4.out.1.cells
  obtain ⟨cn0, cn1, cns⟩ := I4.out.2.1.cells
  obtain ⟨ct0, ct1, cts⟩ := I4.out.2.2.1.cells
  obtain ⟨cm0, cm1, cms⟩ := I4.out.2.2.2.1.cells
  refine (is_good I4.out.2.1.arcs (good_norm HGD.out) (norm_twice xs)).mono ?_
  rintro e w5 ⟨rfl, h⟩
  have I5 : Hid (Gr w5 w.heap.size N ao k0 cap xs ∧ Gr w5 nb N no nn nc (normA xs) ∧ Gr w5 tb N tp tn tc (xs.map turn) ∧ Gr w5 mb N mo mn mc (normA (normA xs)) ∧ Below w.heap.size w w5) := ⟨I4.out.1.keep h, I4.out.2.1.keep h, I4.out.2.2.1.keep h, I4.out.2.2.2.1.keep h, I4.out.2.2.2.2.trans (h.mono I4.out.2.2.2.2.size)⟩
  clear cg0 cg1 cgs cn0 cn1 cns ct0 ct1 cts cm0 cm1 cms
  clear h
  obtain ⟨cg0, cg1, cgs⟩ := I5.out.1.cells
  obtain ⟨cn0, cn1, cns⟩ := I5.out.2.1.cells
  obtain ⟨ct0, ct1, cts⟩ := I5.out.2.2.1.cells
  obtain ⟨cm0, cm1, cms⟩ := I5.out.2.2.2.1.cells
  go_wp2_with fail
  refine (rev_good I5.out.2.2.1.arcs (good_turn HGD.out)).mono ?_
  rintro e w6 ⟨bo, bn, bc, rfl, hA, h⟩
  have J5 : Hid (Gr w6 w.heap.size N ao k0 cap xs ∧ Gr w6 nb N no nn nc (normA xs) ∧ Gr w6 tb N tp tn tc (xs.map turn) ∧ Gr w6 mb N mo mn mc (normA (normA xs)) ∧ Below w.heap.size w w6) := ⟨I5.out.1.keep h, I5.out.2.1.keep h, I5.out.2.2.1.keep h, I5.out.2.2.2.1.keep h, I5.out.2.2.2.2.trans (h.mono I5.out.2.2.2.2.size)⟩
  have A5 : Hid (HasArcs w6 (.slice bo bn bc) ((xs.map turn).map turn)) := hA
  clear cg0 cg1 cgs cn0 cn1 cns ct0 ct1 cts cm0 cm1 cms
  clear h hA
  obtain ⟨cg0, cg1, cgs⟩ := J5.out.1.cells
  obtain ⟨cn0, cn1, cns⟩ := J5.out.2.1.cells
  obtain ⟨ct0, ct1, cts⟩ := J5.out.2.2.1.cells
  obtain ⟨cm0, cm1, cms⟩ := J5.out.2.2.2.1.cells
  go_wp2_with fail
  generalize hW : w6.alloc (.cells #[.int .i64 N, .slice bo bn bc] 24) = W6
  obtain ⟨hG, hB⟩ := Gr.new N A5.out
  rw [hW] at hG hB
  have hX := lt_of_get hG.box
  clear hX cg0 cg1 cgs cn0 cn1 cns ct0 ct1 cts cm0 cm1 cms
  have I6 : Hid (Gr W6 w.heap.size N ao k0 cap xs ∧ Gr W6 nb N no nn nc (normA xs) ∧ Gr W6 tb N tp tn tc (xs.map turn) ∧ Gr W6 mb N mo mn mc (normA (normA xs)) ∧ Gr W6 w6.heap.size N bo bn bc ((xs.map turn).map turn) ∧ Below w.heap.size w W6) := ⟨J5.out.1.keep hB, J5.out.2.1.keep hB, J5.out.2.2.1.keep hB, J5.out.2.2.2.1.keep hB, hG, J5.out.2.2.2.2.trans (hB.mono J5.out.2.2.2.2.size)⟩
  clear hW hG hB
  generalize w6.heap.size = bb at *
  obtain ⟨cg0, cg1, cgs⟩ := I6.out.1.cells
  obtain ⟨cn0, cn1, cns⟩ := I6.out.2.1.cells
  obtain ⟨ct0, ct1, cts⟩ := I6.out.2.2.1.cells
  obtain ⟨cm0, cm1, cms⟩ := I6.out.2.2.2.1.cells
  obtain ⟨cb0, cb1, cbs⟩ := I6.out.2.2.2.2.1.cells
  have hS : Calls Try.prog 16 _ _ _ := (same_dec N mo no mn nn mc nc (normA (normA xs)) (normA xs) _ I6.out.2.2.2.1.arcs I6.out.2.1.arcs (by have := normA_len (normA xs); have := normA_len xs; have := HLM.out; unfold maxLen; omega))
  rw [decide_eq_true (show (normA (normA xs)) = (normA xs) from norm_twice xs)] at hS
  refine hS.mono ?_
  rintro e w7 ⟨rfl, h⟩
  have I7 : Hid (Gr w7 w.heap.size N ao k0 cap xs ∧ Gr w7 nb N no nn nc (normA xs) ∧ Gr w7 tb N tp tn tc (xs.map turn) ∧ Gr w7 mb N mo mn mc (normA (normA xs)) ∧ Gr w7 bb N bo bn bc ((xs.map turn).map turn) ∧ Below w.heap.size w w7) := ⟨I6.out.1.keep h, I6.out.2.1.keep h, I6.out.2.2.1.keep h, I6.out.2.2.2.1.keep h, I6.out.2.2.2.2.1.keep h, I6.out.2.2.2.2.2.trans (h.mono I6.out.2.2.2.2.2.size)⟩
  clear cg0 cg1 cgs cn0 cn1 cns ct0 ct1 cts cm0 cm1 cms cb0 cb1 cbs
  clear h hS
  obtain ⟨cg0, cg1, cgs⟩ := I7.out.1.cells
  obtain ⟨cn0, cn1, cns⟩ := I7.out.2.1.cells
  obtain ⟨ct0, ct1, cts⟩ := I7.out.2.2.1.cells
  obtain ⟨cm0, cm1, cms⟩ := I7.out.2.2.2.1.cells
  obtain ⟨cb0, cb1, cbs⟩ := I7.out.2.2.2.2.1.cells
  go_wp2_with fail
  have hS : Calls Try.prog 16 _ _ _ := (same_dec N bo ao bn k0 bc cap ((xs.map turn).map turn) xs _ I7.out.2.2.2.2.1.arcs I7.out.1.arcs (by rw [turn_turn]; have := HLM.out; unfold maxLen; omega))
  rw [decide_eq_true (show ((xs.map turn).map turn) = xs from turn_turn xs)] at hS
  refine hS.mono ?_
  rintro e w8 ⟨rfl, h⟩
  have I8 : Hid (Gr w8 w.heap.size N ao k0 cap xs ∧ Gr w8 nb N no nn nc (normA xs) ∧ Gr w8 tb N tp tn tc (xs.map turn) ∧ Gr w8 mb N mo mn mc (normA (normA xs)) ∧ Gr w8 bb N bo bn bc ((xs.map turn).map turn) ∧ Below w.heap.size w w8) := ⟨I7.out.1.keep h, I7.out.2.1.keep h, I7.out.2.2.1.keep h, I7.out.2.2.2.1.keep h, I7.out.2.2.2.2.1.keep h, I7.out.2.2.2.2.2.trans (h.mono I7.out.2.2.2.2.2.size)⟩
  clear cg0 cg1 cgs cn0 cn1 cns ct0 ct1 cts cm0 cm1 cms cb0 cb1 cbs
  clear h hS
  obtain ⟨cg0, cg1, cgs⟩ := I8.out.1.cells
  obtain ⟨cn0, cn1, cns⟩ := I8.out.2.1.cells
  obtain ⟨ct0, ct1, cts⟩ := I8.out.2.2.1.cells
  obtain ⟨cm0, cm1, cms⟩ := I8.out.2.2.2.1.cells
  obtain ⟨cb0, cb1, cbs⟩ := I8.out.2.2.2.2.1.cells
  go_wp2_with fail
  generalize hW8 : w8 = W8 at *
  clear hW8
  have HN8 : Hid (nn = (normA xs).length) := arcs_len I8.out.2.1.arcs
  have hnl : nn ≤ 262144 := by rw [HN8.out]; have := normA_len xs; have := HLM.out; omega
  go_loopw [99] (fun iv wr => ∃ k : Nat, k ≤ nn ∧ iv = .int .i64 k ∧ Below W8.heap.size W8 wr) (fun iv _ => nn - (intOf iv).toNat)
  case atStart => exact ⟨0, Nat.zero_le _, rfl, Below.refl _ _⟩
  case round =>
    obtain ⟨k, hk, rfl, hB⟩ := hrel
    have HB : Hid (Below W8.heap.size W8 wr) := hB
    clear cg0 cg1 cgs cn0 cn1 cns ct0 ct1 cts cm0 cm1 cms cb0 cb1 cbs
    by_cases hlt : k < nn
    · have hGn := I8.out.2.1.keep hB
      obtain ⟨a, ha⟩ : ∃ a, (normA xs)[k]? = some a := ⟨(normA xs)[k]'(by have := HN8.out; omega), List.getElem?_eq_getElem _⟩
      obtain ⟨cn0, cn1, cns⟩ := hGn.cells
      obtain ⟨ba, off, hno, hbl, e0, e1, e2⟩ := hGn.arcs.at ha
      subst hno
      have hne := (norm_sub (List.mem_of_getElem? ha)).2
      have HPREV : Hid (∀ j, j + 1 = k → ∃ p, (normA xs)[j]? = some p ∧ lessA p a ∧ wr.cell? ⟨ba, off + j * 3, none⟩ = some (.int .i64 p.1) ∧ wr.cell? ⟨ba, off + j * 3 + 1, none⟩ = some (.int .i64 p.2.1)) := fun j hj => by
        obtain ⟨p, hp⟩ : ∃ p, (normA xs)[j]? = some p := ⟨(normA xs)[j]'(by have := HN8.out; omega), List.getElem?_eq_getElem _⟩
        subst hj
        obtain ⟨b', off', e, _, f0, f1, _⟩ := hGn.arcs.at hp
        cases e
        exact ⟨p, hp, norm_rise xs hp ha, f0, f1⟩
      obtain ⟨a0, a1, a2⟩ := a
      simp only at hne e0 e1 e2
      have b0 : (0 : Int) ≤ (k : Int) := by omega
      have b1 : (k : Int) < (nn : Int) := by omega
      have hne' : (a0 == a1) = false := by simpa using hne
      have HP : Hid (∀ W9, wr.alloc (.cells #[.int .i64 a0, .int .i64 a1, .int .i64 a2] 39) = W9 → Below W8.heap.size W8 W9 ∧ W9.heap[wr.heap.size]? = some (.cells #[.int .i64 a0, .int .i64 a1, .int .i64 a2] 39) ∧ Below wr.heap.size wr W9) := fun W9 e => by
        have k0 := heap_new wr (.cells #[.int .i64 a0, .int .i64 a1, .int .i64 a2] 39)
        have hb := (Below.refl _ wr).alloc (Nat.le_refl _) (.cells #[.int .i64 a0, .int .i64 a1, .int .i64 a2] 39)
        rw [e] at k0 hb
        exact ⟨HB.out.trans (hb.mono HB.out.size), k0, hb⟩
      clear ha hGn hB hne
      go_upto_region 15 with fail
      generalize hW9 : wr.alloc (.cells #[.int .i64 a0, .int .i64 a1, .int .i64 a2] 39) = W9
      obtain ⟨hB9, h9, hb9⟩ := HP.out W9 hW9
      clear hW9 HP cn0 cn1 cns e0 e1 e2
      obtain ⟨cn0, cn1, cns⟩ := (I8.out.2.1.keep hB9).cells
      obtain ⟨d0, d1, d2⟩ : W9.cell? ⟨wr.heap.size, 0, none⟩ = some (.int .i64 a0) ∧ W9.cell? ⟨wr.heap.size, 1, none⟩ = some (.int .i64 a1) ∧ W9.cell? ⟨wr.heap.size, 2, none⟩ = some (.int .i64 a2) := by simp [World.cell?, h9]
      have HB9 : Hid (Below W8.heap.size W8 W9) := hB9
      rcases Nat.eq_zero_or_pos k with hk0 | hk0
      · subst hk0
        clear hB9 h9 hb9
        generalize wr.heap.size = ub at *
        go_quiet (fail)
        go_wp2
        go_roundw
        case rel => exact ⟨0 + 1, by omega, by go_num, below_draws' HB9.out _⟩
        case measure => simp [intOf]; omega
      · obtain ⟨j, hj⟩ : ∃ j, j + 1 = k := ⟨k - 1, by omega⟩
        obtain ⟨p, _, hless, f0, f1⟩ := HPREV.out j hj
        have f0' := (hb9.cell (p := ⟨ba, off + j * 3, none⟩) hbl).trans f0
        have f1' := (hb9.cell (p := ⟨ba, off + j * 3 + 1, none⟩) hbl).trans f1
        have hw : IntKind.i64.wrap ((k : Int) - 1) = (j : Int) := by rw [IntKind.wrap_i64]; omega
        have hw' : (k : Int) - 1 = (j : Int) := by omega
        have j0 : (0 : Int) ≤ (j : Int) := by omega
        have j1 : (j : Int) < (nn : Int) := by omega
        have k1 : decide ((0 : Int) < (k : Int)) = true := decide_eq_true (by omega)
        have k2 : (0 : Int) < (k : Int) := by omega
        obtain ⟨p0, p1, p2⟩ := p
        have hless' : (p0 < a0) ∨ (p0 = a0 ∧ p1 < a1) := hless
        simp only at f0' f1'
        clear hB9 h9 hb9 f0 f1 hless
        generalize wr.heap.size = ub at *
        have HJ : Hid (j + 1 = k) := hj
        clear hj
        rcases hless' with hq | ⟨rfl, hq⟩
        · have u1 : decide (a0 < p0) = false := decide_eq_false (by omega)
          have u2 : (a0 == p0) = false := by simp; omega
          go_quiet (fail)
          go_wp2
          go_roundw
          case rel => exact ⟨k + 1, by omega, by go_num, below_draws' HB9.out _⟩
          case measure => simp [intOf]; omega
        · have u1 : decide (a1 ≤ p1) = false := decide_eq_false (by omega)
          go_quiet (fail)
          go_wp2
          go_roundw
          case rel => exact ⟨k + 1, by omega, by go_num, below_draws' HB9.out _⟩
          case measure => simp [intOf]; omega
    · obtain rfl : nn = k := by omega
      have J8 : Hid (Gr wr w.heap.size N ao k0 cap xs ∧ Gr wr nb N no nn nc (normA xs) ∧ Gr wr tb N tp tn tc (xs.map turn) ∧ Gr wr mb N mo mn mc (normA (normA xs)) ∧ Gr wr bb N bo bn bc ((xs.map turn).map turn) ∧ Below w.heap.size w wr) := ⟨I8.out.1.keep hB, I8.out.2.1.keep hB, I8.out.2.2.1.keep hB, I8.out.2.2.2.1.keep hB, I8.out.2.2.2.2.1.keep hB, I8.out.2.2.2.2.2.trans (hB.mono I8.out.2.2.2.2.2.size)⟩
      clear hB
      obtain ⟨cg0, cg1, cgs⟩ := J8.out.1.cells
      obtain ⟨cn0, cn1, cns⟩ := J8.out.2.1.cells
      obtain ⟨ct0, ct1, cts⟩ := J8.out.2.2.1.cells
      obtain ⟨cm0, cm1, cms⟩ := J8.out.2.2.2.1.cells
      obtain ⟨cb0, cb1, cbs⟩ := J8.out.2.2.2.2.1.cells
      generalize hW8r : wr = w9 at *
      clear hW8r
      go_wp2_with fail
      refine (of_good J8.out.2.2.1.arcs (good_turn HGD.out)).mono ?_
      rintro e w10 ⟨xo, xn, xc, rfl, hA, h⟩
      have J9 : Hid (Gr w10 w.heap.size N ao k0 cap xs ∧ Gr w10 nb N no nn nc (normA xs) ∧ Gr w10 tb N tp tn tc (xs.map turn) ∧ Gr w10 mb N mo mn mc (normA (normA xs)) ∧ Gr w10 bb N bo bn bc ((xs.map turn).map turn) ∧ Below w.heap.size w w10) := ⟨J8.out.1.keep h, J8.out.2.1.keep h, J8.out.2.2.1.keep h, J8.out.2.2.2.1.keep h, J8.out.2.2.2.2.1.keep h, J8.out.2.2.2.2.2.trans (h.mono J8.out.2.2.2.2.2.size)⟩
      have A9 : Hid (HasArcs w10 (.slice xo xn xc) (normA (xs.map turn))) := hA
      clear cg0 cg1 cgs cn0 cn1 cns ct0 ct1 cts cm0 cm1 cms cb0 cb1 cbs
      clear h hA
      obtain ⟨cg0, cg1, cgs⟩ := J9.out.1.cells
      obtain ⟨cn0, cn1, cns⟩ := J9.out.2.1.cells
      obtain ⟨ct0, ct1, cts⟩ := J9.out.2.2.1.cells
      obtain ⟨cm0, cm1, cms⟩ := J9.out.2.2.2.1.cells
      obtain ⟨cb0, cb1, cbs⟩ := J9.out.2.2.2.2.1.cells
      go_wp2_with fail
      generalize hW : w10.alloc (.cells #[.int .i64 N, .slice xo xn xc] 24) = W10
      obtain ⟨hG, hB⟩ := Gr.new N A9.out
      rw [hW] at hG hB
      have hX := lt_of_get hG.box
      clear hX cg0 cg1 cgs cn0 cn1 cns ct0 ct1 cts cm0 cm1 cms cb0 cb1 cbs
      have I10 : Hid (Gr W10 w.heap.size N ao k0 cap xs ∧ Gr W10 nb N no nn nc (normA xs) ∧ Gr W10 tb N tp tn tc (xs.map turn) ∧ Gr W10 mb N mo mn mc (normA (normA xs)) ∧ Gr W10 bb N bo bn bc ((xs.map turn).map turn) ∧ Gr W10 w10.heap.size N xo xn xc (normA (xs.map turn)) ∧ Below w.heap.size w W10) := ⟨J9.out.1.keep hB, J9.out.2.1.keep hB, J9.out.2.2.1.keep hB, J9.out.2.2.2.1.keep hB, J9.out.2.2.2.2.1.keep hB, hG, J9.out.2.2.2.2.2.trans (hB.mono J9.out.2.2.2.2.2.size)⟩
      clear hW hG hB
      generalize w10.heap.size = xb at *
      obtain ⟨cg0, cg1, cgs⟩ := I10.out.1.cells
      obtain ⟨cn0, cn1, cns⟩ := I10.out.2.1.cells
      obtain ⟨ct0, ct1, cts⟩ := I10.out.2.2.1.cells
      obtain ⟨cm0, cm1, cms⟩ := I10.out.2.2.2.1.cells
      obtain ⟨cb0, cb1, cbs⟩ := I10.out.2.2.2.2.1.cells
      obtain ⟨cx0, cx1, cxs⟩ := I10.out.2.2.2.2.2.1.cells
      refine (rev_good I10.out.2.1.arcs (good_norm HGD.out)).mono ?_
      rintro e w11 ⟨yo, yn, yc, rfl, hA, h⟩
      have J10 : Hid (Gr w11 w.heap.size N ao k0 cap xs ∧ Gr w11 nb N no nn nc (normA xs) ∧ Gr w11 tb N tp tn tc (xs.map turn) ∧ Gr w11 mb N mo mn mc (normA (normA xs)) ∧ Gr w11 bb N bo bn bc ((xs.map turn).map turn) ∧ Gr w11 xb N xo xn xc (normA (xs.map turn)) ∧ Below w.heap.size w w11) := ⟨I10.out.1.keep h, I10.out.2.1.keep h, I10.out.2.2.1.keep h, I10.out.2.2.2.1.keep h, I10.out.2.2.2.2.1.keep h, I10.out.2.2.2.2.2.1.keep h, I10.out.2.2.2.2.2.2.trans (h.mono I10.out.2.2.2.2.2.2.size)⟩
      have A10 : Hid (HasArcs w11 (.slice yo yn yc) ((normA xs).map turn)) := hA
      clear cg0 cg1 cgs cn0 cn1 cns ct0 ct1 cts cm0 cm1 cms cb0 cb1 cbs cx0 cx1 cxs
      clear h hA
      obtain ⟨cg0, cg1, cgs⟩ := J10.out.1.cells
      obtain ⟨cn0, cn1, cns⟩ := J10.out.2.1.cells
      obtain ⟨ct0, ct1, cts⟩ := J10.out.2.2.1.cells
      obtain ⟨cm0, cm1, cms⟩ := J10.out.2.2.2.1.cells
      obtain ⟨cb0, cb1, cbs⟩ := J10.out.2.2.2.2.1.cells
      obtain ⟨cx0, cx1, cxs⟩ := J10.out.2.2.2.2.2.1.cells
      go_wp2_with fail
      generalize hW : w11.alloc (.cells #[.int .i64 N, .slice yo yn yc] 24) = W11
      obtain ⟨hG, hB⟩ := Gr.new N A10.out
      rw [hW] at hG hB
      have hX := lt_of_get hG.box
      clear hX cg0 cg1 cgs cn0 cn1 cns ct0 ct1 cts cm0 cm1 cms cb0 cb1 cbs cx0 cx1 cxs
      have I11 : Hid (Gr W11 w.heap.size N ao k0 cap xs ∧ Gr W11 nb N no nn nc (normA xs) ∧ Gr W11 tb N tp tn tc (xs.map turn) ∧ Gr W11 mb N mo mn mc (normA (normA xs)) ∧ Gr W11 bb N bo bn bc ((xs.map turn).map turn) ∧ Gr W11 xb N xo xn xc (normA (xs.map turn)) ∧ Gr W11 w11.heap.size N yo yn yc ((normA xs).map turn) ∧ Below w.heap.size w W11) := ⟨J10.out.1.keep hB, J10.out.2.1.keep hB, J10.out.2.2.1.keep hB, J10.out.2.2.2.1.keep hB, J10.out.2.2.2.2.1.keep hB, J10.out.2.2.2.2.2.1.keep hB, hG, J10.out.2.2.2.2.2.2.trans (hB.mono J10.out.2.2.2.2.2.2.size)⟩
      clear hW hG hB
      generalize w11.heap.size = yb at *
      obtain ⟨cg0, cg1, cgs⟩ := I11.out.1.cells
      obtain ⟨cn0, cn1, cns⟩ := I11.out.2.1.cells
      obtain ⟨ct0, ct1, cts⟩ := I11.out.2.2.1.cells
      obtain ⟨cm0, cm1, cms⟩ := I11.out.2.2.2.1.cells
      obtain ⟨cb0, cb1, cbs⟩ := I11.out.2.2.2.2.1.cells
      obtain ⟨cx0, cx1, cxs⟩ := I11.out.2.2.2.2.2.1.cells
      obtain ⟨cy0, cy1, cys⟩ := I11.out.2.2.2.2.2.2.1.cells
      refine (of_good I11.out.2.2.2.2.2.2.1.arcs (good_turn (good_norm HGD.out))).mono ?_
      rintro e w12 ⟨zo, zn, zc, rfl, hA, h⟩
      have J11 : Hid (Gr w12 w.heap.size N ao k0 cap xs ∧ Gr w12 nb N no nn nc (normA xs) ∧ Gr w12 tb N tp tn tc (xs.map turn) ∧ Gr w12 mb N mo mn mc (normA (normA xs)) ∧ Gr w12 bb N bo bn bc ((xs.map turn).map turn) ∧ Gr w12 xb N xo xn xc (normA (xs.map turn)) ∧ Gr w12 yb N yo yn yc ((normA xs).map turn) ∧ Below w.heap.size w w12) := ⟨I11.out.1.keep h, I11.out.2.1.keep h, I11.out.2.2.1.keep h, I11.out.2.2.2.1.keep h, I11.out.2.2.2.2.1.keep h, I11.out.2.2.2.2.2.1.keep h, I11.out.2.2.2.2.2.2.1.keep h, I11.out.2.2.2.2.2.2.2.trans (h.mono I11.out.2.2.2.2.2.2.2.size)⟩
      have A11 : Hid (HasArcs w12 (.slice zo zn zc) (normA ((normA xs).map turn))) := hA
      clear cg0 cg1 cgs cn0 cn1 cns ct0 ct1 cts cm0 cm1 cms cb0 cb1 cbs cx0 cx1 cxs cy0 cy1 cys
      clear h hA
      obtain ⟨cg0, cg1, cgs⟩ := J11.out.1.cells
      obtain ⟨cn0, cn1, cns⟩ := J11.out.2.1.cells
      obtain ⟨ct0, ct1, cts⟩ := J11.out.2.2.1.cells
      obtain ⟨cm0, cm1, cms⟩ := J11.out.2.2.2.1.cells
      obtain ⟨cb0, cb1, cbs⟩ := J11.out.2.2.2.2.1.cells
      obtain ⟨cx0, cx1, cxs⟩ := J11.out.2.2.2.2.2.1.cells
      obtain ⟨cy0, cy1, cys⟩ := J11.out.2.2.2.2.2.2.1.cells
      go_wp2_with fail
      generalize hW : w12.alloc (.cells #[.int .i64 N, .slice zo zn zc] 24) = W12
      obtain ⟨hG, hB⟩ := Gr.new N A11.out
      rw [hW] at hG hB
      have hX := lt_of_get hG.box
      clear hX cg0 cg1 cgs cn0 cn1 cns ct0 ct1 cts cm0 cm1 cms cb0 cb1 cbs cx0 cx1 cxs cy0 cy1 cys
      have I12 : Hid (Gr W12 w.heap.size N ao k0 cap xs ∧ Gr W12 nb N no nn nc (normA xs) ∧ Gr W12 tb N tp tn tc (xs.map turn) ∧ Gr W12 mb N mo mn mc (normA (normA xs)) ∧ Gr W12 bb N bo bn bc ((xs.map turn).map turn) ∧ Gr W12 xb N xo xn xc (normA (xs.map turn)) ∧ Gr W12 yb N yo yn yc ((normA xs).map turn) ∧ Gr W12 w12.heap.size N zo zn zc (normA ((normA xs).map turn)) ∧ Below w.heap.size w W12) := ⟨J11.out.1.keep hB, J11.out.2.1.keep hB, J11.out.2.2.1.keep hB, J11.out.2.2.2.1.keep hB, J11.out.2.2.2.2.1.keep hB, J11.out.2.2.2.2.2.1.keep hB, J11.out.2.2.2.2.2.2.1.keep hB, hG, J11.out.2.2.2.2.2.2.2.trans (hB.mono J11.out.2.2.2.2.2.2.2.size)⟩
      clear hW hG hB
      generalize w12.heap.size = zb at *
      obtain ⟨cg0, cg1, cgs⟩ := I12.out.1.cells
      obtain ⟨cn0, cn1, cns⟩ := I12.out.2.1.cells
      obtain ⟨ct0, ct1, cts⟩ := I12.out.2.2.1.cells
      obtain ⟨cm0, cm1, cms⟩ := I12.out.2.2.2.1.cells
      obtain ⟨cb0, cb1, cbs⟩ := I12.out.2.2.2.2.1.cells
      obtain ⟨cx0, cx1, cxs⟩ := I12.out.2.2.2.2.2.1.cells
      obtain ⟨cy0, cy1, cys⟩ := I12.out.2.2.2.2.2.2.1.cells
      obtain ⟨cz0, cz1, czs⟩ := I12.out.2.2.2.2.2.2.2.1.cells
      have hS : Calls Try.prog 16 _ _ _ := (same_dec N xo zo xn zn xc zc (normA (xs.map turn)) (normA ((normA xs).map turn)) _ I12.out.2.2.2.2.2.1.arcs I12.out.2.2.2.2.2.2.2.1.arcs (by have := normA_len (xs.map turn); rw [List.length_map] at this; have := HLM.out; unfold maxLen; omega))
      rw [decide_eq_true (show (normA (xs.map turn)) = (normA ((normA xs).map turn)) from norm_turn xs)] at hS
      refine hS.mono ?_
      rintro e w13 ⟨rfl, h⟩
      have I13 : Hid (Gr w13 w.heap.size N ao k0 cap xs ∧ Gr w13 nb N no nn nc (normA xs) ∧ Gr w13 tb N tp tn tc (xs.map turn) ∧ Gr w13 mb N mo mn mc (normA (normA xs)) ∧ Gr w13 bb N bo bn bc ((xs.map turn).map turn) ∧ Gr w13 xb N xo xn xc (normA (xs.map turn)) ∧ Gr w13 yb N yo yn yc ((normA xs).map turn) ∧ Gr w13 zb N zo zn zc (normA ((normA xs).map turn)) ∧ Below w.heap.size w w13) := ⟨I12.out.1.keep h, I12.out.2.1.keep h, I12.out.2.2.1.keep h, I12.out.2.2.2.1.keep h, I12.out.2.2.2.2.1.keep h, I12.out.2.2.2.2.2.1.keep h, I12.out.2.2.2.2.2.2.1.keep h, I12.out.2.2.2.2.2.2.2.1.keep h, I12.out.2.2.2.2.2.2.2.2.trans (h.mono I12.out.2.2.2.2.2.2.2.2.size)⟩
      clear cg0 cg1 cgs cn0 cn1 cns ct0 ct1 cts cm0 cm1 cms cb0 cb1 cbs cx0 cx1 cxs cy0 cy1 cys cz0 cz1 czs
      clear h hS
      obtain ⟨cg0, cg1, cgs⟩ := I13.out.1.cells
      obtain ⟨cn0, cn1, cns⟩ := I13.out.2.1.cells
      obtain ⟨ct0, ct1, cts⟩ := I13.out.2.2.1.cells
      obtain ⟨cm0, cm1, cms⟩ := I13.out.2.2.2.1.cells
      obtain ⟨cb0, cb1, cbs⟩ := I13.out.2.2.2.2.1.cells
      obtain ⟨cx0, cx1, cxs⟩ := I13.out.2.2.2.2.2.1.cells
      obtain ⟨cy0, cy1, cys⟩ := I13.out.2.2.2.2.2.2.1.cells
      obtain ⟨cz0, cz1, czs⟩ := I13.out.2.2.2.2.2.2.2.1.cells
      go_wp2
      go_ret
      exact ⟨rfl, I13.out.2.2.2.2.2.2.2.2⟩
end Go.Proofs.Ytldfhkdccbgdnaa
