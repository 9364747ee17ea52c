/- settle: the thing comes to stand where it belongs. -/
import Derived.Test.YtepkogijignmlaaHpSink
namespace Go.Proofs.Ytepkogijignmlaa.Hp
open Go.RowKit

attribute [local go_sem] Oper.semAt_some

/-- the keys by ids, one of them laid anew. -/
def upd (f : Int → Option Int) (d : Int) (v : Option Int) : Int → Option Int := fun e => if e = d then v else f e

set_option maxRecDepth 100000 in
set_option maxHeartbeats 2000000 in
theorem settle_calls {hb wb n g cap m free d : Nat} {ps : List Th} {wh : List Int} {w : World} (xk : Int) (f : Int → Option Int) (h : Mem w hb wb n (.slice (some ⟨g, 0, none⟩) m cap) ps wh) (hm : ps.length = m) (hm6 : m ≤ 65536) (hh : Hole ps wh free (d : Int) f) :
    Calls Try.prog 77 #[.pointer (some ⟨hb, 0, none⟩), .int .i64 free, .agg #[.int .u64 xk, .int .u32 (d : Int)]] w fun e w' => e = .returned (.tuple #[]) ∧ ∃ (ps' : List Th) (wh' : List Int), Heap ps' wh' (upd f d (some xk)) ∧ Mem w' hb wb n (.slice (some ⟨g, 0, none⟩) m cap) ps' wh' ∧ ps'.length = m ∧ Fr hb wb (.slice (some ⟨g, 0, none⟩) m cap) (.slice (some ⟨g, 0, none⟩) m cap) w w' := by
  obtain ⟨W0, hW0⟩ : ∃ W0, w.alloc (.cells #[.int .u64 xk, .int .u32 (d : Int)] 145) = W0 := ⟨_, rfl⟩
  have hB0 : Below w.heap.size w W0 := by rw [← hW0]; exact (Below.refl _ w).alloc (Nat.le_refl _) _
  have k0 : W0.heap[w.heap.size]? = some (.cells #[.int .u64 xk, .int .u32 (d : Int)] 145) := by rw [← hW0]; exact heap_new _ _
  obtain ⟨bx, hbx⟩ : ∃ bx, w.heap.size = bx := ⟨_, rfl⟩
  rw [hbx] at k0
  have hbxl : (hb < bx ∧ wb < bx ∧ g < bx) ∧ bx < W0.heap.size := by
    refine ⟨?_, lt_of_get k0⟩
    rw [← hbx]
    refine ⟨lt_of_get h.box, lt_of_get h.whr, ?_⟩
    obtain ⟨y, hy⟩ : ∃ y, ps[free]? = some y := ⟨ps[free]'hh.flt, List.getElem?_eq_getElem _⟩
    obtain ⟨g', cap', e, _, _, hgl, _⟩ := h.thing hy
    cases e
    exact hgl
  have HFR : Hid (Fr hb wb (.slice (some ⟨g, 0, none⟩) m cap) (.slice (some ⟨g, 0, none⟩) m cap) w W0) := Fr.of_below hB0
  have HXK : Hid (∀ w1, Fr hb wb (.slice (some ⟨g, 0, none⟩) m cap) (.slice (some ⟨g, 0, none⟩) m cap) W0 w1 → w1.cell? ⟨bx, 0, none⟩ = some (.int .u64 xk) ∧ w1.cell? ⟨bx, 1, none⟩ = some (.int .u32 (d : Int)) ∧ bx < w1.heap.size) := fun w1 hF => by
    have hk := (hF.block bx hbxl.2 (by omega) (by omega) (fun e => by have := Option.some.inj e; simp only at this; omega)).trans k0
    exact ⟨(pair_cells hk).1, (pair_cells hk).2, lt_of_get hk⟩
  have HRS : Hid (Calls Try.prog 78 #[.pointer (some ⟨hb, 0, none⟩), .int .i64 free, .agg #[.int .u64 xk, .int .u32 (d : Int)]] W0 fun e w' => ∃ (free' : Nat) (ps' : List Th) (wh' : List Int), e = .returned (.int .i64 free') ∧ Hole ps' wh' free' (d : Int) f ∧ Mem w' hb wb n (.slice (some ⟨g, 0, none⟩) m cap) ps' wh' ∧ ps'.length = m ∧ Fr hb wb (.slice (some ⟨g, 0, none⟩) m cap) (.slice (some ⟨g, 0, none⟩) m cap) W0 w' ∧ (0 < free' → ∀ p, ps'[(free' - 1) / 4]? = some p → ¬ ltT (xk, (d : Int)) p)) := rise_calls xk (d : Int) f (h.below hB0) hm hm6 hh
  have hdn : (d : Int) < (n : Int) := by have := hh.xin; have := h.len; omega
  have hd0 : (0 : Int) ≤ (d : Int) := by omega
  have hn := h.big
  have HW0 : Hid (w.alloc (.cells #[.int .u64 xk, .int .u32 (d : Int)] 145) = W0) := hW0
  have HBE : Hid (w.heap.size = bx) := hbx
  have n1 : hb ≠ wb := h.hw
  have n2 : wb ≠ hb := Ne.symm n1
  obtain ⟨s0, s1, _⟩ := HXK.out W0 (Fr.refl _ _ _ _)
  have HBL : Hid ((hb < bx ∧ wb < bx ∧ g < bx) ∧ bx < W0.heap.size) := hbxl
  clear hW0 hB0 k0 h hh hm hbx hbxl
  go_enter Try.func77, Try.ntmps77
  go_wp2_with fail
  rw [HW0.out, HBE.out]
  go_wp2_with fail
  refine HRS.out.mono ?_
  rintro e w1 ⟨f1, ps1, wh1, rfl, hH1, hM1, hl1, hF1, hp1⟩
  have HF1 : Hid (Fr hb wb (.slice (some ⟨g, 0, none⟩) m cap) (.slice (some ⟨g, 0, none⟩) m cap) W0 w1) := hF1
  have HSK : Hid (Calls Try.prog 79 #[.pointer (some ⟨hb, 0, none⟩), .int .i64 f1, .agg #[.int .u64 xk, .int .u32 (d : Int)]] w1 fun e w' => ∃ (free' : Nat) (ps' : List Th) (wh' : List Int), e = .returned (.int .i64 free') ∧ Hole ps' wh' free' (d : Int) f ∧ Mem w' hb wb n (.slice (some ⟨g, 0, none⟩) m cap) ps' wh' ∧ ps'.length = m ∧ Fr hb wb (.slice (some ⟨g, 0, none⟩) m cap) (.slice (some ⟨g, 0, none⟩) m cap) w1 w' ∧ (0 < free' → ∀ p, ps'[(free' - 1) / 4]? = some p → ¬ ltT (xk, (d : Int)) p) ∧ (∀ (i : Nat) (z : Th), 0 < i → (i - 1) / 4 = free' → ps'[i]? = some z → ¬ ltT z (xk, (d : Int)))) := sink_calls xk (d : Int) f hM1 hl1 hm6 hH1 hp1
  clear hH1 hM1 hl1 hF1 hp1 s0 s1
  obtain ⟨s0, s1, _⟩ := HXK.out w1 HF1.out
  go_wp2_with fail
  refine HSK.out.mono ?_
  rintro e w2 ⟨fr, ps2, wh2, rfl, hH2, hM2, hl2, hF2, hp2, hc2⟩
  have HF2 : Hid (Fr hb wb (.slice (some ⟨g, 0, none⟩) m cap) (.slice (some ⟨g, 0, none⟩) m cap) W0 w2) := HF1.out.trans hF2
  have hfl := hH2.flt
  obtain ⟨y, hy⟩ : ∃ y, ps2[fr]? = some y := ⟨ps2[fr]'hfl, List.getElem?_eq_getElem _⟩
  obtain ⟨g', cap', e, hc1, hcm, hgl, hgh, hgw, q0, q1, z0, z1⟩ := hM2.thing hy
  cases e
  obtain ⟨c0, c1, _, _⟩ := hM2.cells
  obtain ⟨p, hp⟩ : ∃ p, wh2[d]? = some p := ⟨wh2[d]'(by have := hM2.len; omega), List.getElem?_eq_getElem _⟩
  obtain ⟨r0, r1⟩ := hM2.where_ hp
  have HM2 : Hid (Mem w2 hb wb n (.slice (some ⟨g, 0, none⟩) ps2.length cap) ps2 wh2) := hM2
  have HHP : Hid (Heap (ps2.set fr (xk, (d : Int))) (wh2.set d ((fr : Int) + 1)) (upd f d (some xk))) := by
    have := hH2.fill (x := (xk, (d : Int))) hp2 hc2
    simp only [Int.toNat_natCast] at this
    exact this
  have hbl := HBL.out
  have b1 : (0 : Int) ≤ (fr : Int) := by omega
  have b2 : (fr : Int) < (ps2.length : Int) := by omega
  have n3 : hb ≠ g := Ne.symm hgh
  have n4 : wb ≠ g := Ne.symm hgw
  have n5 : bx ≠ g := by omega
  have n6 : g ≠ bx := by omega
  have n7 : bx ≠ hb := by omega
  have n8 : hb ≠ bx := by omega
  have n9 : bx ≠ wb := by omega
  have n10 : wb ≠ bx := by omega
  have u1 : IntKind.u32.wrap (fr : Int) = fr := by rw [IntKind.wrap_u32]; omega
  have u2 : IntKind.u32.wrap ((fr : Int) + 1) = (fr : Int) + 1 := by rw [IntKind.wrap_u32]; omega
  unfold maxLen at hcm
  clear s0 s1 hH2 hM2 hl2 hF2 hp2 hc2 hy hp
  obtain ⟨s0, s1, hbx2⟩ := HXK.out w2 HF2.out
  go_wp2_with fail
  go_region_held3 (fun w' => w'.cell? ⟨hb, 0, none⟩ = some (.slice (some ⟨g, 0, none⟩) ps2.length cap) ∧ w'.cell? ⟨bx, 0, none⟩ = some (.int .u64 xk) ∧ w'.cell? ⟨bx, 1, none⟩ = some (.int .u32 (d : Int))) (go_keep) (fail)
  go_wp2_with fail
  go_region_held3 (fun w' => w'.cell? ⟨hb, 1, none⟩ = some (.slice (some ⟨wb, 0, none⟩) n n) ∧ w'.cell? ⟨bx, 1, none⟩ = some (.int .u32 (d : Int))) (go_keep) (fail)
  go_wp2
  go_end0
  refine ⟨rfl, _, _, HHP.out, ?_, by rw [List.length_set], HFR.out.trans ?_⟩
  · have := ((HM2.out.put fr (xk, (d : Int))).drew).mark d ((fr : Int) + 1)
    rw [List.length_set] at this
    exact this.drew
  · exact ((((HF2.out.put _).put _).drew).mark _).drew
end Go.Proofs.Ytepkogijignmlaa.Hp
