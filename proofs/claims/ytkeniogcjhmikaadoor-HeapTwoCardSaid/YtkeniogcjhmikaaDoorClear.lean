/- Clear: nothing is in. -/
import Derived.Test.YtkeniogcjhmikaaDoorFar
namespace Go.Proofs.YtkeniogcjhmikaaDoor
open Go.RowKit

attribute [local go_sem] Oper.semAt_some

/-- 'places[:0]'. -/
theorem slice_zero (w : World) (so : Option Addr) (hso : so = none ∨ ∃ g, so = some ⟨g, 0, none⟩) (m cap : Nat) : (Instr.slice 60 (.slice so m cap) none (some (.int .i64 0)) none).run Tryd.prog w = .ok (.slice so 0 cap) w := by
  rw [run_slice_h (ht := Tryd.elem60) (h0 := by omega) (h2 := by omega), Tryd.size60]
  rcases hso with rfl | ⟨g, rfl⟩
  · simp [Result.andThen_ok, sliced]
  · simp only [Result.andThen_ok, sliced]
    split <;> simp [Addr.add]

/-- what is still to be wiped. -/
def Wiped (ps : List Th) (n k : Nat) (wh : List Int) : Prop := ∀ d, d < n → wh[d]? = some 0 ∨ ∃ (i : Nat) (y : Th), k ≤ i ∧ ps[i]? = some y ∧ y.2 = (d : Int)

set_option maxRecDepth 100000 in
set_option maxHeartbeats 2000000 in
theorem clear_calls {w : World} {hb wb n : Nat} {sv : Value} {f : Int → Option Int} (h : IsHeap w hb wb n sv f) : Calls Tryd.prog 13 #[.pointer (some ⟨hb, 0, none⟩)] w fun e w' => e = .returned (.tuple #[]) ∧ ∃ sv', IsHeap w' hb wb n sv' (fun _ => none) ∧ Fr hb wb sv sv' w w' := by
  obtain ⟨ps, wh, hM, hH⟩ := h
  have hbig := hM.big
  have hfew := hH.few
  have hlen := hM.len
  obtain ⟨so, sc, hsv, hsl, hsm⟩ := hM.shape
  have hso : so = none ∨ ∃ g, so = some ⟨g, 0, none⟩ := by
    rcases hM.row.2 with ⟨e, _⟩ | ⟨g, cap, cur, e, _⟩
    · rw [hsv] at e; injection e with e1; exact Or.inl e1
    · rw [hsv] at e; cases e; exact Or.inr ⟨g, rfl⟩
  have HW0 : Hid (Wiped ps n 0 wh) := fun d hd => by
    rcases hH.back d (by omega) with ⟨h0, _⟩ | ⟨i, y, _, hy, e, _⟩
    · exact Or.inl h0
    · exact Or.inr ⟨i, y, Nat.zero_le _, hy, e⟩
  have HID : Hid (∀ (i : Nat) (y : Th), ps[i]? = some y → 0 ≤ y.2 ∧ y.2 < n) := fun i y hy => by
    obtain ⟨a, b, _⟩ := hH.idr i y hy
    exact ⟨a, by omega⟩
  subst hsv
  have HM0 : Hid (Mem w hb wb n (.slice so ps.length sc) ps wh ∧ Fr hb wb (.slice so ps.length sc) (.slice so ps.length sc) w w) := ⟨hM, Fr.refl _ _ _ _⟩
  obtain ⟨c0, c1, _, _⟩ := hM.cells
  have hsl0 := fun wx => slice_zero wx so hso ps.length sc
  have HSO : Hid (so = none ∨ ∃ g, so = some ⟨g, 0, none⟩) := hso
  have hlm : ps.length ≤ 65536 := by omega
  have n1 : hb ≠ wb := hM.hw
  have n2 : wb ≠ hb := Ne.symm n1
  unfold maxLen at hsm
  clear hM hH hso
  go_enter Tryd.func13, Tryd.ntmps13
  go_wp2_with fail
  go_loopw [11] (fun iv wr => ∃ (k : Nat) (wh' : List Int), k ≤ ps.length ∧ iv = .int .i64 k ∧ Wiped ps n k wh' ∧ Mem wr hb wb n (.slice so ps.length sc) ps wh' ∧ Fr hb wb (.slice so ps.length sc) (.slice so ps.length sc) w wr) (fun iv _ => ps.length - (intOf iv).toNat)
  case atStart => exact ⟨0, wh, Nat.zero_le _, rfl, HW0.out, HM0.out⟩
  case round =>
    obtain ⟨k, wh', hk, rfl, hW, hM, hF⟩ := hrel
    have HM : Hid (Mem wr hb wb n (.slice so ps.length sc) ps wh') := hM
    have HF : Hid (Fr hb wb (.slice so ps.length sc) (.slice so ps.length sc) w wr) := hF
    have HW : Hid (Wiped ps n k wh') := hW
    have hlh : hb < wr.heap.size := lt_of_get hM.box
    have hlw : wb < wr.heap.size := lt_of_get hM.whr
    obtain ⟨d0, d1, z0, z1⟩ := hM.cells
    clear c0 c1 hW hF
    by_cases hlt : k < ps.length
    · obtain ⟨y, hy⟩ : ∃ y, ps[k]? = some y := ⟨ps[k], List.getElem?_eq_getElem hlt⟩
      obtain ⟨y0, y1⟩ := HID.out k y hy
      obtain ⟨yk, yi⟩ := y
      obtain ⟨d, hd⟩ : ∃ d : Nat, yi = d := ⟨yi.toNat, by simp only at y0; omega⟩
      subst hd
      obtain ⟨g, cap, e, _, _, hgl, hgh, hgw, q0, q1, _, _⟩ := hM.thing hy
      cases e
      have hdn : d < n := by simp only at y1; omega
      obtain ⟨p, hp⟩ : ∃ p, wh'[d]? = some p := ⟨wh'[d]'(by have := hM.len; omega), List.getElem?_eq_getElem _⟩
      obtain ⟨r0, r1⟩ := hM.where_ hp
      have HY : Hid (ps[k]? = some (yk, (d : Int))) := hy
      have HWL : Hid (wh'.length = n) := hM.len
      have b0 : (0 : Int) ≤ (k : Int) := by omega
      have b1 : (k : Int) < (ps.length : Int) := by omega
      have b2 : (0 : Int) ≤ (d : Int) := by omega
      have b3 : (d : Int) < (n : Int) := by omega
      obtain ⟨bx, hbx⟩ : ∃ bx, wr.heap.size = bx := ⟨_, rfl⟩
      obtain ⟨W5, hW5⟩ : ∃ W5, wr.alloc (.cells #[.int .u64 yk, .int .u32 (d : Int)] 75) = W5 := ⟨_, rfl⟩
      have hB5 : Below wr.heap.size wr W5 := by rw [← hW5]; exact (Below.refl _ _).alloc (Nat.le_refl _) _
      have hM5 := hM.below hB5
      have HM5 : Hid (Mem W5 hb wb n (.slice (some ⟨g, 0, none⟩) ps.length sc) ps wh') := hM5
      have HF5 : Hid (Fr hb wb (.slice (some ⟨g, 0, none⟩) ps.length sc) (.slice (some ⟨g, 0, none⟩) ps.length sc) w W5) := HF.out.trans (Fr.of_below hB5)
      have hx5 : W5.heap[bx]? = some (.cells #[.int .u64 yk, .int .u32 (d : Int)] 75) := by rw [← hW5, ← hbx]; exact heap_new _ _
      obtain ⟨x0, x1⟩ := pair_cells hx5
      obtain ⟨s0, s1, _, _⟩ := hM5.cells
      obtain ⟨t0, t1⟩ := hM5.where_ hp
      have n3 : wb ≠ bx := by omega
      have n4 : bx ≠ wb := by omega
      have HW5 : Hid (wr.alloc (.cells #[.int .u64 yk, .int .u32 (d : Int)] 75) = W5) := hW5
      have HBX : Hid (wr.heap.size = bx) := hbx
      clear hM hy hp y0 y1 hM5 hx5 hB5 hW5 hbx
      go_upto_region 4 with fail
      rw [HW5.out, HBX.out]
      go_region_held3 (fun w' => w'.cell? ⟨hb, 1, none⟩ = some (.slice (some ⟨wb, 0, none⟩) n n) ∧ w'.cell? ⟨bx, 1, none⟩ = some (.int .u32 (d : Int))) (go_keep) (first | fail)
      go_wp2
      go_roundw
      case rel =>
        refine ⟨k + 1, wh'.set d 0, by omega, by go_num, fun e he => ?_, ?_, ?_⟩
        · by_cases hed : e = d
          · subst hed; exact Or.inl (set_same _ (by rw [HWL.out]; exact he))
          · rcases HW.out e he with h | ⟨i, y, h1, h2, h3⟩
            · exact Or.inl (by rw [set_other _ hed]; exact h)
            · refine Or.inr ⟨i, y, ?_, h2, h3⟩
              rcases Nat.lt_or_ge k i with h | h
              · exact h
              · have e1 : i = k := by omega
                subst e1
                rw [HY.out] at h2
                cases h2
                simp only at h3
                omega
        · exact (HM5.out.mark d 0).drew
        · exact (HF5.out.mark _).drew
      case measure => simp [intOf]; omega
    · obtain rfl : k = ps.length := by omega
      have HZ : Hid (wh' = List.replicate n 0) := by
        show _ = _
        apply List.ext_getElem?
        intro d
        rw [List.getElem?_replicate]
        split
        · rename_i hd
          rcases HW.out d hd with h | ⟨i, y, h1, h2, _⟩
          · exact h
          · have := (List.getElem?_eq_some_iff.1 h2).1
            omega
        · rw [List.getElem?_eq_none (by rw [hM.len]; omega)]
      have HR : Hid (wr.ownsRow 0 75 2 (.slice so 0 sc) 0 []) := by
        rcases hM.row with ⟨_, ⟨e, _⟩ | ⟨g, cap, cur, e, h1, h2, h3, h4, h5, _⟩⟩
        · injection e with e1 e2 e3
          rw [e1, e3]
          exact World.ownsRow_nil _ _ _ _
        · cases e
          exact ⟨rfl, Or.inr ⟨g, sc, cur, rfl, h1, h2, Nat.zero_le _, h4, h5, by simp⟩⟩
      have HP : Hid ((Value.slice so 0 sc).ownBlock ≠ some hb ∧ (Value.slice so 0 sc).ownBlock ≠ some wb) := by
        have e1 : (Value.slice so 0 sc).ownBlock = (Value.slice so ps.length sc).ownBlock := by cases so <;> rfl
        rw [e1]
        exact ⟨hM.hp, hM.wp⟩
      clear hM
      go_wp2
      refine bodyPost_end (v := .tuple #[]) (by simp [results, Tryd.results13]) rfl ⟨rfl, .slice so 0 sc, ⟨[], wh', ?_, ?_⟩, ?_⟩
      · exact HM.out.field (ps' := []) HR.out HP.out.1 HP.out.2
      · rw [HZ.out]; exact Heap.new n
      · refine ⟨HF.out.os, HF.out.tape, HF.out.output, by simpa using HF.out.size, fun j hj g1 g2 g3 => (heap_setCell_other _ _ _ _ g1).trans (HF.out.block j hj g1 g2 g3), fun j hj e => ?_⟩
        have e1 : (Value.slice so 0 sc).ownBlock = (Value.slice so ps.length sc).ownBlock := by cases so <;> rfl
        rw [e1] at e
        exact e
end Go.Proofs.YtkeniogcjhmikaaDoor
