/- Reset: nothing is held, wherever the ages are. -/
import Derived.Test.YtlgdhoemjllfdaaSet
import Derived.Laws.IdiomCopy
namespace Go.Proofs.Ytlgdhoemjllfdaa
open Go.RowKit

attribute [local go_sem] Oper.semAt_some

/-- many cells of one block, laid one behind the other. -/
theorem heap_setCells (b : Nat) (t : TypeId) : ∀ (l : List Value) (o : Nat) (w : World) (c : Array Value), w.heap[b]? = some (.cells c t) → ∃ c', (w.setCells b o l).heap[b]? = some (.cells c' t) ∧ c'.size = c.size ∧ ∀ j, j < c.size → c'[j]? = if o ≤ j ∧ j < o + l.length then l[j - o]? else c[j]?
  | [], o, w, c, h => ⟨c, h, rfl, fun j _ => by rw [if_neg (by simp)]⟩
  | v :: r, o, w, c, h => by
    obtain ⟨c', h1, h2, h3⟩ := heap_setCells b t r (o + 1) (w.setCell ⟨b, o, none⟩ v) _ (heap_setCell_same v h)
    refine ⟨c', h1, by simpa using h2, fun j hj => ?_⟩
    rw [h3 j (by simpa using hj)]
    by_cases h4 : o + 1 ≤ j ∧ j < o + 1 + r.length
    · rw [if_pos h4, if_pos (by rw [List.length_cons]; omega), show j - o = (j - (o + 1)) + 1 by omega, List.getElem?_cons_succ]
    · rw [if_neg h4]
      by_cases h5 : j = o
      · subst h5
        rw [if_pos (by rw [List.length_cons]; omega)]
        simp [hj]
      · rw [if_neg (by rw [List.length_cons]; omega), Array.getElem?_setIfInBounds_ne (by omega)]
theorem setCells_same (b : Nat) : ∀ (l : List Value) (o : Nat) (w : World), (w.setCells b o l).tape = w.tape ∧ w.heap.size ≤ (w.setCells b o l).heap.size
  | [], _, _ => ⟨rfl, Nat.le_refl _⟩
  | v :: r, o, w => by
    obtain ⟨h1, h2⟩ := setCells_same b r (o + 1) (w.setCell ⟨b, o, none⟩ v)
    exact ⟨h1.trans rfl, Nat.le_trans (by simp) h2⟩
theorem zeroCells_places (n : Nat) : Builtin.zeroCells #[.int .u64 0, .int .u32 0, .bool false] n = (flatP (List.replicate n (0, 0, false))).toArray := by
  rw [← made_places]
  rfl
theorem run_clear {w : World} {sb pb n held : Nat} {age : Int} {ps : List Pl} (h : Mem w sb pb n age held ps) (ty : TypeId) : ∃ W', (Builtin.clear_ #[56] ty #[.slice (some ⟨pb, 0, none⟩) n n]).run Try.prog w = .ok (.tuple #[]) W' ∧ Mem W' sb pb n age held (List.replicate n (0, 0, false)) ∧ Fr sb pb w W' := by
  have hl := h.len
  have hfl : (flatP ps).length = n * 3 := by rw [flatP_len, hl]
  have hz : (flatP (List.replicate n (0, 0, false))).length = n * 3 := by rw [flatP_len, List.length_replicate]
  rcases Nat.eq_zero_or_pos n with h0 | h0
  · subst h0
    have : ps = [] := List.eq_nil_of_length_eq_zero hl
    subst this
    exact ⟨w, by simp [Builtin.clear_, run_underlying Try.underlying56], h, Fr.refl _ _ _⟩
  · have hst := run_storeCells_cells (P := Try.prog) pb 0 (flatP (List.replicate n (0, 0, false))) 0 w (fun j hj => by
        rw [(cells_at h.row _).1]
        simp
        omega) (fun j hj => (cells_at h.row _).2) (fun v hv => by
        obtain ⟨p, hp, hv'⟩ := List.mem_flatMap.1 hv
        simp at hv'
        rcases hv' with rfl | rfl | rfl <;> rfl)
    simp only [Nat.add_zero] at hst
    obtain ⟨c', g1, g2, g3⟩ := heap_setCells pb 61 (flatP (List.replicate n (0, 0, false))) 0 w _ h.row
    refine ⟨w.setCells pb 0 (flatP (List.replicate n (0, 0, false))), ?_, ⟨?_, ?_, by simp, h.big, h.ne⟩, ?_⟩
    · obtain ⟨m, rfl⟩ : ∃ m, n = m + 1 := ⟨n - 1, by omega⟩
      have hc : (Value.agg #[.int .u64 0, .int .u32 0, .bool false]).cells = #[.int .u64 0, .int .u32 0, .bool false] := rfl
      simp [Builtin.clear_, run_underlying Try.underlying56, hc, zeroCells_places, hst]
    · rw [World.heap_setCells_other _ _ _ _ (lt_of_get h.box) h.ne]; exact h.box
    · rw [g1]
      congr 2
      apply Array.ext'
      apply List.ext_getElem?
      intro j
      rw [Array.getElem?_toList]
      by_cases hj : j < n * 3
      · rw [g3 j (by simpa [hfl] using hj), if_pos (by omega)]
        simp
      · rw [Array.getElem?_eq_none (by rw [g2]; simp [hfl]; omega), List.getElem?_eq_none (by simp [hz]; omega)]
    · refine ⟨World.os_setCells _ _ _ _, ?_, World.output_setCells _ _ _ _, ?_, fun k hk _ h2 => World.heap_setCells_other _ _ _ _ hk h2⟩
      · exact (setCells_same pb _ 0 w).1
      · exact (setCells_same pb _ 0 w).2
set_option maxHeartbeats 2000000 in
theorem reset_calls {w : World} {sb pb n : Nat} {vs : List (Option Int)} (h : IsStamp w sb pb n vs) : Calls Try.prog 9 #[.pointer (some ⟨sb, 0, none⟩)] w fun e w' => e = .returned (.tuple #[]) ∧ IsStamp w' sb pb n (List.replicate n none) ∧ Fr sb pb w w' := by
  obtain ⟨age, held, ps, hM, ha, hA, rfl, hh, hO⟩ := h
  have hl := hM.len
  obtain ⟨c0, c1, c2, f0, f1, f2⟩ := hM.cells
  have l0 : sb < w.heap.size := lt_of_get hM.box
  have hF := Fr.refl sb pb w
  by_cases hc : age < 4294967295
  · have hw : IntKind.u32.wrap (age + 1) = age + 1 := by rw [IntKind.wrap_u32]; omega
    have hne : (age + 1 == 0) = false := by simp; omega
    have HE : Hid (IsStamp ((w.setCell ⟨sb, 2, none⟩ (.int .i64 0)).setCell ⟨sb, 1, none⟩ (.int .u32 (age + 1))) sb pb n (List.replicate n none) ∧ Fr sb pb w ((w.setCell ⟨sb, 2, none⟩ (.int .i64 0)).setCell ⟨sb, 1, none⟩ (.int .u32 (age + 1)))) := by
      refine ⟨⟨age + 1, 0, ps, (hM.setHeld 0).setAge _, by omega, by omega, ?_, (cnt_none n).symm, fun p hp hs => by have := hO p hp hs; omega⟩, (hF.box _ _).box _ _⟩
      rw [← hl]
      symm
      rw [List.eq_replicate_iff]
      refine ⟨List.length_map _, fun b hb => ?_⟩
      obtain ⟨p, hp, rfl⟩ := List.mem_map.1 hb
      unfold seenP
      rw [if_neg]
      rintro ⟨h1, h2⟩
      have := hO p hp h1
      omega
    clear hM hO hh hl hF
    go_enter Try.func9, Try.ntmps9
    go_wp2
    exact bodyPost_end (v := .tuple #[]) (by simp [results, Try.results9]) rfl ⟨rfl, HE.out⟩
  · have hage : age = 4294967295 := by omega
    subst hage
    obtain ⟨W2, hW2⟩ : ∃ W2, (w.setCell ⟨sb, 2, none⟩ (.int .i64 0)).setCell ⟨sb, 1, none⟩ (.int .u32 0) = W2 := ⟨_, rfl⟩
    have hM2 : Mem W2 sb pb n 0 0 ps := by rw [← hW2]; exact (hM.setHeld 0).setAge _
    have hF2 : Fr sb pb w W2 := by rw [← hW2]; exact (hF.box _ _).box _ _
    obtain ⟨W3, h3, hM3, hF3⟩ := run_clear hM2 0
    have HE : Hid (IsStamp W3 sb pb n (List.replicate n none) ∧ Fr sb pb w W3) := by
      refine ⟨⟨0, 0, _, hM3, Int.le_refl _, by omega, ?_, (cnt_none n).symm, fun p hp hs => by rw [List.eq_of_mem_replicate hp] at hs; cases hs⟩, hF2.trans hF3⟩
      rw [List.map_replicate]
      rfl
    obtain ⟨d0, d1, d2, _, _, _⟩ := hM2.cells
    have HW2 : Hid ((w.setCell ⟨sb, 2, none⟩ (.int .i64 0)).setCell ⟨sb, 1, none⟩ (.int .u32 0) = W2) := hW2
    clear hM hO hh hl hF hM2 hF2 hM3 hF3 hW2
    go_enter Try.func9, Try.ntmps9
    go_wp2_with fail
    rw [HW2.out, h3]
    go_wp2
    exact bodyPost_end (v := .tuple #[]) (by simp [results, Try.results9]) rfl ⟨rfl, HE.out⟩
end Go.Proofs.Ytlgdhoemjllfdaa
