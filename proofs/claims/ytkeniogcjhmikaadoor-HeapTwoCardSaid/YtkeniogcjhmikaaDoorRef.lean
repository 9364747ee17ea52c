/- The reference's heap: keys by ids, and which are in; its least, its count. -/
import Derived.Test.YtkeniogcjhmikaaDoorAwake
import Derived.Test.YtkeniogcjhmikaaDoorFar
import Derived.Deep.DeepCutAuto
namespace Go.Proofs.YtkeniogcjhmikaaDoor
open Go.RowKit

attribute [local go_sem] Oper.semAt_some

/-- how many are in. -/
def cnt : List Bool → Nat
  | [] => 0
  | b :: r => (if b then 1 else 0) + cnt r
theorem cnt_le : ∀ bs : List Bool, cnt bs ≤ bs.length
  | [] => Nat.le_refl _
  | b :: r => by have := cnt_le r; unfold cnt; rw [List.length_cons]; split <;> omega
theorem cnt_add : ∀ (bs : List Bool) (d : Nat), bs[d]? = some false → cnt (bs.set d true) = cnt bs + 1
  | [], d, h => by simp at h
  | b :: r, 0, h => by simp at h; subst h; simp [cnt]; omega
  | b :: r, d + 1, h => by have := cnt_add r d (by simpa using h); rw [List.set_cons_succ]; unfold cnt; rw [this]; omega
theorem cnt_same : ∀ (bs : List Bool) (d : Nat), bs[d]? = some true → cnt (bs.set d true) = cnt bs
  | [], d, h => by simp at h
  | b :: r, 0, h => by simp at h; subst h; simp [cnt]
  | b :: r, d + 1, h => by have := cnt_same r d (by simpa using h); rw [List.set_cons_succ]; unfold cnt; rw [this]
theorem cnt_sub : ∀ (bs : List Bool) (d : Nat), bs[d]? = some true → cnt (bs.set d false) + 1 = cnt bs
  | [], d, h => by simp at h
  | b :: r, 0, h => by simp at h; subst h; simp [cnt]; omega
  | b :: r, d + 1, h => by have := cnt_sub r d (by simpa using h); rw [List.set_cons_succ]; unfold cnt; omega
theorem cnt_zero : ∀ (bs : List Bool) (d : Nat), cnt bs = 0 → bs[d]? ≠ some true
  | [], d, _ => by simp
  | b :: r, 0, h => by intro e; simp at e; subst e; simp [cnt] at h
  | b :: r, d + 1, h => by have := cnt_zero r d (by unfold cnt at h; omega); simpa using this
theorem cnt_pos : ∀ bs : List Bool, 0 < cnt bs → ∃ d : Nat, bs[d]? = some true
  | [], h => by simp [cnt] at h
  | true :: r, _ => ⟨0, rfl⟩
  | false :: r, h => by
    obtain ⟨d, hd⟩ := cnt_pos r (by simpa [cnt] using h)
    exact ⟨d + 1, by simpa using hd⟩
theorem cnt_none (n : Nat) : cnt (List.replicate n false) = 0 := by
  induction n with
  | zero => rfl
  | succ n ih => rw [List.replicate_succ]; unfold cnt; rw [ih]; rfl

theorem cnt_append : ∀ a b : List Bool, cnt (a ++ b) = cnt a + cnt b
  | [], b => by simp [cnt]
  | x :: r, b => by
    have h := cnt_append r b
    rw [List.cons_append]
    simp only [cnt]
    omega
/-- what the two lists say of the heap. -/
def Rel (n : Nat) (f : Int → Option Int) (ls : List Int) (bs : List Bool) : Prop := ∀ d : Nat, d < n → (bs[d]? = some true → ∃ k, ls[d]? = some k ∧ f d = some k) ∧ (bs[d]? = some false → f d = none)
theorem Rel.put {n : Nat} {f : Int → Option Int} {ls : List Int} {bs : List Bool} (h : Rel n f ls bs) (hl : ls.length = n) (hb : bs.length = n) {d : Nat} (hd : d < n) (k : Int) : Rel n (upd f d (some k)) (ls.set d k) (bs.set d true) := by
  intro e he
  by_cases hed : e = d
  · subst hed
    refine ⟨fun _ => ⟨k, set_same _ (by omega), upd_at _ _ _⟩, fun h' => ?_⟩
    rw [set_same _ (by omega)] at h'
    cases h'
  · rw [set_other _ hed, set_other _ hed, upd_off _ _ (by omega)]
    exact h e he
theorem Rel.out {n : Nat} {f : Int → Option Int} {ls : List Int} {bs : List Bool} (h : Rel n f ls bs) (hb : bs.length = n) {d : Nat} (hd : d < n) : Rel n (upd f d none) ls (bs.set d false) := by
  intro e he
  by_cases hed : e = d
  · subst hed
    refine ⟨fun h' => ?_, fun _ => upd_at _ _ _⟩
    rw [set_same _ (by omega)] at h'
    cases h'
  · rw [set_other _ hed, upd_off _ _ (by omega)]
    exact h e he
theorem Rel.new (n : Nat) (ls : List Int) : Rel n (fun _ => none) ls (List.replicate n false) := fun d hd => ⟨(fun h => by rw [List.getElem?_replicate, if_pos hd] at h; cases h), fun _ => rfl⟩

/-- the reference's two lists in memory. -/
structure RM (w : World) (kb ib n : Nat) (ls : List Int) (bs : List Bool) : Prop where
  krow : w.heap[kb]? = some (.cells (ls.map (Value.int .u64)).toArray 40)
  irow : w.heap[ib]? = some (.cells (bs.map Value.bool).toArray 4)
  ll : ls.length = n
  il : bs.length = n
  ne : kb ≠ ib
section
variable {w w' : World} {kb ib n : Nat} {ls : List Int} {bs : List Bool}
theorem RM.keep (h : RM w kb ib n ls bs) (h1 : w'.heap[kb]? = w.heap[kb]?) (h2 : w'.heap[ib]? = w.heap[ib]?) : RM w' kb ib n ls bs := ⟨h1.trans h.krow, h2.trans h.irow, h.ll, h.il, h.ne⟩
theorem RM.below (h : RM w kb ib n ls bs) (hb : Below w.heap.size w w') : RM w' kb ib n ls bs := h.keep (hb.block _ (lt_of_get h.krow)) (hb.block _ (lt_of_get h.irow))
theorem RM.putK (h : RM w kb ib n ls bs) (d : Nat) (k : Int) : RM (w.setCell ⟨kb, d, none⟩ (.int .u64 k)) kb ib n (ls.set d k) bs := by
  refine ⟨?_, (heap_setCell_other _ _ _ _ (Ne.symm h.ne)).trans h.irow, by rw [List.length_set]; exact h.ll, h.il, h.ne⟩
  rw [heap_setCell_same _ h.krow]
  congr 2
  rw [List.setIfInBounds_toArray, List.map_set]
theorem RM.putI (h : RM w kb ib n ls bs) (d : Nat) (b : Bool) : RM (w.setCell ⟨ib, d, none⟩ (.bool b)) kb ib n ls (bs.set d b) := by
  refine ⟨(heap_setCell_other _ _ _ _ h.ne).trans h.krow, ?_, h.ll, by rw [List.length_set]; exact h.il, h.ne⟩
  rw [heap_setCell_same _ h.irow]
  congr 2
  rw [List.setIfInBounds_toArray, List.map_set]
theorem RM.kcell (h : RM w kb ib n ls bs) {d : Nat} {k : Int} (hd : ls[d]? = some k) : w.cell? ⟨kb, d, none⟩ = some (.int .u64 k) ∧ w.frozen? ⟨kb, d, none⟩ = false := by
  refine ⟨(cells_at h.krow d).1.trans ?_, (cells_at h.krow d).2⟩
  simp [hd]
theorem RM.icell (h : RM w kb ib n ls bs) {d : Nat} {b : Bool} (hd : bs[d]? = some b) : w.cell? ⟨ib, d, none⟩ = some (.bool b) ∧ w.frozen? ⟨ib, d, none⟩ = false := by
  refine ⟨(cells_at h.irow d).1.trans ?_, (cells_at h.irow d).2⟩
  simp [hd]
end
/-- the reference's heap, as a value. -/
def refV (kb ib n : Nat) : Value := .agg #[.slice (some ⟨kb, 0, none⟩) n n, .slice (some ⟨ib, 0, none⟩) n n]

/-- the least so far. -/
def LeastTo (ls : List Int) (bs : List Bool) (k : Nat) (at_ : Int) : Prop := (at_ = -1 ∧ ∀ j, j < k → bs[j]? ≠ some true) ∨ ∃ (a : Nat) (x : Int), at_ = a ∧ a < k ∧ bs[a]? = some true ∧ ls[a]? = some x ∧ ∀ (j : Nat) (y : Int), j < k → bs[j]? = some true → ls[j]? = some y → ¬ ltT (y, (j : Int)) (x, (a : Int))

set_option maxRecDepth 100000 in
set_option maxHeartbeats 2000000 in
theorem least_ref {kb ib n : Nat} {ls : List Int} {bs : List Bool} {w : World} (h : RM w kb ib n ls bs) (hn : n ≤ 65536) :
    Calls Tryd.prog 24 #[.agg #[.slice (some ⟨kb, 0, none⟩) n n, .slice (some ⟨ib, 0, none⟩) n n]] w fun e w' => ∃ at_, e = .returned (.int .i64 at_) ∧ LeastTo ls bs n at_ ∧ Below w.heap.size w w' := by
  obtain ⟨W0, hW0⟩ : ∃ W0, w.alloc (.cells #[.slice (some ⟨kb, 0, none⟩) n n, .slice (some ⟨ib, 0, none⟩) n n] 32) = W0 := ⟨_, rfl⟩
  have hB0 : Below w.heap.size w W0 := by rw [← hW0]; exact (Below.refl _ w).alloc (Nat.le_refl _) _
  have k0 : W0.heap[w.heap.size]? = some (.cells #[.slice (some ⟨kb, 0, none⟩) n n, .slice (some ⟨ib, 0, none⟩) n n] 32) := by rw [← hW0]; exact heap_new _ _
  obtain ⟨bx, hbx⟩ : ∃ bx, w.heap.size = bx := ⟨_, rfl⟩
  have HW0 : Hid (w.alloc (.cells #[.slice (some ⟨kb, 0, none⟩) n n, .slice (some ⟨ib, 0, none⟩) n n] 32) = W0) := hW0
  have HBE : Hid (w.heap.size = bx) := hbx
  rw [hbx] at k0
  have HB0 : Hid (Below w.heap.size w W0) := hB0
  have HR : Hid (∀ wx, Below W0.heap.size W0 wx → RM wx kb ib n ls bs ∧ wx.cell? ⟨bx, 0, none⟩ = some (.slice (some ⟨kb, 0, none⟩) n n) ∧ wx.cell? ⟨bx, 1, none⟩ = some (.slice (some ⟨ib, 0, none⟩) n n)) := fun wx hb => by
    have hk := (hb.block _ (lt_of_get k0)).trans k0
    exact ⟨(h.below hB0).below hb, (pair_cells hk).1, (pair_cells hk).2⟩
  have hll := h.ll
  have hil := h.il
  obtain ⟨_, c0, c1⟩ := HR.out W0 (Below.refl _ _)
  clear h hW0 hB0 k0 hbx
  go_enter Tryd.func24, Tryd.ntmps24
  go_wp2_with fail
  rw [HW0.out, HBE.out]
  go_wp2_with fail
  go_loopw [3, 8] (fun av iv wr => ∃ (k : Nat) (a : Int), k ≤ n ∧ iv = .int .i64 k ∧ av = .int .i64 a ∧ LeastTo ls bs k a ∧ Below W0.heap.size W0 wr) (fun _ iv _ => n - (intOf iv).toNat)
  case atStart => exact ⟨0, -1, Nat.zero_le _, rfl, rfl, Or.inl ⟨rfl, fun j hj => by omega⟩, Below.refl _ _⟩
  case round =>
    obtain ⟨k, a, hk, rfl, rfl, hL, hb⟩ := hrel
    have HL : Hid (LeastTo ls bs k a) := hL
    have HB : Hid (Below W0.heap.size W0 wr) := hb
    obtain ⟨hR, d0, d1⟩ := HR.out wr hb
    clear hb c0 c1
    by_cases hlt : k < n
    · obtain ⟨b, hbk⟩ : ∃ b, bs[k]? = some b := ⟨bs[k]'(by omega), List.getElem?_eq_getElem _⟩
      obtain ⟨y, hyk⟩ : ∃ y, ls[k]? = some y := ⟨ls[k]'(by omega), List.getElem?_eq_getElem _⟩
      obtain ⟨e0, _⟩ := hR.icell hbk
      obtain ⟨e1, _⟩ := hR.kcell hyk
      have HBK : Hid (bs[k]? = some b ∧ ls[k]? = some y) := ⟨hbk, hyk⟩
      have b0 : (0 : Int) ≤ (k : Int) := by omega
      have b1 : (k : Int) < (n : Int) := by omega
      clear hbk hyk
      cases b with
      | false =>
        have HN : Hid (LeastTo ls bs (k + 1) a) := by
          rcases HL.out with ⟨h1, h2⟩ | ⟨p, x, h1, h2, h3, h4, h5⟩
          · refine Or.inl ⟨h1, fun j hj => ?_⟩
            by_cases e : j = k
            · subst e; rw [HBK.out.1]; simp
            · exact h2 j (by omega)
          · refine Or.inr ⟨p, x, h1, by omega, h3, h4, fun j z hj hjt hz => ?_⟩
            by_cases e : j = k
            · subst e; rw [HBK.out.1] at hjt; cases hjt
            · exact h5 j z (by omega) hjt hz
        clear hL hR
        go_wp2_with fail
        go_quiet (fail)
        go_wp2
        go_roundw
        case rel => exact ⟨k + 1, a, by omega, by go_num, rfl, HN.out, below_draws HB.out _⟩
        case measure => simp [intOf]; omega
      | true =>
        rcases hL with ⟨rfl, h2⟩ | ⟨p, x, rfl, h2, h3, h4, h5⟩
        · have HN : Hid (LeastTo ls bs (k + 1) (k : Int)) := Or.inr ⟨k, y, rfl, by omega, HBK.out.1, HBK.out.2, fun j z hj hjt hz => by
            by_cases e : j = k
            · subst e; rw [HBK.out.2] at hz; cases hz; exact ltT_irrefl _
            · exact absurd hjt (h2 j (by omega))⟩
          clear h2 hR
          go_wp2_with fail
          go_quiet (fail)
          go_wp2
          go_roundw
          case rel => exact ⟨k + 1, (k : Int), by omega, by go_num, rfl, HN.out, below_draws HB.out _⟩
          case measure => simp [intOf]; omega
        · obtain ⟨e2, _⟩ := hR.kcell h4
          have b2 : (0 : Int) ≤ (p : Int) := by omega
          have b3 : (p : Int) < (n : Int) := by omega
          have b4 : decide ((p : Int) < 0) = false := decide_eq_false (by omega)
          have b5 : ¬ (p : Int) < 0 := by omega
          have H5 : Hid (bs[p]? = some true ∧ ls[p]? = some x ∧ p < k ∧ ∀ (j : Nat) (z : Int), j < k → bs[j]? = some true → ls[j]? = some z → ¬ ltT (z, (j : Int)) (x, (p : Int))) := ⟨h3, h4, h2, h5⟩
          clear h2 h3 h4 h5 hR
          by_cases hyx : y < x
          · have HN : Hid (LeastTo ls bs (k + 1) (k : Int)) := Or.inr ⟨k, y, rfl, by omega, HBK.out.1, HBK.out.2, fun j z hj hjt hz => by
              by_cases e : j = k
              · subst e; rw [HBK.out.2] at hz; cases hz; exact ltT_irrefl _
              · have h1 := H5.out.2.2.2 j z (by omega) hjt hz
                unfold ltT at h1 ⊢
                simp only at h1 ⊢
                omega⟩
            go_wp2_with fail
            go_quiet (fail)
            go_wp2
            go_roundw
            case rel => exact ⟨k + 1, (k : Int), by omega, by go_num, rfl, HN.out, below_draws HB.out _⟩
            case measure => simp [intOf]; omega
          · have HN : Hid (LeastTo ls bs (k + 1) (p : Int)) := Or.inr ⟨p, x, rfl, by have := H5.out.2.2.1; omega, H5.out.1, H5.out.2.1, fun j z hj hjt hz => by
              by_cases e : j = k
              · subst e
                rw [HBK.out.2] at hz
                cases hz
                have := H5.out.2.2.1
                unfold ltT
                simp only
                omega
              · exact H5.out.2.2.2 j z (by omega) hjt hz⟩
            go_wp2_with fail
            go_quiet (fail)
            go_wp2
            go_roundw
            case rel => exact ⟨k + 1, (p : Int), by omega, by go_num, rfl, HN.out, below_draws HB.out _⟩
            case measure => simp [intOf]; omega
    · obtain rfl : k = n := by omega
      clear hL hR
      go_wp2
      go_ret
      exact ⟨a, rfl, HL.out, HB0.out.trans (HB.out.mono HB0.out.size)⟩

set_option maxRecDepth 100000 in
set_option maxHeartbeats 2000000 in
theorem count_ref {kb ib n : Nat} {ls : List Int} {bs : List Bool} {w : World} (h : RM w kb ib n ls bs) (hn : n ≤ 65536) :
    Calls Tryd.prog 25 #[.agg #[.slice (some ⟨kb, 0, none⟩) n n, .slice (some ⟨ib, 0, none⟩) n n]] w fun e w' => e = .returned (.int .i64 (cnt bs : Nat)) ∧ Below w.heap.size w w' := by
  obtain ⟨W0, hW0⟩ : ∃ W0, w.alloc (.cells #[.slice (some ⟨kb, 0, none⟩) n n, .slice (some ⟨ib, 0, none⟩) n n] 32) = W0 := ⟨_, rfl⟩
  have hB0 : Below w.heap.size w W0 := by rw [← hW0]; exact (Below.refl _ w).alloc (Nat.le_refl _) _
  have k0 : W0.heap[w.heap.size]? = some (.cells #[.slice (some ⟨kb, 0, none⟩) n n, .slice (some ⟨ib, 0, none⟩) n n] 32) := by rw [← hW0]; exact heap_new _ _
  obtain ⟨c0, c1⟩ := pair_cells k0
  have hl0 : w.heap.size < W0.heap.size := lt_of_get k0
  have HW0 : Hid (w.alloc (.cells #[.slice (some ⟨kb, 0, none⟩) n n, .slice (some ⟨ib, 0, none⟩) n n] 32) = W0) := hW0
  have HB0 : Hid (Below w.heap.size w W0) := hB0
  have HR : Hid (RM W0 kb ib n ls bs) := h.below hB0
  have hil := h.il
  have hcl := cnt_le bs
  clear h hW0 hB0 k0
  go_enter Tryd.func25, Tryd.ntmps25
  go_wp2_with fail
  rw [HW0.out]
  go_wp2_with fail
  go_loop [3, 9] (fun cv iv => ∃ k : Nat, k ≤ n ∧ iv = .int .i64 k ∧ cv = .int .i64 (cnt (bs.take k) : Nat)) (fun _ iv => n - (intOf iv).toNat)
  case atStart => exact ⟨0, Nat.zero_le _, rfl, rfl⟩
  case round =>
    obtain ⟨k, hk, rfl, rfl⟩ := hrel
    by_cases hlt : k < n
    · obtain ⟨b, hbk⟩ : ∃ b, bs[k]? = some b := ⟨bs[k]'(by omega), List.getElem?_eq_getElem _⟩
      obtain ⟨e0, _⟩ := HR.out.icell hbk
      have HT : Hid (cnt (bs.take (k + 1)) = cnt (bs.take k) + if b then 1 else 0) := by
        show _ = _
        obtain ⟨hl, he⟩ := List.getElem?_eq_some_iff.1 hbk
        rw [List.take_succ_eq_append_getElem hl, he, cnt_append]
        simp [cnt]
      have hcl2 := cnt_le (bs.take k)
      have hlen : (bs.take k).length ≤ k := List.length_take_le _ _
      have b0 : (0 : Int) ≤ (k : Int) := by omega
      have b1 : (k : Int) < (n : Int) := by omega
      have b2 : (cnt (bs.take k) : Int) ≤ 65536 := by omega
      clear hbk
      cases b with
      | false =>
        go_wp2
        go_round
        case rel => exact ⟨k + 1, by omega, by go_num, by rw [HT.out]; go_num⟩
        case measure => simp [intOf]; omega
      | true =>
        go_wp2
        go_round
        case rel => exact ⟨k + 1, by omega, by go_num, by rw [HT.out]; go_num⟩
        case measure => simp [intOf]; omega
    · obtain rfl : k = n := by omega
      have HE : Hid (bs.take k = bs) := by show _ = _; rw [← hil, List.take_length]
      rw [HE.out]
      go_wp2
      go_ret
      exact ⟨rfl, HB0.out⟩
end Go.Proofs.YtkeniogcjhmikaaDoor
