/- viaductref04.Of: the document's normal list, arc by arc. -/
import Derived.Test.YtbfopkhdngfanaaPut
import Derived.Test.YtbfopkhdngfanaaRefRev
namespace Go.Proofs.Ytbfopkhdngfanaa
open Go.RowKit Go.Extern Go.Sort Go.Shelf

attribute [local go_sem] Oper.semAt_some

theorem normA_snoc {xs : List (Int × Int × Int)} {k : Nat} {a : Int × Int × Int} (h : xs[k]? = some a) : normA (xs.take (k + 1)) = if a.1 == a.2.1 then normA (xs.take k) else putA (normA (xs.take k)) a := by
  unfold normA
  rw [kept_snoc h, List.foldl_append]
  split <;> rfl
theorem put_len : ∀ (l : List (Int × Int × Int)) (a : Int × Int × Int), 0 < (putA l a).length ∧ (putA l a).length ≤ l.length + 1
  | [], a => ⟨by simp [putA], by simp [putA]⟩
  | b :: r, a => by
    have ih := put_len r a
    unfold putA
    split
    · simp; omega
    · split <;> simp
theorem normA_take_len {xs : List (Int × Int × Int)} (k : Nat) : (normA (xs.take k)).length ≤ k := by
  have h := (normA_norm (xs.take k))
  have : (normA (xs.take k)).length ≤ (kept (xs.take k)).length := by
    unfold normA
    have gen : ∀ (r l : List (Int × Int × Int)), (r.foldl putA l).length ≤ l.length + r.length := by
      intro r
      induction r with
      | nil => intro l; simp
      | cons a r ih => intro l; simp only [List.foldl_cons, List.length_cons]; have := ih (putA l a); have := (put_len l a).2; omega
    simpa using gen (kept (xs.take k)) []
  exact Nat.le_trans this (Nat.le_trans (kept_le _) (by rw [List.length_take]; omega))
theorem rowC_base {w : World} {base base' n : Nat} {xs : List Value} {v : Value} (h : w.ownsRow base' 42 3 v n xs) (hb : base ≤ base') : w.ownsRow base 42 3 v n xs := by
  obtain ⟨h1, h2⟩ := h
  refine ⟨h1, ?_⟩
  rcases h2 with h2 | ⟨g, cap, cur, e, hg, r⟩
  · exact Or.inl h2
  · exact Or.inr ⟨g, cap, cur, e, Nat.le_trans hb hg, r⟩
theorem cut_of_row {w : World} {base n cap : Nat} {xs : List Value} {so : Option Addr} (h : w.ownsRow base 42 3 (.slice so n cap) n xs) (h0 : n = 0 → so = none ∧ cap = 0) : Cut so n cap := by
  rcases h.2 with ⟨e, hn⟩ | ⟨g, cap', cur, e, _, _, hle, _⟩
  · exact Or.inl ⟨(h0 hn).1, hn, (h0 hn).2⟩
  · cases e
    rcases Nat.eq_zero_or_pos n with hn | hn
    · exact absurd (h0 hn).1 (by simp)
    · exact Or.inr ⟨g, 0, rfl, hn, hle⟩
/-- what holds at each round. -/
structure ROI (w : World) (N : Int) (ao : Option Addr) (cap : Nat) (xs : List (Int × Int × Int)) (l : List (Int × Int × Int)) (so : Option Addr) (sc : Nat) (wr : World) : Prop where
  row : wr.ownsRow (w.heap.size + 3) 42 3 (.slice so l.length sc) l.length (flatC l)
  cut : Cut so l.length sc
  box : wr.heap[w.heap.size]? = some (.cells #[.int .i64 N, .slice ao xs.length cap] 24)
  res : wr.heap[w.heap.size + 1]? = some (.cells #[.int .i64 0, .slice none 0 0] 24)
  c : wr.heap[w.heap.size + 2]? = some (.cells #[.int .i64 N, .slice so l.length sc] 24)
  below : RowKit.Below w.heap.size w wr
theorem ROI.keep {w : World} {N : Int} {ao : Option Addr} {cap : Nat} {xs l : List (Int × Int × Int)} {so : Option Addr} {sc : Nat} {wr wn : World} (h : ROI w N ao cap xs l so sc wr) (hb : RowKit.Below wr.heap.size wr wn) : ROI w N ao cap xs l so sc wn :=
  ⟨rowC_keep h.row hb, h.cut, (hb.block _ (lt_of_get h.box)).trans h.box, (hb.block _ (lt_of_get h.res)).trans h.res, (hb.block _ (lt_of_get h.c)).trans h.c, h.below.trans (hb.mono h.below.size)⟩
theorem ROI.put {w : World} {N : Int} {ao : Option Addr} {cap : Nat} {xs l l' : List (Int × Int × Int)} {so so' : Option Addr} {sc sc' base : Nat} {wr : World} (h : ROI w N ao cap xs l so sc wr) (hr : wr.ownsRow base 42 3 (.slice so' l'.length sc') l'.length (flatC l')) (hbase : w.heap.size + 3 ≤ base) (hl : 0 < l'.length) : ROI w N ao cap xs l' so' sc' (wr.setCell ⟨w.heap.size + 2, 1, none⟩ (.slice so' l'.length sc')) := by
  refine ⟨rowC_far (rowC_base hr hbase) (fun g hg _ => heap_setCell_other _ _ _ _ (by show g ≠ w.heap.size + 2; omega)), cut_of_row hr (fun e => by omega), ?_, ?_, ?_, h.below.setCell (p := ⟨w.heap.size + 2, 1, none⟩) (by show w.heap.size ≤ w.heap.size + 2; omega) _⟩
  · rw [heap_setCell_other _ _ _ _ (by show w.heap.size ≠ w.heap.size + 2; omega)]; exact h.box
  · rw [heap_setCell_other _ _ _ _ (by show w.heap.size + 1 ≠ w.heap.size + 2; omega)]; exact h.res
  · simp only [World.setCell, Array.getElem?_modify]
    rw [if_pos True.intro, h.c]
    rfl

set_option maxRecDepth 100000 in
set_option maxHeartbeats 1000000 in
theorem refOf_calls (N : Int) (ao : Option Addr) (cap : Nat) (xs : List (Int × Int × Int)) (w : World) (hl : HasArcs w (.slice ao xs.length cap) xs) (hm : xs.length ≤ 262144) :
    Calls Try.prog 31 #[.agg #[.int .i64 N, .slice ao xs.length cap]] w fun e w' => ∃ lo lc, e = .returned (.agg #[.int .i64 N, .slice lo (normA xs).length lc]) ∧ HasArcs w' (.slice lo (normA xs).length lc) (normA xs) ∧ NewA w.heap.size (.slice lo (normA xs).length lc) ∧ RowKit.Below w.heap.size w w' := by
  obtain ⟨W0, hW0⟩ : ∃ W0, ((w.alloc (.cells #[.int .i64 N, .slice ao xs.length cap] 24)).alloc (.cells #[.int .i64 0, .slice none 0 0] 24)).alloc (.cells #[.int .i64 N, .slice none 0 0] 24) = W0 := ⟨_, rfl⟩
  have hB0 : RowKit.Below w.heap.size w W0 := by rw [← hW0]; exact (((RowKit.Below.refl _ w).alloc (Nat.le_refl _) _).alloc (by simp) _).alloc (by simp; omega) _
  have k0 : W0.heap[w.heap.size]? = some (.cells #[.int .i64 N, .slice ao xs.length cap] 24) := by rw [← hW0, RowKit.Below.heap_alloc _ _ _ (by simp; omega), RowKit.Below.heap_alloc _ _ _ (by simp)]; exact heap_new _ _
  have k1 : W0.heap[w.heap.size + 1]? = some (.cells #[.int .i64 0, .slice none 0 0] 24) := by
    rw [← hW0, RowKit.Below.heap_alloc _ _ _ (by simp)]
    have h := heap_new (w.alloc (.cells #[.int .i64 N, .slice ao xs.length cap] 24)) (.cells #[.int .i64 0, .slice none 0 0] 24)
    simpa using h
  have k2 : W0.heap[w.heap.size + 2]? = some (.cells #[.int .i64 N, .slice none 0 0] 24) := by
    have h := heap_new ((w.alloc (.cells #[.int .i64 N, .slice ao xs.length cap] 24)).alloc (.cells #[.int .i64 0, .slice none 0 0] 24)) (.cells #[.int .i64 N, .slice none 0 0] 24)
    rw [hW0] at h
    simpa using h
  have HW0 : Hid (((w.alloc (.cells #[.int .i64 N, .slice ao xs.length cap] 24)).alloc (.cells #[.int .i64 0, .slice none 0 0] 24)).alloc (.cells #[.int .i64 N, .slice none 0 0] 24) = W0) := hW0
  have HI0 : Hid (ROI w N ao cap xs [] none 0 W0) := ⟨World.ownsRow_nil _ _ _ _, Or.inl ⟨rfl, rfl, rfl⟩, k0, k1, k2, hB0⟩
  have HL : Hid (HasArcs w (.slice ao xs.length cap) xs) := hl
  clear hl k0 k1 k2 hB0 hW0
  go_enter Try.func31, Try.ntmps31
  go_wp2_with fail
  rw [HW0.out]
  go_loopw [12] (fun iv wr => ∃ (k : Nat) (so : Option Addr) (sc : Nat), k ≤ xs.length ∧ iv = .int .i64 k ∧ ROI w N ao cap xs (normA (xs.take k)) so sc wr) (fun iv _ => xs.length - (intOf iv).toNat)
  case atStart => exact ⟨0, none, 0, Nat.zero_le _, rfl, HI0.out⟩
  case round =>
    obtain ⟨k, so, sc, hk, rfl, hinv⟩ := hrel
    have HI : Hid (ROI w N ao cap xs (normA (xs.take k)) so sc wr) := hinv
    have hcx := hinv.c
    have hrx := hinv.res
    have hlc : w.heap.size + 1 + 1 < wr.heap.size := lt_of_get hcx
    have b0 : (0 : Int) ≤ k := by omega
    clear hinv
    by_cases hlt : k < xs.length
    · obtain ⟨a, ha⟩ : ∃ a, xs[k]? = some a := ⟨xs[k], List.getElem?_eq_getElem hlt⟩
      obtain ⟨b, off, hao, hbl, q0, q1, q2⟩ := HL.out.at ha
      subst hao
      have e0 := (HI.out.below.cell (p := ⟨b, off + k * 3, none⟩) hbl).trans q0
      have e1 := (HI.out.below.cell (p := ⟨b, off + k * 3 + 1, none⟩) hbl).trans q1
      have e2 := (HI.out.below.cell (p := ⟨b, off + k * 3 + 2, none⟩) hbl).trans q2
      have HSN : Hid (normA (xs.take (k + 1)) = if a.1 == a.2.1 then normA (xs.take k) else putA (normA (xs.take k)) a) := normA_snoc ha
      have HLN : Hid ((normA (xs.take k)).length ≤ k) := normA_take_len k
      have b1 : (k : Int) < (xs.length : Int) := by omega
      clear q0 q1 q2 ha
      obtain ⟨a0, a1, a2⟩ := a
      simp only at e0 e1 e2 HSN
      generalize normA (xs.take k) = l at *
      obtain ⟨W1, hW1⟩ : ∃ W1, wr.alloc (.cells #[.int .i64 a0, .int .i64 a1, .int .i64 a2] 42) = W1 := ⟨_, rfl⟩
      have HI1 : Hid (ROI w N (some ⟨b, off, none⟩) cap xs l so sc W1) := by rw [← hW1]; exact HI.out.keep ((RowKit.Below.refl _ _).alloc (Nat.le_refl _) _)
      have HW1 : Hid (wr.alloc (.cells #[.int .i64 a0, .int .i64 a1, .int .i64 a2] 42) = W1) := hW1
      obtain ⟨d0, d1, _, _⟩ : wr.cell? ⟨w.heap.size + 1 + 1, 0, none⟩ = some (.int .i64 N) ∧ wr.cell? ⟨w.heap.size + 1 + 1, 1, none⟩ = some (.slice so l.length sc) ∧ wr.frozen? ⟨w.heap.size + 1 + 1, 0, none⟩ = false ∧ wr.frozen? ⟨w.heap.size + 1 + 1, 1, none⟩ = false := cell_two hcx
      by_cases hab : a0 = a1
      · have HE : Hid (normA (xs.take (k + 1)) = l) := by have h := HSN.out; rw [if_pos (by simpa using hab)] at h; exact h
        clear HSN hcx hrx hW1
        subst hab
        go_wp2
        rw [HW1.out]
        go_roundw
        case rel => exact ⟨k + 1, so, sc, by omega, by go_num, by rw [HE.out]; exact HI1.out⟩
        case measure => simp [intOf]; omega
      · have HE : Hid (normA (xs.take (k + 1)) = putA l (a0, a1, a2)) := by have h := HSN.out; rw [if_neg (by simpa using hab)] at h; exact h
        have HPU : Hid (type_of% (put_calls (a0, a1, a2) so sc l W1 (arcs_of_rowC HI1.out.row) HI1.out.cut (by have := HLN.out; omega))) := put_calls (a0, a1, a2) so sc l W1 (arcs_of_rowC HI1.out.row) HI1.out.cut (by have := HLN.out; omega)
        unfold arcV at HPU
        simp only at HPU
        clear HSN hcx hrx hW1
        go_wp2_with fail
        rw [HW1.out]
        refine HPU.out.mono ?_
        rintro e w5 ⟨v, rfl, hown5, hb5⟩
        obtain ⟨so', sc', hv⟩ := rowC_slice hown5
        subst hv
        have HI5 : Hid (ROI w N (some ⟨b, off, none⟩) cap xs l so sc w5) := HI1.out.keep hb5
        have HI6 : Hid (ROI w N (some ⟨b, off, none⟩) cap xs (putA l (a0, a1, a2)) so' sc' (w5.setCell ⟨w.heap.size + 1 + 1, 1, none⟩ (.slice so' (putA l (a0, a1, a2)).length sc'))) := HI5.out.put hown5 (by have := lt_of_get HI1.out.c; omega) (put_len l _).1
        obtain ⟨f0, f1, f2, f3⟩ : w5.cell? ⟨w.heap.size + 1 + 1, 0, none⟩ = some (.int .i64 N) ∧ w5.cell? ⟨w.heap.size + 1 + 1, 1, none⟩ = some (.slice so l.length sc) ∧ w5.frozen? ⟨w.heap.size + 1 + 1, 0, none⟩ = false ∧ w5.frozen? ⟨w.heap.size + 1 + 1, 1, none⟩ = false := cell_two HI5.out.c
        clear hown5 hb5 d0 d1 e0 e1 e2
        go_wp2
        go_roundw
        case rel => exact ⟨k + 1, so', sc', by omega, by go_num, by rw [HE.out]; exact HI6.out⟩
        case measure => simp [intOf]; omega
    · obtain rfl : k = xs.length := by omega
      rw [List.take_length] at HI hcx
      obtain ⟨d0, d1, _, _⟩ : wr.cell? ⟨w.heap.size + 1 + 1, 0, none⟩ = some (.int .i64 N) ∧ wr.cell? ⟨w.heap.size + 1 + 1, 1, none⟩ = some (.slice so (normA xs).length sc) ∧ wr.frozen? ⟨w.heap.size + 1 + 1, 0, none⟩ = false ∧ wr.frozen? ⟨w.heap.size + 1 + 1, 1, none⟩ = false := cell_two hcx
      obtain ⟨b0', b1', y0, y1⟩ := cell_two hrx
      have HA : Hid (HasArcs wr (.slice so (normA xs).length sc) (normA xs)) := arcs_of_rowC HI.out.row
      have HNR : Hid (∀ a, so = some a → w.heap.size + 3 ≤ a.block) := fun a ha => by
        rcases HI.out.row.2 with ⟨h, _⟩ | ⟨g, cap', cur, h, hg, _⟩
        · injection h with h1; rw [h1] at ha; cases ha
        · injection h with h1; rw [h1] at ha; cases ha; exact hg
      clear hcx hrx
      go_wp2
      refine bodyPost_ret (v := .agg #[.int .i64 N, .slice so (normA xs).length sc]) (by simp [results, Try.results31, go_sem, b0', b1']) rfl ⟨so, sc, rfl, ?_, newA_of fun a ha => by have := HNR.out a ha; omega, ?_⟩
      · obtain ⟨ao', cap', e, hc⟩ := HA.out
        refine ⟨ao', cap', e, fun j a hj => ?_⟩
        obtain ⟨b', off', ea, hl', h0, h1, h2⟩ := hc j a hj
        injection e with e1
        have hb' := HNR.out ⟨b', off', none⟩ (e1.trans ea)
        refine ⟨b', off', ea, by simp; exact hl', ?_, ?_, ?_⟩
        · rw [World.cell?_setCell_other _ _ _ _ (by intro e; have := congrArg Addr.block e; simp at this hb'; omega), World.cell?_setCell_other _ _ _ _ (by intro e; have := congrArg Addr.block e; simp at this hb'; omega)]; exact h0
        · rw [World.cell?_setCell_other _ _ _ _ (by intro e; have := congrArg Addr.block e; simp at this hb'; omega), World.cell?_setCell_other _ _ _ _ (by intro e; have := congrArg Addr.block e; simp at this hb'; omega)]; exact h1
        · rw [World.cell?_setCell_other _ _ _ _ (by intro e; have := congrArg Addr.block e; simp at this hb'; omega), World.cell?_setCell_other _ _ _ _ (by intro e; have := congrArg Addr.block e; simp at this hb'; omega)]; exact h2
      · exact (HI.out.below.setCell (p := ⟨w.heap.size + 1, 0, none⟩) (by simp) _).setCell (p := ⟨w.heap.size + 1, 1, none⟩) (by simp) _
end Go.Proofs.Ytbfopkhdngfanaa
