/- viaductref03.Twin: a copy in a row of its own. -/
import Derived.Test.YthgmhhlgjooeaaaGreatDoorRev
import Derived.Test.YthgmhhlgjooeaaaGreatDoorDocCheck
namespace Go.Proofs.YthgmhhlgjooeaaaGreatDoor
open Go.RowKit Go.Extern Go.Sort Go.Shelf

attribute [local go_sem] Oper.semAt_some

theorem rowA_slice {w : World} {base n : Nat} {xs : List Value} {v : Value} (h : w.ownsRow base 50 3 v n xs) : ∃ ao cap, v = .slice ao n cap := by
  rcases h.2 with ⟨h, h'⟩ | ⟨g, cap, cur, h, _⟩
  · exact ⟨none, 0, by rw [h']; exact h⟩
  · exact ⟨_, cap, h⟩
theorem rowA_keep {w w' : World} {base n : Nat} {xs : List Value} {v : Value} (h : w.ownsRow base 50 3 v n xs) (hk : ∀ g, base ≤ g → g < w.heap.size → w'.heap[g]? = w.heap[g]?) : w'.ownsRow base 50 3 v n xs := by
  obtain ⟨h1, h2⟩ := h
  refine ⟨h1, ?_⟩
  rcases h2 with h2 | ⟨g, cap, cur, e, hb, hh, r⟩
  · exact Or.inl h2
  · exact Or.inr ⟨g, cap, cur, e, hb, (hk g hb (lt_of_get hh)).trans hh, r⟩
theorem arcs_of_row {w : World} {base : Nat} {v : Value} {l : List (Int × Int × Int)} (h : w.ownsRow base 50 3 v l.length (flatA l)) : HasArcs w v l := by
  rcases h.2 with ⟨e, h0⟩ | ⟨g, cap, cur, rfl, hg, hh, _⟩
  · have : l = [] := List.eq_nil_of_length_eq_zero h0
    subst this
    exact ⟨none, 0, e, fun j p hj => by simp at hj⟩
  · refine ⟨_, cap, rfl, fun j a hj => ⟨g, 0, rfl, lt_of_get hh, ?_⟩⟩
    have hlt := (List.getElem?_eq_some_iff.1 hj).1
    have c := fun c (hc : c < 3) => (h.cellAt (j * 3 + c) (by omega)).trans (flatA_get l j a hj c hc)
    rw [Nat.zero_add]
    exact ⟨c 0 (by omega), c 1 (by omega), c 2 (by omega)⟩
/-- what holds at each round. -/
structure TWI (w : World) (N : Int) (ao : Option Addr) (cap : Nat) (xs : List (Int × Int × Int)) (l : List (Int × Int × Int)) (sv : Value) (wr : World) : Prop where
  row : wr.ownsRow (w.heap.size + 3) 50 3 sv l.length (flatA l)
  box : wr.heap[w.heap.size]? = some (.cells #[.int .i64 N, .slice ao xs.length cap] 24)
  res : wr.heap[w.heap.size + 1]? = some (.cells #[.int .i64 0, .slice none 0 0] 24)
  c : wr.heap[w.heap.size + 2]? = some (.cells #[.int .i64 N, sv] 24)
  below : Below w.heap.size w wr
theorem TWI.keep {w : World} {N : Int} {ao : Option Addr} {cap : Nat} {xs l : List (Int × Int × Int)} {sv : Value} {wr wn : World} (h : TWI w N ao cap xs l sv wr) (hb : Below wr.heap.size wr wn) : TWI w N ao cap xs l sv wn :=
  ⟨rowA_keep h.row (fun g _ hg => hb.block g hg), (hb.block _ (lt_of_get h.box)).trans h.box, (hb.block _ (lt_of_get h.res)).trans h.res, (hb.block _ (lt_of_get h.c)).trans h.c, h.below.trans (hb.mono h.below.size)⟩

set_option maxRecDepth 100000 in
set_option maxHeartbeats 4000000 in
theorem refTwin_calls (N : Int) (ao : Option Addr) (cap : Nat) (xs : List (Int × Int × Int)) (w : World) (hl : HasArcs w (.slice ao xs.length cap) xs) (hm : xs.length ≤ 262144) :
    Calls Tryz.prog 13 #[.agg #[.int .i64 N, .slice ao xs.length cap]] w fun e w' => ∃ lo lc, e = .returned (.agg #[.int .i64 N, .slice lo xs.length lc]) ∧ w'.ownsRow w.heap.size 50 3 (.slice lo xs.length lc) xs.length (flatA xs) ∧ Below w.heap.size w w' := by
  obtain ⟨i0, hi, hz0, hz1, hz2⟩ : ∃ i, Tryz.prog.info? 50 = some i ∧ i.zero = some (.agg #[.int .i64 0, .int .i64 0, .int .i64 0]) ∧ i.size = 3 ∧ i.bytes = 24 := by
    have h := Tryz.info51
    cases hi : Tryz.prog.info? 50 with
    | none => rw [hi] at h; cases h
    | some i => rw [hi] at h; simp at h; exact ⟨i, rfl, h.1, h.2.1, h.2.2⟩
  obtain ⟨W0, hW0⟩ : ∃ W0, ((w.alloc (.cells #[.int .i64 N, .slice ao xs.length cap] 24)).alloc (.cells #[.int .i64 0, .slice none 0 0] 24)).alloc (.cells #[.int .i64 N, .slice none 0 0] 24) = W0 := ⟨_, rfl⟩
  have hB0 : Below w.heap.size w W0 := by rw [← hW0]; exact (((Below.refl _ w).alloc (Nat.le_refl _) _).alloc (by simp) _).alloc (by simp; omega) _
  have k0 : W0.heap[w.heap.size]? = some (.cells #[.int .i64 N, .slice ao xs.length cap] 24) := by rw [← hW0, Below.heap_alloc _ _ _ (by simp; omega), Below.heap_alloc _ _ _ (by simp)]; exact heap_new _ _
  have k1 : W0.heap[w.heap.size + 1]? = some (.cells #[.int .i64 0, .slice none 0 0] 24) := by
    rw [← hW0, Below.heap_alloc _ _ _ (by simp)]
    have h := heap_new (w.alloc (.cells #[.int .i64 N, .slice ao xs.length cap] 24)) (.cells #[.int .i64 0, .slice none 0 0] 24)
    simpa using h
  have k2 : W0.heap[w.heap.size + 2]? = some (.cells #[.int .i64 N, .slice none 0 0] 24) := by
    have h := heap_new ((w.alloc (.cells #[.int .i64 N, .slice ao xs.length cap] 24)).alloc (.cells #[.int .i64 0, .slice none 0 0] 24)) (.cells #[.int .i64 N, .slice none 0 0] 24)
    rw [hW0] at h
    simpa using h
  have HW0 : Hid (((w.alloc (.cells #[.int .i64 N, .slice ao xs.length cap] 24)).alloc (.cells #[.int .i64 0, .slice none 0 0] 24)).alloc (.cells #[.int .i64 N, .slice none 0 0] 24) = W0) := hW0
  have HI0 : Hid (TWI w N ao cap xs [] (.slice none 0 0) W0) := ⟨World.ownsRow_nil _ _ _ _, k0, k1, k2, hB0⟩
  have HL : Hid (HasArcs w (.slice ao xs.length cap) xs) := hl
  clear hl k0 k1 k2 hB0 hW0
  go_enter Tryz.func13, Tryz.ntmps13
  go_wp2_with fail
  rw [HW0.out]
  go_loopw [12] (fun iv wr => ∃ k : Nat, k ≤ xs.length ∧ iv = .int .i64 k ∧ ∃ sv, TWI w N ao cap xs (xs.take k) sv wr) (fun iv _ => xs.length - (intOf iv).toNat)
  case atStart => exact ⟨0, Nat.zero_le _, rfl, _, HI0.out⟩
  case round =>
    obtain ⟨k, hk, rfl, sv, hinv⟩ := hrel
    have HI : Hid (TWI w N ao cap xs (xs.take k) sv wr) := hinv
    obtain ⟨so, sc, hsv⟩ := rowA_slice hinv.row
    subst hsv
    clear hinv
    have hbx := HI.out.box
    have hcx := HI.out.c
    have hrx := HI.out.res
    have hlc : w.heap.size + 2 < wr.heap.size := lt_of_get hcx
    have hlb : w.heap.size < wr.heap.size := by omega
    obtain ⟨d0, d1, z0, z1⟩ := cell_two hcx
    by_cases hlt : k < xs.length
    · obtain ⟨a, ha⟩ : ∃ a, xs[k]? = some a := ⟨xs[k], List.getElem?_eq_getElem hlt⟩
      obtain ⟨b, off, hao, hbl, q0, q1, q2⟩ := HL.out.at ha
      subst hao
      have e0 := (HI.out.below.cell (p := ⟨b, off + k * 3, none⟩) hbl).trans q0
      have e1 := (HI.out.below.cell (p := ⟨b, off + k * 3 + 1, none⟩) hbl).trans q1
      have e2 := (HI.out.below.cell (p := ⟨b, off + k * 3 + 2, none⟩) hbl).trans q2
      have HTK : Hid (xs.take (k + 1) = xs.take k ++ [a]) := by
        show _ = _
        obtain ⟨hl, he⟩ := List.getElem?_eq_some_iff.1 ha
        rw [List.take_succ_eq_append_getElem hl, he]
      have HLN : Hid ((xs.take k).length = k) := by show _ = _; rw [List.length_take]; omega
      clear q0 q1 q2 ha hbx hrx hcx
      generalize xs.take k = L at *
      rw [HLN.out] at d1
      have HI4 : Hid (∀ X, TWI w N (some ⟨b, off, none⟩) cap xs L (.slice so L.length sc) ((wr.alloc (.cells #[.int .i64 a.1, .int .i64 a.2.1, .int .i64 a.2.2] 50)).alloc (.cells #[.int .i64 a.1, .int .i64 a.2.1, .int .i64 a.2.2] X))) := fun X => (HI.out.keep ((Below.refl _ _).alloc (Nat.le_refl _) _)).keep ((Below.refl _ _).alloc (Nat.le_refl _) _)
      have HNB : Hid (∀ j, j < w.heap.size + 3 → some j ≠ (Value.slice so k sc).ownBlock) := fun j hj e => by
        rcases HI.out.row.2 with ⟨h, _⟩ | ⟨g, cap', cur, h, hg, _⟩
        · injection h with h1; subst h1; cases e
        · injection h with h1; subst h1
          have : j = g := Option.some.inj e
          omega
      have HC4 : Hid (((wr.alloc (.cells #[.int .i64 a.1, .int .i64 a.2.1, .int .i64 a.2.2] 50)).alloc (.cells #[.int .i64 a.1, .int .i64 a.2.1, .int .i64 a.2.2] 50)).heap[w.heap.size + 1 + 1]? = some (.cells #[.int .i64 N, .slice so k sc] 24)) := by
        have h := (HI4.out 50).c
        rw [HLN.out] at h
        exact h
      go_wp2_with (at_builtin; refine wpList_append_own _ rfl _ _ 22 rfl (w.heap.size + 3) 50 i0 (.agg #[.int .i64 0, .int .i64 0, .int .i64 0]) 3 24 Tryz.underlying22 hi hz0 hz1 hz2 rfl (by decide) (.slice so k sc) k (flatA L) rfl ?hown ⟨wr.heap.size + 1, 0, none⟩ 1 1 [.int .i64 a.1, .int .i64 a.2.1, .int .i64 a.2.2] rfl rfl ?hnews ?hone ?h63 ?hby ?hbase ?_; (case hown => have h := (HI4.out 50).row; rw [HLN.out] at h; exact h); (case hnews => intro j x hx; rcases j with _ | _ | _ | j <;> simp at hx <;> subst hx <;> simp [Addr.add]); (case hone => intro x hx; simp at hx; rcases hx with rfl | rfl | rfl <;> rfl); (case h63 => unfold maxLen; omega); (case hby => omega); (case hbase => simp; omega); intro v' w5 hown5 hgrow5 hnil5; obtain ⟨vo, vc, hv'⟩ := rowA_slice hown5; subst hv'; have hC5 : w5.heap[w.heap.size + 1 + 1]? = some (.cells #[.int .i64 N, .slice so k sc] 24) := (hgrow5.block _ (lt_of_get HC4.out) (HNB.out _ (by omega))).trans HC4.out; have g1 : w5.cell? ⟨w.heap.size + 1 + 1, 1, none⟩ = some (.slice so k sc) := (by simp [World.cell?, hC5]); have g2 : w5.frozen? ⟨w.heap.size + 1 + 1, 1, none⟩ = false := (by simp [World.frozen?, hC5]))
      have HI5 := HI4.out 50
      have hbk : ∀ j, j < w.heap.size + 3 → w5.heap[j]? = ((wr.alloc (.cells #[.int .i64 a.1, .int .i64 a.2.1, .int .i64 a.2.2] 50)).alloc (.cells #[.int .i64 a.1, .int .i64 a.2.1, .int .i64 a.2.2] 50)).heap[j]? := fun j hj => hgrow5.block j (by simp; omega) (HNB.out j hj)
      refine ⟨⟨k + 1, by omega, by go_num, .slice vo (k + 1) vc, ?_, ?_, ?_, ?_, ?_⟩, by simp [intOf]; omega⟩
      · rw [HTK.out, flatA_append, List.length_append, HLN.out]
        exact rowA_keep hown5 (fun g hg _ => heap_setCell_other _ _ _ _ (by show g ≠ w.heap.size + 1 + 1; omega))
      · rw [heap_setCell_other _ _ _ _ (by show w.heap.size ≠ w.heap.size + 1 + 1; omega)]
        exact (hbk _ (by omega)).trans HI5.box
      · rw [heap_setCell_other _ _ _ _ (by show w.heap.size + 1 ≠ w.heap.size + 1 + 1; omega)]
        exact (hbk _ (by omega)).trans HI5.res
      · show (w5.setCell ⟨w.heap.size + 1 + 1, 1, none⟩ (.slice vo (k + 1) vc)).heap[w.heap.size + 1 + 1]? = _
        simp only [World.setCell, Array.getElem?_modify]
        rw [if_pos True.intro, hC5]
        rfl
      · exact (HI5.below.trans ⟨hgrow5.os, hgrow5.tape, hgrow5.output, hgrow5.size, fun j hj => hbk j (by omega)⟩).setCell (p := ⟨w.heap.size + 1 + 1, 1, none⟩) (by show w.heap.size ≤ w.heap.size + 1 + 1; omega) _
    · obtain rfl : k = xs.length := by omega
      have HTA : Hid (xs.take xs.length = xs) := by show _ = _; rw [List.take_length]
      have hln : (xs.take xs.length).length = xs.length := by rw [HTA.out]
      rw [hln] at d1
      obtain ⟨b0, b1, y0, y1⟩ := cell_two hrx
      have HA : Hid (wr.ownsRow (w.heap.size + 3) 50 3 (.slice so xs.length sc) xs.length (flatA xs)) := by
        have h := HI.out.row
        rw [hln, HTA.out] at h
        exact h
      have HNR : Hid (∀ a, so = some a → w.heap.size + 3 ≤ a.block) := fun a ha => by
        rcases HI.out.row.2 with ⟨h, _⟩ | ⟨g, cap', cur, h, hg, _⟩
        · injection h with h1; rw [h1] at ha; cases ha
        · injection h with h1; rw [h1] at ha; cases ha; exact hg
      clear hbx hcx hrx hln
      go_wp2
      refine bodyPost_ret (v := .agg #[.int .i64 N, .slice so xs.length sc]) (by simp [results, Tryz.results13, go_sem, b0, b1]) rfl ⟨so, sc, rfl, ?_, ?_⟩
      · have h := rowA_keep (w' := ((wr.setCell ⟨w.heap.size + 1, 0, none⟩ (.int .i64 N)).setCell ⟨w.heap.size + 1, 1, none⟩ (.slice so xs.length sc))) HA.out (fun g hg _ => by
          rw [heap_setCell_other _ _ _ _ (by show g ≠ w.heap.size + 1; omega), heap_setCell_other _ _ _ _ (by show g ≠ w.heap.size + 1; omega)])
        exact ⟨h.1, h.2.imp id fun ⟨g, cap', cur, e, hg, r⟩ => ⟨g, cap', cur, e, by omega, r⟩⟩
      · exact (HI.out.below.setCell (p := ⟨w.heap.size + 1, 0, none⟩) (by simp) _).setCell (p := ⟨w.heap.size + 1, 1, none⟩) (by simp) _

end Go.Proofs.YthgmhhlgjooeaaaGreatDoor
