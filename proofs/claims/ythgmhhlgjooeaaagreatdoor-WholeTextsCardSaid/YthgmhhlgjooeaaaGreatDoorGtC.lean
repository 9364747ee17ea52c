/- scan's wordsOf, walked. -/
import Derived.Test.YthgmhhlgjooeaaaGreatDoorGtB
import Derived.Laws.OwnMore
namespace Go.Proofs.YthgmhhlgjooeaaaGreatDoor.Gt
open Go Go.Lib Go.RowKit

attribute [local go_sem] Oper.semAt_some

theorem word_len : ∀ (l cur : By), ∀ v ∈ wordsF cur l, v.length ≤ cur.length + l.length
  | [], cur, v, hv => by
    unfold wordsF at hv
    split at hv
    · cases hv
    · rw [List.mem_singleton.1 hv]; simp
  | b :: r, cur, v, hv => by
    unfold wordsF at hv
    split at hv
    · split at hv
      · have := word_len r [] v hv
        simp at this ⊢
        omega
      · rcases List.mem_cons.1 hv with rfl | hv
        · simp
        · have := word_len r [] v hv
          simp at this ⊢
          omega
    · have := word_len r (cur ++ [b]) v hv
      simp at this ⊢
      omega
theorem words_few : ∀ (l cur : By), (wordsF cur l).length ≤ l.length + (if cur = [] then 0 else 1)
  | [], cur => by
    unfold wordsF
    split <;> simp
  | b :: r, cur => by
    unfold wordsF
    split
    · split
      · have := words_few r []
        simp at this ⊢
        omega
      · have := words_few r []
        simp at this ⊢
        omega
    · have := words_few r (cur ++ [b])
      simp at this ⊢
      split <;> omega
theorem right_words (l : By) : rightL l = (wordsOf l).all fun v => v.all okB := by
  unfold rightL wordsOf wordsL
  rw [words_ok]
  simp
/-- by which error wordsOf refuses. -/
def wE (l : By) : Int := if 200 < l.length then 2 else if rightL l = false then 3 else 0
/-- what wordsOf answers. -/
def WdA (s : ByteArray) (w : World) (e : Ending) (w' : World) : Prop :=
  Below w.heap.size w w' ∧ ((wE (bs s) ≠ 0 ∧ e = .returned (.tuple #[.slice none 0 0, errV (wE (bs s))])) ∨ (wE (bs s) = 0 ∧ ∃ (X : List ByteArray) (A : Nat), X.map bs = wordsOf (bs s) ∧ e = .returned (.tuple #[.slice (some ⟨A, 0, none⟩) X.length X.length, .nilIface]) ∧ w'.ownsRow w.heap.size 9 1 (.slice (some ⟨A, 0, none⟩) X.length X.length) X.length (X.map Value.string)))
theorem btrG {a b c : World} (h : Below a.heap.size a b) (k : Below b.heap.size b c) : Below a.heap.size a c := h.trans (k.mono h.size)
theorem sown_keep {w w' : World} {B n : Nat} {v : Value} {xs : List Value} (h : w.ownsRow B 9 1 v n xs) (hb : Below w.heap.size w w') : w'.ownsRow B 9 1 v n xs := by
  rcases h.2 with ⟨e, h0⟩ | ⟨g, cap, cur, e, hg, hh, r⟩
  · exact ⟨h.1, .inl ⟨e, h0⟩⟩
  · exact ⟨h.1, .inr ⟨g, cap, cur, e, hg, (hb.block g (Array.getElem?_eq_some_iff.1 hh).1).trans hh, r⟩⟩
theorem sown_low {w : World} {B B' n : Nat} {v : Value} {xs : List Value} (h : w.ownsRow B 9 1 v n xs) (hb : B' ≤ B) : w.ownsRow B' 9 1 v n xs := by
  refine ⟨h.1, ?_⟩
  rcases h.2 with h2 | ⟨g, cap, cur, e, hg, r⟩
  · exact Or.inl h2
  · exact Or.inr ⟨g, cap, cur, e, by omega, r⟩
theorem enter_gap : ∀ args w, (callFunc 58 args).run Tryz.prog w = .ok (.enter 58 args) w := by
  intro args w
  kernel_rfl

set_option maxRecDepth 100000 in
set_option maxHeartbeats 4000000 in
theorem words_calls (s : ByteArray) (w : World) (hs : s.size ≤ 281474976710656) : Calls Tryz.prog 44 #[.string s] w (WdA s w) := by
  by_cases hl : 200 < s.size
  · have i1 : decide ((s.size : Int) > 200) = true := by simp; omega
    have HE : Hid (wE (bs s) = 2) := by show _ = _; unfold wE; rw [bs_len, if_pos hl]
    clear hl
    go_enter Tryz.func44, Tryz.ntmps44
    go_wp2
    go_ret2
    exact ⟨Below.refl _ _, Or.inl ⟨by rw [HE.out]; decide, by rw [HE.out]; rfl⟩⟩
  · have i1 : decide ((s.size : Int) > 200) = false := by simp; omega
    have HC : Hid (∀ wx, Calls Tryz.prog 43 #[.string s, .string ⟨#[35]⟩] wx (CutA s 35 wx)) := fun wx => cut_calls s 35 wx hs
    have HE : Hid (wE (bs s) = if rightL (bs s) = false then 3 else 0) := by show _ = _; unfold wE; rw [bs_len, if_neg hl]
    have HSL : Hid ((bs s).length ≤ 200) := by rw [bs_len]; show _ ≤ _; omega
    clear hl hs
    go_enter Tryz.func44, Tryz.ntmps44
    go_wp2_with fail
    refine (HC.out w).mono ?_
    rintro e y1 ⟨a, b, f, rfl, ha, _, hb⟩
    have HA : Hid (bs a = hashOf (bs s) ∧ Below w.heap.size w y1) := ⟨ha, hb⟩
    have has : a.size ≤ 200 := by
      have h1 := HSL.out
      rw [← bs_len, ha]
      exact Nat.le_trans (List.takeWhile_sublist _).length_le h1
    have HF : Hid (Calls Tryz.prog 57 #[.string a, .func (.func 58) #[] #[]] y1 fun e w' => ∃ A, e = .returned (.slice (some ⟨A, 0, none⟩) (goFieldsP gapR a).length (goFieldsP gapR a).length) ∧ y1.heap.size ≤ A ∧ w'.ownsRow y1.heap.size 9 1 (.slice (some ⟨A, 0, none⟩) (goFieldsP gapR a).length (goFieldsP gapR a).length) (goFieldsP gapR a).length ((goFieldsP gapR a).map Value.string) ∧ Below y1.heap.size y1 w') := Tryz.strings_FieldsFunc_runes 58 #[] enter_gap gapR a y1 (by omega) (gap_pred y1)
    have HX : Hid ((goFieldsP gapR a).map bs = wordsOf (bs s)) := by show _ = _; rw [fields_words, ha]; rfl
    clear ha hb
    go_wp2_with fail
    refine HF.out.mono ?_
    rintro e y2 ⟨A, rfl, hA, ho, hb⟩
    obtain ⟨X, hX⟩ : ∃ X, goFieldsP gapR a = X := ⟨_, rfl⟩
    rw [hX] at HX ho ⊢
    have HO : Hid (y2.ownsRow w.heap.size 9 1 (.slice (some ⟨A, 0, none⟩) X.length X.length) X.length (X.map Value.string) ∧ Below w.heap.size w y2 ∧ w.heap.size ≤ A) := ⟨sown_low ho HA.out.2.size, btrG HA.out.2 hb, Nat.le_trans HA.out.2.size hA⟩
    have HXS : Hid (∀ x ∈ X, x.size ≤ 200) := fun x hx => by
      have h1 : bs x ∈ wordsOf (bs s) := by rw [← HX.out]; exact List.mem_map.2 ⟨x, hx, rfl⟩
      have h2 := word_len _ [] _ h1
      rw [bs_len] at h2
      have h3 : (hashOf (bs s)).length ≤ (bs s).length := (List.takeWhile_sublist _).length_le
      have h4 := HSL.out
      simp at h2
      omega
    have HXL : Hid (X.length ≤ 200) := by
      have h1 : X.length = (wordsOf (bs s)).length := by rw [← HX.out, List.length_map]
      have h2 := words_few (hashOf (bs s)) []
      have h3 : (hashOf (bs s)).length ≤ (bs s).length := (List.takeWhile_sublist _).length_le
      have h4 := HSL.out
      have h5 : wordsOf (bs s) = wordsF [] (hashOf (bs s)) := rfl
      simp at h2
      show X.length ≤ 200
      rw [h1, h5]
      omega
    clear ho hb hA HF hX
    have hXL := HXL.out
    go_wp2_with fail
    go_loopw [21] (fun iv wr => ∃ k : Nat, k ≤ X.length ∧ iv = .int .i64 k ∧ Hid (wr.ownsRow w.heap.size 9 1 (.slice (some ⟨A, 0, none⟩) X.length X.length) X.length (X.map Value.string) ∧ Below w.heap.size w wr) ∧ Hid ((X.take k).all (fun x => (bs x).all okB) = true)) (fun iv _ => X.length - (intOf iv).toNat)
    case atStart => exact ⟨0, Nat.zero_le _, rfl, ⟨HO.out.1, HO.out.2.1⟩, rfl⟩
    case round =>
      obtain ⟨k, hk, rfl, HI, HK⟩ := hrel
      rcases Nat.lt_or_eq_of_le hk with h1 | h1
      · obtain ⟨x, hx⟩ : ∃ x, X[k]? = some x := ⟨_, List.getElem?_eq_getElem h1⟩
        have ck : wr.cell? ⟨A, k, none⟩ = some (.string x) := by
          rw [HI.out.1.cellAt k (by omega), List.getElem?_map, hx]
          rfl
        have fk : wr.frozen? ⟨A, k, none⟩ = false := HI.out.1.frozenAt k
        have hxs : x.size ≤ 200 := HXS.out x (List.mem_of_getElem? hx)
        have HXK : Hid (X[k]? = some x) := hx
        have HP : Hid (∀ wx, Calls Tryz.prog 59 #[.string x] wx fun e w' => e = .returned (.bool ((bs x).all okB)) ∧ w' = wx) := fun wx => plainW_calls x wx (by omega)
        have HCL : Hid (∀ wx, Calls Tryz.prog 60 #[.string x] wx fun e w' => e = .returned (.string x) ∧ Below wx.heap.size wx w') := fun wx => clone_calls x wx (by omega)
        have i2 : (0 : Int) ≤ (k : Int) := by omega
        have i3 : (k : Int) < (X.length : Int) := by omega
        have i4 : decide ((k : Int) < (X.length : Int)) = true := by simp; omega
        clear hx
        go_wp2_with fail
        refine (HP.out wr).mono ?_
        rintro e y3 ⟨rfl, rfl⟩
        cases hok : (bs x).all okB with
        | false =>
          have HW : Hid (wE (bs s) = 3) := by
            show _ = _
            rw [HE.out, if_pos]
            rw [right_words, ← HX.out, List.all_map]
            rw [List.all_eq_false]
            exact ⟨x, List.mem_of_getElem? HXK.out, by show ¬ (bs x).all okB = true; rw [hok]; decide⟩
          clear hok
          go_wp2
          go_ret2
          exact ⟨HI.out.2, Or.inl ⟨by rw [HW.out]; decide, by rw [HW.out]; rfl⟩⟩
        | true =>
          have HT : Hid ((X.take (k + 1)).all (fun x => (bs x).all okB) = true) := by
            show _ = _
            rw [List.take_add_one, HXK.out, List.all_append, HK.out]
            simpa using hok
          clear hok
          go_wp2_with fail
          refine (HCL.out y3).mono ?_
          rintro e y4 ⟨rfl, hb⟩
          have HY : Hid (y4.ownsRow w.heap.size 9 1 (.slice (some ⟨A, 0, none⟩) X.length X.length) X.length (X.map Value.string) ∧ Below w.heap.size w y4) := ⟨sown_keep HI.out.1 hb, btrG HI.out.2 hb⟩
          have ck4 : y4.cell? ⟨A, k, none⟩ = some (.string x) := by
            rw [HY.out.1.cellAt k (by omega), List.getElem?_map, HXK.out]
            rfl
          have fk4 : y4.frozen? ⟨A, k, none⟩ = false := HY.out.1.frozenAt k
          have HZ : Hid ((y4.setCell ⟨A, k, none⟩ (.string x)).ownsRow w.heap.size 9 1 (.slice (some ⟨A, 0, none⟩) X.length X.length) X.length (X.map Value.string) ∧ Below w.heap.size w (y4.setCell ⟨A, k, none⟩ (.string x))) := by
            have g := (HY.out.1.stored k (.string x)).1
            have e : (X.map Value.string).set k (.string x) = X.map Value.string := by
              refine List.ext_getElem? fun j => ?_
              rw [List.getElem?_set]
              split
              · rename_i hj
                subst hj
                split
                · rw [List.getElem?_map, HXK.out]; rfl
                · rename_i hj
                  rw [List.length_map] at hj
                  omega
              · rfl
            rw [e] at g
            exact ⟨g, HY.out.2.setCell (p := ⟨A, k, none⟩) HO.out.2.2 _⟩
          clear hb ck fk
          go_wp2_with fail
          go_roundw
          case rel => exact ⟨k + 1, by omega, by rw [show (k : Int) + 1 = ((k + 1 : Nat) : Int) by omega], HZ, HT⟩
          case measure => simp only [intOf]; omega
      · have i4 : decide ((k : Int) < (X.length : Int)) = false := by simp; omega
        have HW : Hid (wE (bs s) = 0) := by
          show _ = _
          rw [HE.out, if_neg]
          rw [right_words, ← HX.out, List.all_map]
          have g := HK.out
          rw [h1, List.take_length] at g
          rw [show ((fun v => v.all okB) ∘ bs) = fun x => (bs x).all okB from rfl, g]
          decide
        go_wp2
        go_ret2
        exact ⟨HI.out.2, Or.inr ⟨HW.out, X, A, HX.out, rfl, HI.out.1⟩⟩
end Go.Proofs.YthgmhhlgjooeaaaGreatDoor.Gt
