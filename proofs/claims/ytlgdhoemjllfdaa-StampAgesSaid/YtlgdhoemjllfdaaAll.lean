/- All: which places hold a number, rising; New's fellow in the reference; lists of whole numbers. -/
import Derived.Test.YtlgdhoemjllfdaaReset
import Derived.Laws.AppendOwn
namespace Go.Proofs.Ytlgdhoemjllfdaa
open Go.RowKit

attribute [local go_sem] Oper.semAt_some

/-- the places that are in, from k on. -/
def allB : Nat → List Bool → List Int
  | _, [] => []
  | k, b :: r => (if b then [(k : Int)] else []) ++ allB (k + 1) r
theorem allB_append : ∀ (k : Nat) (a b : List Bool), allB k (a ++ b) = allB k a ++ allB (k + a.length) b
  | k, [], b => by simp [allB]
  | k, x :: r, b => by
    have e : ∀ (q : List Bool), allB k (x :: q) = (if x then [(k : Int)] else []) ++ allB (k + 1) q := fun q => rfl
    rw [List.cons_append, e, e]
    rw [allB_append (k + 1) r b, List.length_cons, show k + 1 + r.length = k + (r.length + 1) by omega, List.append_assoc]
theorem allB_take {bs : List Bool} {k : Nat} {b : Bool} (h : bs[k]? = some b) : allB 0 (bs.take (k + 1)) = allB 0 (bs.take k) ++ if b then [(k : Int)] else [] := by
  obtain ⟨hl, he⟩ := List.getElem?_eq_some_iff.1 h
  rw [List.take_succ_eq_append_getElem hl, he, allB_append, List.length_take, Nat.zero_add, Nat.min_eq_left (by omega)]
  simp [allB]
theorem allB_len : ∀ (k : Nat) (bs : List Bool), (allB k bs).length ≤ bs.length
  | _, [] => Nat.le_refl _
  | k, b :: r => by
    have h := allB_len (k + 1) r
    unfold allB
    rw [List.length_append, List.length_cons]
    cases b <;> simp <;> omega
theorem allB_cnt : ∀ (k : Nat) (vs : List (Option Int)), (allB k (vs.map Option.isSome)).length = cnt vs
  | _, [] => rfl
  | k, b :: r => by
    rw [List.map_cons]
    unfold allB cnt
    rw [List.length_append, allB_cnt (k + 1) r]
    cases b <;> simp

def intsV (l : List Int) : List Value := l.map (Value.int .i64)
theorem intsV_append (a b : List Int) : intsV (a ++ b) = intsV a ++ intsV b := by simp [intsV]
theorem row_slice {w : World} {base n : Nat} {xs : List Value} {v : Value} (h : w.ownsRow base 3 1 v n xs) : ∃ ao cap, v = .slice ao n cap := by
  rcases h.2 with ⟨h, h'⟩ | ⟨g, cap, cur, h, _⟩
  · exact ⟨none, 0, by rw [h']; exact h⟩
  · exact ⟨_, cap, h⟩
theorem row_keep {w w' : World} {base n : Nat} {xs : List Value} {v : Value} (h : w.ownsRow base 3 1 v n xs) (hk : ∀ g, base ≤ g → g < w.heap.size → w'.heap[g]? = w.heap[g]?) : w'.ownsRow base 3 1 v n xs := by
  obtain ⟨h1, h2⟩ := h
  refine ⟨h1, ?_⟩
  rcases h2 with h2 | ⟨g, cap, cur, e, hb, hh, r⟩
  · exact Or.inl h2
  · exact Or.inr ⟨g, cap, cur, e, hb, (hk g hb (lt_of_get hh)).trans hh, r⟩
theorem infoInt : ∃ i, Try.prog.info? 3 = some i ∧ i.zero = some (.int .i64 0) ∧ i.size = 1 ∧ i.bytes = 8 := by
  have h : (Try.prog.info? 3).map (fun i => (i.zero, i.size, i.bytes)) = some (some (.int .i64 0), 1, 8) := by kernel_rfl
  obtain ⟨i, hi, hzz⟩ := Option.map_eq_some_iff.1 h
  simp only [Prod.mk.injEq] at hzz
  exact ⟨i, hi, hzz⟩

set_option maxRecDepth 100000 in
set_option maxHeartbeats 4000000 in
theorem all_calls {w : World} {sb pb n : Nat} {vs : List (Option Int)} (h : IsStamp w sb pb n vs) : Calls Try.prog 12 #[.pointer (some ⟨sb, 0, none⟩)] w fun e w' => ∃ sv, e = .returned sv ∧ w'.ownsRow w.heap.size 3 1 sv (allB 0 (vs.map Option.isSome)).length (intsV (allB 0 (vs.map Option.isSome))) ∧ Below w.heap.size w w' := by
  obtain ⟨age, held, ps, hM, ha, hA, hv, hh, hO⟩ := h
  obtain ⟨i0, hi, hz0, hz1, hz2⟩ := infoInt
  obtain ⟨c0, c1, c2, f0, f1, f2⟩ := hM.cells
  have hcb : held ≤ 65536 := by have := cnt_le vs; rw [hv, List.length_map, hM.len] at this; have := hM.big; rw [hv] at hh; omega
  have hheld : (0 : Int) ≤ (held : Int) := by omega
  have HV : Hid (vs = ps.map (seenP age)) := hv
  have HM : Hid (Mem w sb pb n age held ps) := hM
  have l0 : sb < w.heap.size := lt_of_get hM.box
  have hnb : n ≤ 65536 := hM.big
  clear hM hO hv hh
  obtain ⟨BS, hBS⟩ : ∃ BS, vs.map Option.isSome = BS := ⟨_, rfl⟩
  have HBS : Hid (vs.map Option.isSome = BS) := hBS
  rw [hBS]
  clear hBS
  go_enter Try.func12, Try.ntmps12
  go_wp2_with (refine wpList_make_own _ rfl _ _ 37 rfl w.heap.size 3 i0 (.int .i64 0) 1 Try.underlying37 hi hz0 hz1 .i64 .i64 (held : Int) held rfl rfl rfl ?hby ?h63 ?hbase ?_; (case hby => rw [hz2]; omega); (case h63 => unfold maxLen; omega); (case hbase => omega); intro w2 hown2 hgrow2; have hbW2 : Below w.heap.size w w2 := ⟨hgrow2.os, hgrow2.tape, hgrow2.output, hgrow2.size, fun k hk => hgrow2.block k hk (by simp)⟩; obtain ⟨d0, d1, d2, _, _, _⟩ := (HM.out.below hbW2).cells)
  have HB2 : Hid (Below w.heap.size w w2) := hbW2
  have HO2 : Hid (w2.ownsRow w.heap.size 3 1 (.slice (some ⟨w.heap.size, 0, none⟩) 0 held) 0 []) := hown2
  clear hbW2 hown2 hgrow2 c0 c1 c2 f0 f1 f2
  go_loopw [3, 17] (fun av iv wr => ∃ k : Nat, k ≤ n ∧ iv = .int .i64 k ∧ wr.ownsRow w.heap.size 3 1 av (allB 0 (BS.take k)).length (intsV (allB 0 (BS.take k))) ∧ Below w.heap.size w wr) (fun _ iv _ => n - (intOf iv).toNat)
  case atStart => exact ⟨0, Nat.zero_le _, rfl, HO2.out, HB2.out⟩
  case round =>
    obtain ⟨k, hk, rfl, hR, hB⟩ := hrel
    have hM := HM.out.below hB
    obtain ⟨so, sc, hsv⟩ := row_slice hR
    subst hsv
    have HR : Hid (wr.ownsRow w.heap.size 3 1 (.slice so (allB 0 (BS.take k)).length sc) (allB 0 (BS.take k)).length (intsV (allB 0 (BS.take k)))) := hR
    have HB : Hid (Below w.heap.size w wr) := hB
    have hll : (allB 0 (BS.take k)).length ≤ 65536 := by
      have h1 := allB_len 0 (BS.take k)
      rw [List.length_take] at h1
      have := hM.big
      omega
    by_cases hlt : k < n
    · obtain ⟨p, hp⟩ : ∃ p, ps[k]? = some p := ⟨ps[k]'(by have := hM.len; omega), List.getElem?_eq_getElem _⟩
      have hbk : BS[k]? = some (seenP age p).isSome := by rw [← HBS.out, HV.out, List.map_map, List.getElem?_map, hp]; rfl
      have HT := allB_take hbk
      have HT' : Hid (type_of% HT) := HT
      have HH : Hid (type_of% (holds_calls hM hp)) := holds_calls hM hp
      clear HT hbk hp hM hR hB d0 d1 d2
      generalize allB 0 (BS.take k) = L at *
      generalize (seenP age p).isSome = b at *
      go_wp2_with fail
      refine HH.out.mono ?_
      rintro e w3 ⟨rfl, hw3⟩
      have HB3 : Hid (Below wr.heap.size wr w3 ∧ Below w.heap.size w w3) := ⟨hw3, HB.out.trans (hw3.mono HB.out.size)⟩
      have HR3 : Hid (w3.ownsRow w.heap.size 3 1 (.slice so L.length sc) L.length (intsV L)) := row_keep HR.out (fun g _ hg => hw3.block g hg)
      have hws : w.heap.size ≤ w3.heap.size := HB3.out.2.size
      clear hw3
      cases b with
      | false =>
        go_wp2
        go_roundw
        case rel => exact ⟨k + 1, by omega, by go_num, by rw [HT'.out]; simpa using HR3.out, HB3.out.2⟩
        case measure => simp [intOf]; omega
      | true =>
        go_wp2_with (at_builtin; refine wpList_append_own _ rfl _ _ 37 rfl w.heap.size 3 i0 (.int .i64 0) 1 8 Try.underlying37 hi hz0 hz1 hz2 rfl (by decide) (.slice so L.length sc) L.length (intsV L) rfl ?hown ⟨w3.heap.size, 0, none⟩ 1 1 [.int .i64 k] rfl rfl ?hnews ?hone ?h63 ?hby ?hbase ?_; (case hown => exact HR3.out.alloc _); (case hnews => intro j x hx; rcases j with _ | j <;> simp at hx; subst hx; simp [Addr.add]); (case hone => intro x hx; simp at hx; subst hx; rfl); (case h63 => unfold maxLen; omega); (case hby => omega); (case hbase => simp; omega); intro v' w5 hown5 hgrow5 hnil5; obtain ⟨vo, vc, hv'⟩ := row_slice hown5; subst hv')
        have hnb5 : ∀ j, j < w.heap.size → some j ≠ (Value.slice so L.length sc).ownBlock := fun j hj e => by
          rcases HR3.out.2 with ⟨h, _⟩ | ⟨g, cap', cur, h, hg, _⟩
          · injection h with h1; subst h1; cases e
          · injection h with h1; subst h1
            have : j = g := Option.some.inj e
            omega
        refine ⟨⟨k + 1, by omega, by go_num, ?_, ?_⟩, by simp [intOf]; omega⟩
        · rw [HT'.out, if_pos trivial, List.length_append, intsV_append]
          exact hown5
        · exact HB3.out.2.trans ⟨hgrow5.os, hgrow5.tape, hgrow5.output, by have := hgrow5.size; simp at this; omega, fun j hj => (hgrow5.block j (by simp; omega) (hnb5 j hj)).trans (Below.heap_alloc _ _ _ (by omega))⟩
    · obtain rfl : k = n := by omega
      have HE : Hid (BS.take k = BS) := by show _ = _; rw [List.take_of_length_le]; rw [← HBS.out, HV.out, List.length_map, List.length_map, HM.out.len]; exact Nat.le_refl _
      rw [HE.out] at HR ⊢
      clear hM hR hB
      go_wp2
      go_ret
      exact ⟨_, rfl, HR.out, HB.out⟩
end Go.Proofs.Ytlgdhoemjllfdaa
