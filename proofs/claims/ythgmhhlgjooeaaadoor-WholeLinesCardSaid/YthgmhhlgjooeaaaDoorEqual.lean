/- slices.Equal over places and ref01.AlikePlaces, with both answers: whether two lists of places are one. They only read. -/
import Derived.Test.YthgmhhlgjooeaaaDoorAlike
namespace Go.Proofs.YthgmhhlgjooeaaaDoor.F1
open Go.RowKit Go.Extern

/-- are two lists of places one? -/
def sameB (ps qs : List (Int × Int)) : Bool := decide (ps = qs)
theorem sameB_yes {ps qs : List (Int × Int)} (h : ps = qs) : sameB ps qs = true := decide_eq_true h
theorem sameB_no {ps qs : List (Int × Int)} (h : ps ≠ qs) : sameB ps qs = false := decide_eq_false h
theorem sameTo_succ {ps qs : List (Int × Int)} {k : Nat} (h : sameTo ps qs k) (hk : ps[k]? = qs[k]?) : sameTo ps qs (k + 1) := fun j hj => by
  rcases Nat.lt_or_ge j k with h' | h'
  · exact h j h'
  · obtain rfl : j = k := by omega
    exact hk

set_option maxRecDepth 100000 in
set_option maxHeartbeats 1000000 in
theorem equal_calls (av bv : Value) (ps qs : List (Int × Int)) (w : World) (ha : HasPlaces w av ps) (hb : HasPlaces w bv qs) (hm : ps.length ≤ maxLen) :
    Calls Tryd.prog 21 #[av, bv] w fun e w' => e = .returned (.bool (sameB ps qs)) ∧ Below w.heap.size w w' := by
  unfold maxLen at hm
  obtain ⟨ao, cap, hlv⟩ : ∃ ao cap, av = .slice ao ps.length cap := by
    obtain ⟨ao, cap, e, _⟩ := ha
    exact ⟨ao, cap, e⟩
  obtain ⟨bo, cbp, hlb⟩ : ∃ bo cap, bv = .slice bo qs.length cap := by
    obtain ⟨ao, cap, e, _⟩ := hb
    exact ⟨ao, cap, e⟩
  by_cases hlen : qs.length = ps.length
  · rw [hlen] at hlb
    subst hlv
    subst hlb
    have HA : Hid (HasPlaces w (.slice ao ps.length cap) ps) := ha
    have HB : Hid (HasPlaces w (.slice bo ps.length cbp) qs) := hb
    have HL : Hid (qs.length = ps.length) := hlen
    clear ha hb hlen
    go_enter Tryd.func21, Tryd.ntmps21
    go_wp2_with fail
    go_loopw [13] (fun iv wr => ∃ k : Nat, k ≤ ps.length ∧ iv = .int .i64 k ∧ sameTo ps qs k ∧ Below w.heap.size w wr) (fun iv _ => ps.length - (intOf iv).toNat)
    case atStart => exact ⟨0, Nat.zero_le _, rfl, fun j hj => by omega, Below.refl _ _⟩
    case round =>
      obtain ⟨k, hk, rfl, hs, hbw⟩ := hrel
      have HS : Hid (sameTo ps qs k) := hs
      clear hs
      by_cases hlt : k < ps.length
      · obtain ⟨p, hp⟩ : ∃ p, ps[k]? = some p := ⟨ps[k], List.getElem?_eq_getElem hlt⟩
        obtain ⟨q, hq⟩ : ∃ q, qs[k]? = some q := ⟨qs[k]'(by rw [HL.out]; exact hlt), List.getElem?_eq_getElem _⟩
        obtain ⟨b, off, hao, hl1, q0, q1⟩ : ∃ b off, ao = some ⟨b, off, none⟩ ∧ b < w.heap.size ∧ w.cell? ⟨b, off + k * 2, none⟩ = some (.int .i64 p.1) ∧ w.cell? ⟨b, off + k * 2 + 1, none⟩ = some (.int .i64 p.2) := by
          obtain ⟨ao', cap', e, hc⟩ := HA.out
          cases e
          exact hc k p hp
        obtain ⟨b', off', hbo, hl2, q2, q3⟩ : ∃ b off, bo = some ⟨b, off, none⟩ ∧ b < w.heap.size ∧ w.cell? ⟨b, off + k * 2, none⟩ = some (.int .i64 q.1) ∧ w.cell? ⟨b, off + k * 2 + 1, none⟩ = some (.int .i64 q.2) := by
          obtain ⟨ao', cap', e, hc⟩ := HB.out
          injection e with e1 e2 e3
          subst e1
          exact hc k q hq
        subst hao
        subst hbo
        have a0 := (hbw.cell (p := ⟨b, off + k * 2, none⟩) hl1).trans q0
        have a1 := (hbw.cell (p := ⟨b, off + k * 2 + 1, none⟩) hl1).trans q1
        have b0 := (hbw.cell (p := ⟨b', off' + k * 2, none⟩) hl2).trans q2
        have b1 := (hbw.cell (p := ⟨b', off' + k * 2 + 1, none⟩) hl2).trans q3
        have HBW : Hid (Below w.heap.size w wr) := hbw
        have HPQ : Hid (ps[k]? = some p ∧ qs[k]? = some q) := ⟨hp, hq⟩
        clear q0 q1 q2 q3 hp hq hbw
        by_cases hpq : p = q
        · subst hpq
          go_wp2
          go_quiet (fail)
          go_wp2
          go_roundw
          case rel => exact ⟨k + 1, by omega, by go_num, sameTo_succ HS.out (HPQ.out.1.trans HPQ.out.2.symm), ⟨HBW.out.os, HBW.out.tape, HBW.out.output, HBW.out.size, HBW.out.block⟩⟩
          case measure => simp [intOf]; omega
        · have HNE : Hid (sameB ps qs = false) := sameB_no fun e => by
            subst e
            exact hpq (Option.some.inj (HPQ.out.1.symm.trans HPQ.out.2))
          obtain ⟨p1, p2⟩ := p
          obtain ⟨q1, q2⟩ := q
          simp only at a0 a1 b0 b1
          have hd : p1 = q1 ∧ p2 ≠ q2 ∨ p1 ≠ q1 := by
            by_cases h : p1 = q1
            · exact Or.inl ⟨h, fun e => hpq (by rw [h, e])⟩
            · exact Or.inr h
          clear hpq
          rcases hd with ⟨h1, h2⟩ | h1
          · subst h1
            go_wp2
            go_quiet (fail)
            go_wp2
            go_ret
            exact ⟨by rw [HNE.out]; rfl, ⟨HBW.out.os, HBW.out.tape, HBW.out.output, HBW.out.size, HBW.out.block⟩⟩
          · go_wp2
            go_quiet (fail)
            go_wp2
            go_ret
            exact ⟨by rw [HNE.out]; rfl, ⟨HBW.out.os, HBW.out.tape, HBW.out.output, HBW.out.size, HBW.out.block⟩⟩
      · have HE : Hid (sameB ps qs = true) := sameB_yes (same_all HL.out.symm (by rw [show ps.length = k by omega]; exact HS.out))
        go_wp2
        go_ret
        exact ⟨by rw [HE.out]; rfl, hbw⟩
  · subst hlv
    subst hlb
    have HE : Hid (sameB ps qs = false) := sameB_no fun e => hlen (by rw [e])
    have hne : ¬ (ps.length : Int) = (qs.length : Int) := by omega
    clear ha hb
    go_enter Tryd.func21, Tryd.ntmps21
    go_wp2
    go_ret
    exact ⟨by rw [HE.out]; rfl, Below.refl _ _⟩

end Go.Proofs.YthgmhhlgjooeaaaDoor.F1
