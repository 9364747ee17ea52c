/- ref01.Twin: a copy of a list of places; ref01.Told: what counts of such a chain. -/
import Derived.Test.YtkmbffdjgpjojabDoorText
import Derived.Test.YtkmbffdjgpjojabDoorChain
import Derived.Test.YtkmbffdjgpjojabDoorPlaces
namespace Go.Proofs.YtkmbffdjgpjojabDoor
open Go.RowKit Go.Extern

theorem flat_take (ps : List (Int × Int)) (k : Nat) (p : Int × Int) (h : ps[k]? = some p) : flat (ps.take (k + 1)) = flat (ps.take k) ++ [.int .i64 p.1, .int .i64 p.2] := by
  obtain ⟨hlt, he⟩ := List.getElem?_eq_some_iff.1 h
  rw [List.take_succ_eq_append_getElem hlt, flat_append, he]
  rfl
theorem places_at {w : World} {ao : Option Addr} {cap : Nat} {ps : List (Int × Int)} (h : HasPlaces w (.slice ao ps.length cap) ps) {k : Nat} {p : Int × Int} (hp : ps[k]? = some p) :
    ∃ b off, ao = some ⟨b, off, none⟩ ∧ b < w.heap.size ∧ w.cell? ⟨b, off + k * 2, none⟩ = some (.int .i64 p.1) ∧ w.cell? ⟨b, off + k * 2 + 1, none⟩ = some (.int .i64 p.2) := by
  obtain ⟨ao', cap', e, hc⟩ := h
  cases e
  exact hc k p hp

set_option maxRecDepth 100000 in
set_option maxHeartbeats 1000000 in
theorem twin_calls (lv : Value) (ps : List (Int × Int)) (w : World) (hl : HasPlaces w lv ps) (hn : ps.length ≤ 64) :
    Calls Tryd.prog 27 #[lv] w fun e w' => ∃ mv, e = .returned mv ∧ w'.ownsRow w.heap.size 43 2 mv ps.length (flat ps) ∧ Below w.heap.size w w' := by
  obtain ⟨i0, hi, hz0, hz1, hz2⟩ : ∃ i, Tryd.prog.info? 43 = some i ∧ i.zero = some (.agg #[.int .i64 0, .int .i64 0]) ∧ i.size = 2 ∧ i.bytes = 16 := by
    have h := Tryd.info34
    cases hi : Tryd.prog.info? 43 with
    | none => rw [hi] at h; cases h
    | some i => rw [hi] at h; simp at h; exact ⟨i, rfl, h.1, h.2.1, h.2.2⟩
  obtain ⟨ao, cap, hlv⟩ : ∃ ao cap, lv = .slice ao ps.length cap := by
    obtain ⟨ao, cap, e, _⟩ := hl
    exact ⟨ao, cap, e⟩
  subst hlv
  have HL : Hid (HasPlaces w (.slice ao ps.length cap) ps) := hl
  clear hl
  go_enter Tryd.func27, Tryd.ntmps27
  go_wp2_with fail
  go_loopw [3, 8] (fun mv iv wr => ∃ k : Nat, k ≤ ps.length ∧ iv = .int .i64 k ∧ wr.ownsRow w.heap.size 43 2 mv k (flat (ps.take k)) ∧ Below w.heap.size w wr) (fun _ iv _ => ps.length - (intOf iv).toNat)
  case atStart => exact ⟨0, Nat.zero_le _, rfl, World.ownsRow_nil _ _ _ _, Below.refl _ _⟩
  case round =>
    obtain ⟨k, hk, rfl, hown, hbw⟩ := hrel
    have HO : Hid (wr.ownsRow w.heap.size 43 2 u3 k (flat (ps.take k))) := hown
    have HBW : Hid (Below w.heap.size w wr) := hbw
    have hsz : w.heap.size ≤ wr.heap.size := hbw.size
    clear hown
    by_cases hlt : k < ps.length
    · obtain ⟨p, hp⟩ : ∃ p, ps[k]? = some p := ⟨ps[k], List.getElem?_eq_getElem hlt⟩
      obtain ⟨b, off, hao, hbl, q0, q1⟩ := places_at HL.out hp
      subst hao
      have c0 := (hbw.cell (p := ⟨b, off + k * 2, none⟩) hbl).trans q0
      have c1 := (hbw.cell (p := ⟨b, off + k * 2 + 1, none⟩) hbl).trans q1
      have HFT : Hid (flat (ps.take (k + 1)) = flat (ps.take k) ++ [.int .i64 p.1, .int .i64 p.2]) := flat_take ps k p hp
      clear q0 q1 hp hbw
      go_wp2_with (at_builtin; refine wpList_append_own _ rfl _ _ 35 rfl w.heap.size 43 i0 (.agg #[.int .i64 0, .int .i64 0]) 2 16 Tryd.underlying35 hi hz0 hz1 hz2 rfl (by decide) u3 k (flat (ps.take k)) rfl ?hown ⟨wr.heap.size + 1, 0, none⟩ 1 1 [.int .i64 p.1, .int .i64 p.2] rfl rfl ?hnews ?hone ?h63 ?hby ?hbase ?_; (case hown => exact (HO.out.alloc _).alloc _); (case hnews => intro j x hx; rcases j with _ | _ | j <;> simp at hx <;> subst hx <;> simp [Addr.add]); (case hone => intro x hx; simp at hx; rcases hx with rfl | rfl <;> rfl); (case h63 => unfold maxLen; omega); (case hby => omega); (case hbase => simp; omega); intro v' w3 hown' hgrow3 hnil3)
      have HN : Hid (w3.ownsRow w.heap.size 43 2 v' (k + 1) (flat (ps.take (k + 1))) ∧ Below w.heap.size w w3) := ⟨by rw [HFT.out]; exact hown', ((HBW.out.alloc hsz _).alloc (by simp; omega) _).grown hgrow3 (by simp; omega) (fun j hj => (HO.out.lt j hj).1)⟩
      clear hown' hgrow3 hnil3
      first
        | exact ⟨⟨k + 1, by omega, by go_num, HN.out.1, HN.out.2⟩, by simp [intOf]; omega⟩
        | (go_roundw
           case rel => exact ⟨k + 1, by omega, by go_num, HN.out.1, HN.out.2⟩
           case measure => simp [intOf]; omega)
    · obtain rfl : k = ps.length := by omega
      go_wp2
      go_ret
      refine ⟨_, rfl, ?_, HBW.out⟩
      have h := HO.out
      rw [List.take_length] at h
      exact h

theorem places_take {w : World} {ao : Option Addr} {cap : Nat} {ps : List (Int × Int)} (h : HasPlaces w (.slice ao ps.length cap) ps) (hn : 64 ≤ ps.length) : HasPlaces w (.slice ao 64 cap) (ps.take 64) := by
  obtain ⟨ao', cap', e, hc⟩ := h
  cases e
  refine ⟨ao, cap, by rw [List.length_take, Nat.min_eq_left hn], fun j p hj => hc j p ?_⟩
  have hlt := (List.getElem?_eq_some_iff.1 hj).1
  rw [List.getElem?_take_of_lt (by rw [List.length_take] at hlt; omega)] at hj
  exact hj
theorem row_slice {w : World} {base n : Nat} {xs : List Value} {mv : Value} (h : w.ownsRow base 43 2 mv n xs) : ∃ ao cap, mv = .slice ao n cap := by
  rcases h.2 with ⟨h, h'⟩ | ⟨g, cap, cur, h, _⟩
  · exact ⟨none, 0, by rw [h']; exact h⟩
  · exact ⟨_, cap, h⟩
/-- the number that is told of a chain of so many places. -/
def toldCode (n : Int) (ps : List (Int × Int)) : Int := if ps.length < 64 then n else 0

theorem ownsRow_base {w : World} {base base' : Nat} {e : TypeId} {size : Nat} {v : Value} {n : Nat} {xs : List Value} (h : w.ownsRow base e size v n xs) (hb : base' ≤ base) : w.ownsRow base' e size v n xs := by
  obtain ⟨h1, h2⟩ := h
  refine ⟨h1, ?_⟩
  rcases h2 with h2 | ⟨g, cap, cur, hv, hg, r⟩
  · exact Or.inl h2
  · exact Or.inr ⟨g, cap, cur, hv, Nat.le_trans hb hg, r⟩
theorem cell_two {w : World} {b : Nat} {c0 c1 : Value} {T : TypeId} (h : w.heap[b]? = some (.cells #[c0, c1] T)) :
    w.cell? ⟨b, 0, none⟩ = some c0 ∧ w.cell? ⟨b, 1, none⟩ = some c1 ∧ w.frozen? ⟨b, 0, none⟩ = false ∧ w.frozen? ⟨b, 1, none⟩ = false := by
  simp [World.cell?, World.frozen?, h]

set_option maxRecDepth 100000 in
set_option maxHeartbeats 1000000 in
theorem told_calls (ao : Option Addr) (cap : Nat) (ps : List (Int × Int)) (n : Int) (w : World) (hl : HasPlaces w (.slice ao ps.length cap) ps) (hm : ps.length ≤ maxLen) (hcap : ps.length ≤ cap) :
    Calls Tryd.prog 16 #[.slice ao ps.length cap, .int .i64 n] w fun e w' => ∃ mv, e = .returned (.agg #[.int .i64 (toldCode n ps), mv]) ∧ w'.ownsRow w.heap.size 43 2 mv (ps.take 64).length (flat (ps.take 64)) ∧ Below w.heap.size w w' := by
  unfold maxLen at hm
  have hb0 : Below w.heap.size w ((w.alloc (.cells #[.int .i64 0, .slice none 0 0] 40)).alloc (.cells #[.int .i64 n, .slice none 0 0] 40)) := ((Below.refl _ _).alloc (Nat.le_refl _) _).alloc (by simp) _
  have HL : Hid (HasPlaces ((w.alloc (.cells #[.int .i64 0, .slice none 0 0] 40)).alloc (.cells #[.int .i64 n, .slice none 0 0] 40)) (.slice ao ps.length cap) ps) := hl.keep hb0
  have HN0 : Hid (((w.alloc (.cells #[.int .i64 0, .slice none 0 0] 40)).alloc (.cells #[.int .i64 n, .slice none 0 0] 40)).heap[w.heap.size]? = some (.cells #[.int .i64 0, .slice none 0 0] 40)) := by
    show _ = _
    rw [Below.heap_alloc _ _ _ (by simp)]; exact heap_new _ _
  have HN1 : Hid (((w.alloc (.cells #[.int .i64 0, .slice none 0 0] 40)).alloc (.cells #[.int .i64 n, .slice none 0 0] 40)).heap[w.heap.size + 1]? = some (.cells #[.int .i64 n, .slice none 0 0] 40)) := by
    have h := heap_new (w.alloc (.cells #[.int .i64 0, .slice none 0 0] 40)) (.cells #[.int .i64 n, .slice none 0 0] 40)
    show _ = _
    simpa using h
  clear hl
  by_cases h64 : ps.length < 64
  · have hgeq : ¬ (64 : Int) ≤ ps.length := by omega
    have HTK : Hid (ps.take 64 = ps) := List.take_of_length_le (by omega)
    have HTC : Hid (toldCode n ps = n) := by show _ = _; rw [toldCode, if_pos h64]
    go_enter Tryd.func16, Tryd.ntmps16
    go_wp2_with fail
    refine (twin_calls _ ps _ HL.out (by omega)).mono ?_
    rintro e w1 ⟨mv, rfl, hrow, hb1⟩
    obtain ⟨mo, mcap, hmv⟩ := row_slice hrow
    subst hmv
    obtain ⟨a0, a1, z0, z1⟩ := cell_two ((hb1.block w.heap.size (by simp; omega)).trans HN0.out)
    obtain ⟨b0, b1, y0, y1⟩ := cell_two ((hb1.block (w.heap.size + 1) (by simp)).trans HN1.out)
    have HB1 : Hid (Below w.heap.size w w1) := hb0.trans (hb1.mono (by simp; omega))
    have HR : Hid (w1.ownsRow ((w.alloc (.cells #[.int .i64 0, .slice none 0 0] 40)).alloc (.cells #[.int .i64 n, .slice none 0 0] 40)).heap.size 43 2 (.slice mo ps.length mcap) ps.length (flat ps)) := hrow
    clear hb1 hrow hb0
    go_wp2
    refine bodyPost_ret (v := .agg #[.int .i64 n, .slice mo ps.length mcap]) (by simp [results, Tryd.results16, go_sem, a0, a1]) rfl ⟨_, by rw [HTC.out], ?_, ?_⟩
    · rw [HTK.out]
      exact ownsRow_base (ownsRow_setCell_below (ownsRow_setCell_below (ownsRow_setCell_below HR.out (by simp) _) (by simp; omega) _) (by simp; omega) _) (by simp; omega)
    · exact ((HB1.out.setCell (p := ⟨w.heap.size + 1, 1, none⟩) (by simp) _).setCell (p := ⟨w.heap.size, 0, none⟩) (by simp) _).setCell (p := ⟨w.heap.size, 1, none⟩) (by simp) _
  · have hgeq : (64 : Int) ≤ ps.length := by omega
    have hc64 : 64 ≤ cap := by omega
    have HTL : Hid ((ps.take 64).length = 64) := by show _ = _; rw [List.length_take]; omega
    have HTC : Hid (toldCode n ps = 0) := by show _ = _; rw [toldCode, if_neg h64]
    go_enter Tryd.func16, Tryd.ntmps16
    go_wp2_with fail
    refine (twin_calls _ (ps.take 64) _ (places_take HL.out (by omega)) (by rw [HTL.out]; omega)).mono ?_
    rintro e w1 ⟨mv, rfl, hrow, hb1⟩
    obtain ⟨mo, mcap, hmv⟩ := row_slice hrow
    subst hmv
    obtain ⟨a0, a1, z0, z1⟩ := cell_two ((hb1.block w.heap.size (by simp; omega)).trans HN0.out)
    have HB1 : Hid (Below w.heap.size w w1) := hb0.trans (hb1.mono (by simp; omega))
    have HR : Hid (w1.ownsRow ((w.alloc (.cells #[.int .i64 0, .slice none 0 0] 40)).alloc (.cells #[.int .i64 n, .slice none 0 0] 40)).heap.size 43 2 (.slice mo (ps.take 64).length mcap) (ps.take 64).length (flat (ps.take 64))) := hrow
    clear hb1 hrow hb0
    generalize hLL : (ps.take 64).length = L at *
    have HLL : Hid ((ps.take 64).length = L) := hLL
    clear hLL
    go_wp2
    refine bodyPost_ret (v := .agg #[.int .i64 0, .slice mo L mcap]) (by simp [results, Tryd.results16, go_sem, a0, a1]) rfl ⟨_, by rw [HTC.out], ?_, ?_⟩
    · have h2 := ownsRow_setCell_below (ownsRow_setCell_below HR.out (a := ⟨w.heap.size, 0, none⟩) (by simp; omega) (.int .i64 0)) (a := ⟨w.heap.size, 1, none⟩) (by simp; omega) (.slice mo L mcap)
      rw [HLL.out]
      exact ownsRow_base h2 (by simp; omega)
    · exact (HB1.out.setCell (p := ⟨w.heap.size, 0, none⟩) (by simp) _).setCell (p := ⟨w.heap.size, 1, none⟩) (by simp) _
end Go.Proofs.YtkmbffdjgpjojabDoor
