/- fault.Shift: the places of a kind moved, the number kept. -/
import Derived.Test.YthgmhhlgjooeaaaDoorShiftL
namespace Go.Proofs.YthgmhhlgjooeaaaDoor.F1
open Go.RowKit Go.Extern Go.Shelf

attribute [local go_sem] Oper.semAt_some

/-- the number behind the shifted places. -/
def numTail (C : Int) : Value := if C = 0 then .nilIface else .iface 27 (.int .i64 C)
theorem made_come (kd by_ : Int) (qs : List (Int × Int)) : made kd by_ (come qs qs.length) = qs.map (moved kd by_) := by
  apply List.ext_getElem
  · simp [made, come]
  · intro i h1 h2
    have hi : i < qs.length := by simpa using h2
    have e : qs.length - 1 - (qs.length - 1 - i) = i := by omega
    simp [made, come, e, hi]
theorem places_of_row {w : World} {base : Nat} {pv : Value} {ps : List (Int × Int)} (h : w.ownsRow base 37 2 pv ps.length (flat ps)) : HasPlaces w pv ps := by
  rcases h.2 with ⟨e, h0⟩ | ⟨g, cap, cur, rfl, hg, hh, hcap, _, _, htk⟩
  · have : ps = [] := List.eq_nil_of_length_eq_zero h0
    subst this
    exact ⟨none, 0, e, fun j p hj => by simp at hj⟩
  · refine ⟨_, cap, rfl, fun j p hj => ⟨g, 0, rfl, lt_of_get hh, ?_⟩⟩
    obtain ⟨hlt, he⟩ := List.getElem?_eq_some_iff.1 hj
    have h0 := (h.cellAt (2 * j) (by omega)).trans (flat_get ps j hlt).1
    have h1 := (h.cellAt (2 * j + 1) (by omega)).trans (flat_get ps j hlt).2
    rw [he] at h0 h1
    rw [Nat.zero_add, Nat.mul_comm j 2]
    exact ⟨h0, h1⟩
theorem row_block {w : World} {base n cap : Nat} {xs : List Value} {po : Option Addr} (h : w.ownsRow base 37 2 (.slice po n cap) n xs) : ∀ a, po = some a → base ≤ a.block ∧ a.block < w.heap.size := by
  intro a ha
  rcases h.2 with ⟨e, _⟩ | ⟨g, cap', cur, e, hg, hh, _⟩
  · cases e; cases ha
  · cases e; cases ha; exact ⟨hg, lt_of_get hh⟩
set_option maxRecDepth 100000 in
set_option maxHeartbeats 4000000 in
theorem shift_calls {tv : Value} (htv : Tail3 tv) (ps : List (Int × Int)) (v : Value) (kd by_ : Int) (w : World) (hv : IsErr w tv ps v) (hg : HasType w) :
    Calls Tryd.prog 10 #[v, .int .i64 kd, .int .i64 by_] w fun e w' => ∃ v', e = .returned v' ∧ IsErr w' (numTail (codeOf (cutTail (strip tv) ps 64))) ((ps.take 64).map (moved kd by_)) v' ∧ Below w.heap.size w w' := by
  obtain ⟨W0, hW0⟩ : ∃ W0, ((w.alloc (.cells #[.int .i64 kd] 26)).alloc (.cells #[.int .i64 by_] 3)).alloc (.cells #[.nilIface] 24) = W0 := ⟨_, rfl⟩
  have hB0 : Below w.heap.size w W0 := by rw [← hW0]; exact (((Below.refl _ w).alloc (Nat.le_refl _) _).alloc (by simp) _).alloc (by simp; omega) _
  have hs0 : W0.heap.size = w.heap.size + 3 := by rw [← hW0]; simp
  have k0 : W0.heap[w.heap.size]? = some (.cells #[.int .i64 kd] 26) := by rw [← hW0, Below.heap_alloc _ _ _ (by simp; omega), Below.heap_alloc _ _ _ (by simp)]; exact heap_new _ _
  have k1 : W0.heap[w.heap.size + 1]? = some (.cells #[.int .i64 by_] 3) := by
    rw [← hW0, Below.heap_alloc _ _ _ (by simp)]
    have h := heap_new (w.alloc (.cells #[.int .i64 kd] 26)) (.cells #[.int .i64 by_] 3)
    simpa using h
  have k2 : W0.heap[w.heap.size + 1 + 1]? = some (.cells #[.nilIface] 24) := by
    have h := heap_new ((w.alloc (.cells #[.int .i64 kd] 26)).alloc (.cells #[.int .i64 by_] 3)) (.cells #[.nilIface] 24)
    rw [hW0] at h
    simpa using h
  have HV : Hid (IsErr W0 tv ps v) := hv.keep (Below.keeps hB0)
  have HG : Hid (HasType W0) := hg.keep hB0 hg.pos
  have HK0 : Hid (W0.heap[w.heap.size]? = some (.cells #[.int .i64 kd] 26) ∧ W0.heap[w.heap.size + 1]? = some (.cells #[.int .i64 by_] 3) ∧ W0.heap[w.heap.size + 1 + 1]? = some (.cells #[.nilIface] 24)) := ⟨k0, k1, k2⟩
  have HB0 : Hid (Below w.heap.size w W0) := hB0
  have HW0 : Hid (((w.alloc (.cells #[.int .i64 kd] 26)).alloc (.cells #[.int .i64 by_] 3)).alloc (.cells #[.nilIface] 24) = W0) := hW0
  have hg0 : 0 < W0.heap.size := by omega
  have hgw : 0 < w.heap.size := hg.pos
  clear hv hg k0 k1 k2 hB0 hW0
  generalize hCC : codeOf (cutTail (strip tv) ps 64) = C
  have HCC : Hid (codeOf (cutTail (strip tv) ps 64) = C) := hCC
  clear hCC
  refine (callsIn_wide (n := 5)).1 ?_
  refine callsIn_of_wp_marks Tryd.func10 rfl trivial ?_ rfl
  simp only [Tryd.ntmps10, List.size_toArray, List.length_cons, List.length_nil, Nat.reduceAdd, Nat.reduceSub, Array.replicate_succ, Array.replicate_zero, List.push_toArray, List.append_toArray, List.nil_append, List.cons_append]
  gi_wp2_with fail
  rw [HW0.out]
  refine ⟨trivial, (callsIn_wide.2 (code_gen ps htv v W0 HV.out HG.out)).mono ?_⟩
  rintro e w1 ⟨rfl, hb1⟩
  rw [HCC.out]
  have HB1 : Hid (Below W0.heap.size W0 w1) := hb1
  have HV1 : Hid (IsErr w1 tv ps v) := HV.out.keep (Below.keeps hb1)
  have HG1 : Hid (HasType w1) := HG.out.keep hb1 hg0
  have b2 : w1.heap[w.heap.size + 1 + 1]? = some (.cells #[.nilIface] 24) := (hb1.block _ (by omega)).trans HK0.out.2.2
  have c2 : w1.cell? ⟨w.heap.size + 1 + 1, 0, none⟩ = some .nilIface := by simp [World.cell?, b2]
  have z2 : w1.frozen? ⟨w.heap.size + 1 + 1, 0, none⟩ = false := by simp [World.frozen?, b2]
  clear hb1 b2
  have hlen : (ps.take 64).length ≤ 64 := by rw [List.length_take]; omega
  by_cases hC : C = 0
  · subst hC
    gi_wp2_with fail
    have HVX : Hid (IsErr w1 tv ps v) := HV1.out
    have HGX : Hid (HasType w1) := HG1.out
    have HBX : Hid ((Boxed w1 w.heap.size 26 (.int .i64 kd) ∧ Boxed w1 (w.heap.size + 1) 3 (.int .i64 by_)) ∧ Boxed w1 (w.heap.size + 1 + 1) 24 .nilIface ∧ Below w.heap.size w w1) := ⟨⟨(HB1.out.block _ (by omega)).trans HK0.out.1, (HB1.out.block _ (by omega)).trans HK0.out.2.1⟩, (HB1.out.block _ (by omega)).trans HK0.out.2.2, HB0.out.trans (HB1.out.mono HB0.out.size)⟩
    refine ⟨trivial, (callsIn_wide.2 (places_gen htv ps v (w1) HVX.out HGX.out)).mono ?_⟩
    rintro e w2 ⟨pl, rfl, hrow, hb2⟩
    obtain ⟨po, pcap, hpl⟩ := row_slice hrow
    subst hpl
    have HR2 : Hid (w2.ownsRow (w1).heap.size 37 2 (.slice po (ps.take 64).length pcap) (ps.take 64).length (flat (ps.take 64))) := hrow
    have HI2 : Hid (ShiftI w.heap.size w kd by_ (.nilIface) [] w2) := ⟨⟨⟨(hb2.block _ HBX.out.1.1.lt).trans HBX.out.1.1, (hb2.block _ HBX.out.1.2.lt).trans HBX.out.1.2⟩, _, (hb2.block _ HBX.out.2.1.lt).trans HBX.out.2.1, rfl⟩, HBX.out.2.2.trans (hb2.mono HBX.out.2.2.size)⟩
    have HPO : Hid (∀ a, po = some a → w.heap.size + 1 + 1 < a.block ∧ a.block < w2.heap.size) := fun a ha => by
      have h1 := row_block HR2.out a ha
      have h2 := HB1.out.size
      skip
      exact ⟨by omega, h1.2⟩
    have hsz2 : w.heap.size ≤ w2.heap.size := HI2.out.2.size
    clear hrow hb2
    generalize hqs : ps.take 64 = qs at *
    have HQS : Hid (ps.take 64 = qs) := hqs
    clear hqs
    gi_wp2_with fail
    refine ⟨trivial, (back_in Fence.wide _ trivial rfl po qs.length pcap w2).mono ?_⟩
    rintro e w3 ⟨rfl, rfl⟩
    gi_wp2_with fail
    refine shift_loop w.heap.size w w2 kd by_ (.nilIface) v (.int .i64 0) (.int .i64 0) (.int .i64 0) (.bool false) undef undef po pcap qs hlen (Nat.le_refl _) (places_of_row HR2.out) (.inl rfl) HI2.out HPO.out _ ?_
    intro D W hD hi hK
    obtain ⟨⟨_, sv, b2, he⟩, hb⟩ := hi
    have HE : Hid (IsErr W (.nilIface) (made kd by_ (come qs qs.length)) sv) := he
    have HB : Hid (Below w.heap.size w W) := hb
    have HKD : Hid (W.heap[D]? = some (.deferred (some []))) := hK
    have c2 := b2.cell
    clear he hb hK b2
    gi_wp2
    refine ⟨by simp, .inl ⟨_, _, rfl, run_takeDeferred HKD.out, ?_⟩⟩
    refine ⟨sv, by kernel_rfl, sv, rfl, ?_, HB.out.trans (belowK_b (w := w) (Nat.le_refl _) W D _ _ (by omega) HKD.out rfl rfl)⟩
    have h := HE.out.keep (keeps_own (grownBy_putObj' W D (.deferred none)) (fun r e => by cases e; exact ⟨_, HKD.out, rfl⟩))
    rw [made_come, ← HQS.out] at h
    exact h
  · have hC1 : (C != 0) = true := by simpa using hC
    gi_wp2_with fail
    have HBX0 : Hid ((Boxed w1 w.heap.size 26 (.int .i64 kd) ∧ Boxed w1 (w.heap.size + 1) 3 (.int .i64 by_)) ∧ Boxed w1 (w.heap.size + 1 + 1) 24 .nilIface ∧ Below w.heap.size w w1) := ⟨⟨(HB1.out.block _ (by omega)).trans HK0.out.1, (HB1.out.block _ (by omega)).trans HK0.out.2.1⟩, (HB1.out.block _ (by omega)).trans HK0.out.2.2, HB0.out.trans (HB1.out.mono HB0.out.size)⟩
    have HVX : Hid (IsErr (w1.setCell ⟨w.heap.size + 1 + 1, 0, none⟩ (.iface 27 (.int .i64 C))) tv ps v) := HV1.out.keep (keeps_setCell (p := ⟨w.heap.size + 1 + 1, 0, none⟩) HBX0.out.2.1 (by decide) _)
    have HGX : Hid (HasType (w1.setCell ⟨w.heap.size + 1 + 1, 0, none⟩ (.iface 27 (.int .i64 C)))) := HG1.out.keep ((Below.refl w.heap.size w1).setCell (p := ⟨w.heap.size + 1 + 1, 0, none⟩) (by show w.heap.size ≤ w.heap.size + 1 + 1; omega) _) hgw
    have HBX : Hid ((Boxed (w1.setCell ⟨w.heap.size + 1 + 1, 0, none⟩ (.iface 27 (.int .i64 C))) w.heap.size 26 (.int .i64 kd) ∧ Boxed (w1.setCell ⟨w.heap.size + 1 + 1, 0, none⟩ (.iface 27 (.int .i64 C))) (w.heap.size + 1) 3 (.int .i64 by_)) ∧ Boxed (w1.setCell ⟨w.heap.size + 1 + 1, 0, none⟩ (.iface 27 (.int .i64 C))) (w.heap.size + 1 + 1) 24 (.iface 27 (.int .i64 C)) ∧ Below w.heap.size w (w1.setCell ⟨w.heap.size + 1 + 1, 0, none⟩ (.iface 27 (.int .i64 C)))) := ⟨⟨HBX0.out.1.1.other (by omega) _, HBX0.out.1.2.other (by omega) _⟩, HBX0.out.2.1.set _, HBX0.out.2.2.setCell (p := ⟨w.heap.size + 1 + 1, 0, none⟩) (by show w.heap.size ≤ w.heap.size + 1 + 1; omega) _⟩
    refine ⟨trivial, (callsIn_wide.2 (places_gen htv ps v (w1.setCell ⟨w.heap.size + 1 + 1, 0, none⟩ (.iface 27 (.int .i64 C))) HVX.out HGX.out)).mono ?_⟩
    rintro e w2 ⟨pl, rfl, hrow, hb2⟩
    obtain ⟨po, pcap, hpl⟩ := row_slice hrow
    subst hpl
    have HR2 : Hid (w2.ownsRow (w1.setCell ⟨w.heap.size + 1 + 1, 0, none⟩ (.iface 27 (.int .i64 C))).heap.size 37 2 (.slice po (ps.take 64).length pcap) (ps.take 64).length (flat (ps.take 64))) := hrow
    have HI2 : Hid (ShiftI w.heap.size w kd by_ (.iface 27 (.int .i64 C)) [] w2) := ⟨⟨⟨(hb2.block _ HBX.out.1.1.lt).trans HBX.out.1.1, (hb2.block _ HBX.out.1.2.lt).trans HBX.out.1.2⟩, _, (hb2.block _ HBX.out.2.1.lt).trans HBX.out.2.1, rfl⟩, HBX.out.2.2.trans (hb2.mono HBX.out.2.2.size)⟩
    have HPO : Hid (∀ a, po = some a → w.heap.size + 1 + 1 < a.block ∧ a.block < w2.heap.size) := fun a ha => by
      have h1 := row_block HR2.out a ha
      have h2 := HB1.out.size
      have h3 : (w1.setCell ⟨w.heap.size + 1 + 1, 0, none⟩ (.iface 27 (.int .i64 C))).heap.size = w1.heap.size := by simp
      rw [h3] at h1
      exact ⟨by omega, h1.2⟩
    have hsz2 : w.heap.size ≤ w2.heap.size := HI2.out.2.size
    clear hrow hb2
    generalize hqs : ps.take 64 = qs at *
    have HQS : Hid (ps.take 64 = qs) := hqs
    clear hqs
    gi_wp2_with fail
    refine ⟨trivial, (back_in Fence.wide _ trivial rfl po qs.length pcap w2).mono ?_⟩
    rintro e w3 ⟨rfl, rfl⟩
    gi_wp2_with fail
    refine shift_loop w.heap.size w w2 kd by_ (.iface 27 (.int .i64 C)) v (.int .i64 C) (.int .i64 C) (.int .i64 C) (.bool true) (.int .i64 C) (.iface 27 (.int .i64 C)) po pcap qs hlen (Nat.le_refl _) (places_of_row HR2.out) (.inr ⟨C, rfl⟩) HI2.out HPO.out _ ?_
    intro D W hD hi hK
    obtain ⟨⟨_, sv, b2, he⟩, hb⟩ := hi
    have HE : Hid (IsErr W (.iface 27 (.int .i64 C)) (made kd by_ (come qs qs.length)) sv) := he
    have HB : Hid (Below w.heap.size w W) := hb
    have HKD : Hid (W.heap[D]? = some (.deferred (some []))) := hK
    have c2 := b2.cell
    clear he hb hK b2
    gi_wp2
    refine ⟨by simp, .inl ⟨_, _, rfl, run_takeDeferred HKD.out, ?_⟩⟩
    refine ⟨sv, by kernel_rfl, sv, rfl, ?_, HB.out.trans (belowK_b (w := w) (Nat.le_refl _) W D _ _ (by omega) HKD.out rfl rfl)⟩
    have h := HE.out.keep (keeps_own (grownBy_putObj' W D (.deferred none)) (fun r e => by cases e; exact ⟨_, HKD.out, rfl⟩))
    rw [made_come, ← HQS.out] at h
    unfold numTail
    rw [if_neg hC]
    exact h
end Go.Proofs.YthgmhhlgjooeaaaDoor.F1
