/- csr.Find at right arrays. -/
import Derived.Test.YtgfmalimnbgdeaaCsrFd
namespace Go.Proofs.Ytgfmalimnbgdeaa
open Go.RowKit Go.Extern

attribute [local go_sem] Oper.semAt_some

/-- what Find answers: a weight and the number of an error. -/
def FindIs (n : Nat) (zs : List (Int × Int × Int)) (v u r no : Int) : Prop :=
  (no = 7 ∧ r = 0 ∧ ¬ ((0 ≤ v ∧ v < (n : Int)) ∧ 0 ≤ u ∧ u < (n : Int))) ∨ (((0 ≤ v ∧ v < (n : Int)) ∧ 0 ≤ u ∧ u < (n : Int)) ∧ ((no = 0 ∧ (v, u, r) ∈ zs) ∨ (no = 16 ∧ r = 0 ∧ ∀ a ∈ zs, ¬ (a.1 = v ∧ a.2.1 = u))))

set_option maxRecDepth 100000 in
set_option maxHeartbeats 4000000 in
theorem find_good (n : Nat) (zs : List (Int × Int × Int)) (fo wo : Option Addr) (tb tof fc tc wc : Nat) (w : World) (hz : Fine n zs) (h : CsrIn w n zs fo (some ⟨tb, tof, none⟩) wo fc tc wc) (htc : zs.length ≤ tc) (v u r no : Int) (hF : FindIs n zs v u r no) :
    Calls Try.prog 22 #[.agg #[.slice fo (n + 1) fc, .slice (some ⟨tb, tof, none⟩) zs.length tc, .slice wo zs.length wc], .int .i64 v, .int .i64 u] w fun e w' => e = .returned (.tuple #[.int .i64 r, numV no]) ∧ Below w.heap.size w w' := by
  obtain ⟨fb, fof, rfl, hl, hc⟩ := h.first
  obtain ⟨W0, hW0⟩ : ∃ W0, (w.alloc (.cells #[.slice (some ⟨fb, fof, none⟩) (n + 1) fc, .slice (some ⟨tb, tof, none⟩) zs.length tc, .slice wo zs.length wc] 28)).alloc (.cells #[.int .i64 v, .int .i64 u] 3) = W0 := ⟨_, rfl⟩
  have HW0 : Hid ((w.alloc (.cells #[.slice (some ⟨fb, fof, none⟩) (n + 1) fc, .slice (some ⟨tb, tof, none⟩) zs.length tc, .slice wo zs.length wc] 28)).alloc (.cells #[.int .i64 v, .int .i64 u] 3) = W0) := hW0
  have hB0 : Below w.heap.size w W0 := by rw [← hW0]; exact ((Below.refl _ w).alloc (Nat.le_refl _) _).alloc (by simp) _
  have k1 : W0.heap[w.heap.size]? = some (.cells #[.slice (some ⟨fb, fof, none⟩) (n + 1) fc, .slice (some ⟨tb, tof, none⟩) zs.length tc, .slice wo zs.length wc] 28) := by rw [← hW0, Below.heap_alloc _ _ _ (by simp)]; exact heap_new _ _
  have k2 : W0.heap[w.heap.size + 1]? = some (.cells #[.int .i64 v, .int .i64 u] 3) := by
    have h := heap_new (w.alloc (.cells #[.slice (some ⟨fb, fof, none⟩) (n + 1) fc, .slice (some ⟨tb, tof, none⟩) zs.length tc, .slice wo zs.length wc] 28)) (.cells #[.int .i64 v, .int .i64 u] 3)
    rw [hW0] at h
    simpa using h
  have hV : HasInts W0 (.slice (some ⟨w.heap.size + 1, 0, none⟩) [v, u].length 2) [v, u] := by
    refine ⟨_, _, rfl, fun j a hj => ⟨_, 0, rfl, lt_of_get k2, ?_⟩⟩
    rcases j with _ | _ | j
    · cases hj; simp [World.cell?, k2]
    · cases hj; simp [World.cell?, k2]
    · cases hj
  have hN := hz.few
  have hM := hz.short
  have HK : Hid (∀ wx, Below W0.heap.size W0 wx → (wx.cell? ⟨w.heap.size, 0, none⟩ = some (.slice (some ⟨fb, fof, none⟩) (n + 1) fc) ∧ wx.cell? ⟨w.heap.size, 1, none⟩ = some (.slice (some ⟨tb, tof, none⟩) zs.length tc) ∧ wx.cell? ⟨w.heap.size, 2, none⟩ = some (.slice wo zs.length wc)) ∧ w.heap.size < wx.heap.size ∧ fb < wx.heap.size ∧ CsrIn wx n zs (some ⟨fb, fof, none⟩) (some ⟨tb, tof, none⟩) wo fc tc wc ∧ Below w.heap.size w wx ∧ ∀ v, v ≤ n → wx.cell? ⟨fb, fof + v, none⟩ = some (.int .i64 (firstAt zs v))) := fun wx hx => by
    have hg := (hx.block _ (lt_of_get k1)).trans k1
    have hb := hB0.trans (hx.mono hB0.size)
    exact ⟨box3 hg, lt_of_get hg, Nat.lt_of_lt_of_le hl hb.size, h.keep hb, hb, fun v hv => (hb.cell (p := ⟨fb, _, none⟩) hl).trans (hc v hv)⟩
  have HCN : Hid (∀ no7, ((no7 = 0 ∧ ∀ x ∈ [v, u], 0 ≤ x ∧ x < (n : Int)) ∨ (no7 = 7 ∧ ∃ x ∈ [v, u], ¬ (0 ≤ x ∧ x < (n : Int)))) → Calls Try.prog 38 #[.agg #[.slice (some ⟨fb, fof, none⟩) (n + 1) fc, .slice (some ⟨tb, tof, none⟩) zs.length tc, .slice wo zs.length wc], .slice (some ⟨w.heap.size + 1, 0, none⟩) 2 2] W0 fun e w' => e = .returned (numV no7) ∧ Below W0.heap.size W0 w') := fun no7 h7 => checkNodes_good n zs _ _ wo fc tc wc W0 hz (h.keep hB0) _ 2 [v, u] hV (by simp) no7 h7
  have HFI : Hid (Fine n zs) := hz
  clear h hc hW0 hB0 k1 k2 hV hl hz
  rcases hF with ⟨rfl, rfl, hno⟩ | ⟨⟨⟨hv1, hv2⟩, hu1, hu2⟩, hF⟩
  · have HC7 := HCN.out 7 (Or.inr ⟨rfl, by
      by_cases h : 0 ≤ v ∧ v < (n : Int)
      · exact ⟨u, by simp, fun h' => hno ⟨h, h'⟩⟩
      · exact ⟨v, by simp, h⟩⟩)
    have HCC : Hid (type_of% HC7) := HC7
    clear HC7 HCN hno
    go_enter Try.func22, Try.ntmps22
    go_wp2_with fail
    rw [HW0.out]
    refine HCC.out.mono ?_
    rintro e w1 ⟨rfl, hb1⟩
    have HBZ : Hid (Below w.heap.size w w1) := (HK.out w1 hb1).2.2.2.2.1
    rw [show numV 7 = .iface 73 (.int .i64 7) from rfl]
    clear hb1
    go_wp2
    go_ret2
    exact ⟨rfl, HBZ.out⟩
  · have HC7 := HCN.out 0 (Or.inl ⟨rfl, fun x hx => by
      rcases List.mem_cons.1 hx with rfl | hx
      · exact ⟨hv1, hv2⟩
      · rcases List.mem_cons.1 hx with rfl | hx
        · exact ⟨hu1, hu2⟩
        · cases hx⟩)
    have HCC : Hid (type_of% HC7) := HC7
    clear HC7 HCN
    obtain ⟨p, rfl⟩ : ∃ p : Nat, v = (p : Int) := ⟨v.toNat, by omega⟩
    obtain ⟨x, hx⟩ : ∃ x, firstAt zs p = x := ⟨_, rfl⟩
    obtain ⟨y, hy⟩ : ∃ y, firstAt zs (p + 1) = y := ⟨_, rfl⟩
    have hxy : x ≤ y := by rw [← hx, ← hy]; exact firstAt_mono zs (by omega)
    have hyl : y ≤ zs.length := by rw [← hy]; exact firstAt_le _ _
    obtain ⟨off', ho1, ho2⟩ := cut_ints tb tof zs.length tc x y hxy (by omega)
    have HBS : Hid (∀ wx, Below W0.heap.size W0 wx → Calls Try.prog 44 #[.slice (some ⟨tb, off', none⟩) (y - x) (tc - x), .int .i64 u] wx fun e w' => e = .returned (.tuple #[.int .i64 ((rowTo zs p).countP (· < u) : Nat), .bool ((rowTo zs p).contains u)]) ∧ Below wx.heap.size wx w') := fun wx hwx => by
      have hl := rowTo_len zs p
      rw [hx, hy] at hl
      refine search_calls tb off' (y - x) (tc - x) (rowTo zs p) u wx hl ((HFI.out.rowTo_rise p).imp (fun h => Int.le_of_lt h)) (by omega) (fun j a hj => ?_)
      have hjl := (List.getElem?_eq_some_iff.1 hj).1
      rw [rowTo_at zs p j (by rw [hx, hy]; omega), hx] at hj
      obtain ⟨b, off, e, _, h1⟩ := (HK.out wx hwx).2.2.2.1.t.at hj
      injection e with e
      injection e with e1 e2
      subst e1 e2
      rw [ho1 (by omega), Nat.add_assoc]
      exact h1
    have HX : Hid (firstAt zs p = x ∧ firstAt zs (p + 1) = y) := ⟨hx, hy⟩
    have e1 : (p : Int) < (n : Int) + 1 := by omega
    have e2 : (p : Int) + 1 < (n : Int) + 1 := by omega
    have e3 : (0 : Int) ≤ (p : Int) := by omega
    have e4 : (0 : Int) ≤ (p : Int) + 1 := by omega
    have e5 : IntKind.i64.wrap ((p : Int) + 1) = (p : Int) + 1 := by rw [IntKind.wrap_i64] <;> omega
    clear hx hy ho1
    rcases hF with ⟨rfl, hm⟩ | ⟨rfl, rfl, hno⟩
    · obtain ⟨i, hi⟩ := List.getElem?_of_mem hm
      obtain ⟨f1, f2⟩ := HFI.out.find hi
      have hil := (List.getElem?_eq_some_iff.1 hi).1
      rw [HX.out.1] at f1
      have HA : Hid (zs[i]? = some ((p : Int), u, r)) := hi
      generalize (rowTo zs p).countP (· < u) = q at HBS f1
      rw [f2] at HBS
      clear f2 hi hm
      go_enter Try.func22, Try.ntmps22
      go_wp2_with fail
      rw [HW0.out]
      refine HCC.out.mono ?_
      rintro e w1 ⟨rfl, hb1⟩
      rw [show numV 0 = .nilIface from rfl]
      have HB1 : Hid (Below W0.heap.size W0 w1) := hb1
      obtain ⟨⟨c0, c1, c2⟩, cs, cf, hci, _, hc⟩ := HK.out w1 hb1
      have q0 := hc p (by omega)
      have q1 := hc (p + 1) (by omega)
      rw [HX.out.1] at q0
      rw [HX.out.2] at q1
      clear hb1 hci hc
      go_wp2_with fail
      go_quiet (fail)
      have HBQ : Hid (Below W0.heap.size W0 (w1.drewN nq)) := ⟨HB1.out.os, HB1.out.tape, HB1.out.output, HB1.out.size, HB1.out.block⟩
      clear q0 q1
      have HSQ : Hid (type_of% (HBS.out _ HBQ.out)) := HBS.out _ HBQ.out
      go_wp2_with (go_at_call 44; refine HSQ.out.mono ?_; rintro e w2 ⟨rfl, hb2⟩; have HB2 : Hid (Below W0.heap.size W0 w2) := HBQ.out.trans (hb2.mono HBQ.out.size); clear hb2; clear c0 c1 c2 cs cf; obtain ⟨⟨c0, c1, c2⟩, cs, cf, hci, _, _⟩ := HK.out w2 HB2.out; obtain ⟨tb', tof', wb, wof, _, hwo, _, wl, hA⟩ := hci.arc (by omega); subst hwo; have a0 := (hA i _ HA.out).2; simp only at a0; have i1 : IntKind.i64.wrap ((x : Int) + (q : Int)) = (i : Int) := (by rw [IntKind.wrap_i64] <;> omega); have i2 : (i : Int) < (zs.length : Int) := (by omega); have i3 : (0 : Int) ≤ (i : Int) := (by omega); clear hci hA)
      have HBZ : Hid (Below w.heap.size w w2) := (HK.out w2 HB2.out).2.2.2.2.1
      go_ret2
      exact ⟨rfl, HBZ.out⟩
    · have f2 := HFI.out.findNo hno
      generalize (rowTo zs p).countP (· < u) = q at HBS
      rw [f2] at HBS
      clear f2 hno
      go_enter Try.func22, Try.ntmps22
      go_wp2_with fail
      rw [HW0.out]
      refine HCC.out.mono ?_
      rintro e w1 ⟨rfl, hb1⟩
      rw [show numV 0 = .nilIface from rfl]
      have HB1 : Hid (Below W0.heap.size W0 w1) := hb1
      obtain ⟨⟨c0, c1, c2⟩, cs, cf, hci, _, hc⟩ := HK.out w1 hb1
      have q0 := hc p (by omega)
      have q1 := hc (p + 1) (by omega)
      rw [HX.out.1] at q0
      rw [HX.out.2] at q1
      clear hb1 hci hc
      go_wp2_with fail
      go_quiet (fail)
      have HBQ : Hid (Below W0.heap.size W0 (w1.drewN nq)) := ⟨HB1.out.os, HB1.out.tape, HB1.out.output, HB1.out.size, HB1.out.block⟩
      clear q0 q1
      have HSQ : Hid (type_of% (HBS.out _ HBQ.out)) := HBS.out _ HBQ.out
      go_wp2_with (go_at_call 44; refine HSQ.out.mono ?_; rintro e w2 ⟨rfl, hb2⟩; have HB2 : Hid (Below W0.heap.size W0 w2) := HBQ.out.trans (hb2.mono HBQ.out.size); clear hb2; clear c0 c1 c2 cs cf)
      have HBZ : Hid (Below w.heap.size w w2) := (HK.out w2 HB2.out).2.2.2.2.1
      go_ret2
      exact ⟨rfl, HBZ.out⟩
end Go.Proofs.Ytgfmalimnbgdeaa
