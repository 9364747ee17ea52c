/- check sums: the law CrcBursts, walked. -/
import Derived.Test.YtemdocnhdnhliaaDoorCrI
import Derived.Test.YtemdocnhdnhliaaDoorCrG
namespace Go.Proofs.YtemdocnhdnhliaaDoor
open Go.RowKit Go.Extern Cr

attribute [local go_sem] Oper.semAt_some u32_signed u32_max

set_option maxRecDepth 100000 in
set_option maxHeartbeats 1000000 in
theorem bursts_calls (lo : Option Addr) (lc : Nat) (l : List Nat) (at_ : Int) (mask : Nat) (w : World) (hf : HasFours w) (hg : 0 < w.heap.size) (hl : HasB w (.slice lo l.length lc) l) (hb : Bts l) (hm : l.length ≤ 140737488351232) (hcn : lo = none → lc = 0) :
    Calls Tryd.prog 7 #[.slice lo l.length lc, .int .i64 at_, .int .u32 (mask : Int)] w fun e w' => e = .returned (.bool true) ∧ Below w.heap.size w w' := by
  have H0 : Hid (Held w lo lc l) := held_of hf hg hl
  have HA := awake17_calls w hf hg
  have HC : Hid ((lo = none → lc = 0) ∧ Bts l) := ⟨hcn, hb⟩
  clear hl hf hcn hb
  go_enter Tryd.func7, Tryd.ntmps7
  go_wp2_with (go_at_call 9; refine HA.mono ?_; rintro e w1 ⟨rfl, hb1⟩; have H1 : Hid (Below w.heap.size w w1) := hb1; clear hb1)
  refine (twin_above H0.out H1.out (by omega) HC.out.1).mono ?_
  rintro e w2 ⟨mo, mc, rfl, ho2, hb2⟩
  have H2 : Hid ((HasB w2 (.slice mo l.length mc) l ∧ (mo = none → mc = 0)) ∧ Below w.heap.size w w2) := ⟨⟨ho2.2.1, ho2.2.2.2⟩, hb2⟩
  clear ho2 hb2
  go_wp2_with fail
  refine (cSeal_fits mo mc l.length l rfl w2 (H0.out w2 H2.out.2).1 (H0.out w2 H2.out.2).2.1 H2.out.1.1 HC.out.2 (by omega) H2.out.1.2).mono ?_
  rintro e w3 ⟨so, sc, S, rfl, hS, hown3, hB3, hSl, hSb, hSf, hb3⟩
  have H3 : Hid ((HasB w3 (.slice so S.length sc) S ∧ (so = none → sc = 0)) ∧ Below w.heap.size w w3) := ⟨⟨hB3, (own_cap hown3).2⟩, H2.out.2.trans (hb3.mono H2.out.2.size)⟩
  have HS : Hid (S.length = l.length + 4 ∧ Bts S ∧ fits S = true) := ⟨hSl, hSb, hSf⟩
  clear hS hown3 hB3 hSl hSb hSf hb3
  have hB := kBurst_calls so sc S at_ mask w3 H3.out.1.1 HS.out.2.1 (by have := HS.out.1; omega) H3.out.1.2
  rw [HS.out.1] at hB
  go_wp2_with fail
  refine hB.mono ?_
  rintro e w4 ⟨qo, qc, q, tu, rfl, ho4, hb4, hqb, hql, hqf⟩
  clear hB
  have hqf' : tu = true → fits q = false := fun h => hqf h HS.out.2.2
  rw [HS.out.1] at ho4 hql
  have H4 : Hid ((HasB w4 (.slice qo q.length qc) q ∧ q.length ≤ qc ∧ Bts q ∧ q.length = l.length + 4) ∧ Below w.heap.size w w4) := ⟨⟨by rw [← hql] at ho4; exact hasB_own ho4, by rw [hql]; exact (own_cap ho4).1, hqb, hql⟩, H3.out.2.trans (hb4.mono H3.out.2.size)⟩
  rw [HS.out.1]
  clear ho4 hb4 hqb hql hqf
  have HB5 : Hid (∀ wx, Below w.heap.size w wx → Calls Tryd.prog 22 #[.slice lo l.length lc, .int .i64 at_, .int .u32 (mask : Int)] wx fun e w' => BurstPost wx l e w') := fun wx hx => kBurst_calls lo lc l at_ mask wx (H0.out wx hx).2.2 HC.out.2 (by omega) HC.out.1
  cases tu with
  | true =>
    have hF := cFits_calls qo qc q w4 (H0.out w4 H4.out.2).1 (H0.out w4 H4.out.2).2.1 H4.out.1.1 H4.out.1.2.2.1 (by have := H4.out.1.2.2.2; omega) H4.out.1.2.1
    rw [hqf' rfl, H4.out.1.2.2.2] at hF
    go_wp2_with fail
    refine hF.mono ?_
    rintro e w5 ⟨rfl, hb5⟩
    have H5 : Hid (Below w.heap.size w w5) := H4.out.2.trans (hb5.mono H4.out.2.size)
    clear hb5 hF
    go_wp2_with fail
    refine (HB5.out w5 H5.out).mono ?_
    rintro e w6 ⟨ro, rc, r, tv, rfl, ho6, hb6, hrb, hrl, hrf⟩
    have H6 : Hid ((HasB w6 (.slice ro r.length rc) r ∧ r.length ≤ rc ∧ Bts r ∧ r.length = l.length) ∧ Below w.heap.size w w6) := ⟨⟨by rw [← hrl] at ho6; exact hasB_own ho6, by rw [hrl]; exact (own_cap ho6).1, hrb, hrl⟩, (H5.out).trans (hb6.mono (H5.out).size)⟩
    have HRF : Hid (tv = true → fits l = true → fits r = false) := hrf
    clear ho6 hb6 hrb hrl hrf
    cases tv with
    | false =>
      go_wp2_with fail
      go_ret
      exact ⟨rfl, H6.out.2⟩
    | true =>
      go_wp2_with fail
      refine (kTwin_calls lo lc l w6 (H0.out w6 H6.out.2).2.2 (by omega) HC.out.1).mono ?_
      rintro e w7 ⟨no, nc, rfl, ho7, hb7⟩
      have H7 : Hid ((HasB w7 (.slice no l.length nc) l ∧ l.length ≤ nc ∧ HasB w7 (.slice ro r.length rc) r) ∧ Below w.heap.size w w7) := ⟨⟨hasB_own ho7, (own_cap ho7).1, H6.out.1.1.keep hb7⟩, H6.out.2.trans (hb7.mono H6.out.2.size)⟩
      clear ho7 hb7
      have hF7 := cFits_calls no nc l w7 (H0.out w7 H7.out.2).1 (H0.out w7 H7.out.2).2.1 H7.out.1.1 HC.out.2 (by omega) H7.out.1.2.1
      cases hfl : fits l with
      | false =>
        rw [hfl] at hF7
        go_wp2_with fail
        refine hF7.mono ?_
        rintro e w8 ⟨rfl, hb8⟩
        have H8 : Hid (Below w.heap.size w w8) := H7.out.2.trans (hb8.mono H7.out.2.size)
        clear hb8
        go_wp2_with fail
        go_ret
        exact ⟨rfl, H8.out⟩
      | true =>
        rw [hfl] at hF7
        have hrf' := HRF.out (by trivial) hfl
        go_wp2_with fail
        refine hF7.mono ?_
        rintro e w8 ⟨rfl, hb8⟩
        have H8 : Hid (HasB w8 (.slice ro r.length rc) r ∧ Below w.heap.size w w8) := ⟨H7.out.1.2.2.keep hb8, H7.out.2.trans (hb8.mono H7.out.2.size)⟩
        clear hb8 hF7
        have hF8 := cFits_calls ro rc r w8 (H0.out w8 H8.out.2).1 (H0.out w8 H8.out.2).2.1 H8.out.1 H6.out.1.2.2.1 (by have := H6.out.1.2.2.2; omega) H6.out.1.2.1
        rw [hrf', H6.out.1.2.2.2] at hF8
        go_wp2_with fail
        refine hF8.mono ?_
        rintro e w9 ⟨rfl, hb9⟩
        have H9 : Hid (Below w.heap.size w w9) := H8.out.2.trans (hb9.mono H8.out.2.size)
        clear hb9 hF8
        go_wp2_with fail
        go_ret
        exact ⟨rfl, H9.out⟩
  | false =>
    go_wp2_with fail
    refine (HB5.out w4 H4.out.2).mono ?_
    rintro e w6 ⟨ro, rc, r, tv, rfl, ho6, hb6, hrb, hrl, hrf⟩
    have H6 : Hid ((HasB w6 (.slice ro r.length rc) r ∧ r.length ≤ rc ∧ Bts r ∧ r.length = l.length) ∧ Below w.heap.size w w6) := ⟨⟨by rw [← hrl] at ho6; exact hasB_own ho6, by rw [hrl]; exact (own_cap ho6).1, hrb, hrl⟩, (H4.out.2).trans (hb6.mono (H4.out.2).size)⟩
    have HRF : Hid (tv = true → fits l = true → fits r = false) := hrf
    clear ho6 hb6 hrb hrl hrf
    cases tv with
    | false =>
      go_wp2_with fail
      go_ret
      exact ⟨rfl, H6.out.2⟩
    | true =>
      go_wp2_with fail
      refine (kTwin_calls lo lc l w6 (H0.out w6 H6.out.2).2.2 (by omega) HC.out.1).mono ?_
      rintro e w7 ⟨no, nc, rfl, ho7, hb7⟩
      have H7 : Hid ((HasB w7 (.slice no l.length nc) l ∧ l.length ≤ nc ∧ HasB w7 (.slice ro r.length rc) r) ∧ Below w.heap.size w w7) := ⟨⟨hasB_own ho7, (own_cap ho7).1, H6.out.1.1.keep hb7⟩, H6.out.2.trans (hb7.mono H6.out.2.size)⟩
      clear ho7 hb7
      have hF7 := cFits_calls no nc l w7 (H0.out w7 H7.out.2).1 (H0.out w7 H7.out.2).2.1 H7.out.1.1 HC.out.2 (by omega) H7.out.1.2.1
      cases hfl : fits l with
      | false =>
        rw [hfl] at hF7
        go_wp2_with fail
        refine hF7.mono ?_
        rintro e w8 ⟨rfl, hb8⟩
        have H8 : Hid (Below w.heap.size w w8) := H7.out.2.trans (hb8.mono H7.out.2.size)
        clear hb8
        go_wp2_with fail
        go_ret
        exact ⟨rfl, H8.out⟩
      | true =>
        rw [hfl] at hF7
        have hrf' := HRF.out (by trivial) hfl
        go_wp2_with fail
        refine hF7.mono ?_
        rintro e w8 ⟨rfl, hb8⟩
        have H8 : Hid (HasB w8 (.slice ro r.length rc) r ∧ Below w.heap.size w w8) := ⟨H7.out.1.2.2.keep hb8, H7.out.2.trans (hb8.mono H7.out.2.size)⟩
        clear hb8 hF7
        have hF8 := cFits_calls ro rc r w8 (H0.out w8 H8.out.2).1 (H0.out w8 H8.out.2).2.1 H8.out.1 H6.out.1.2.2.1 (by have := H6.out.1.2.2.2; omega) H6.out.1.2.1
        rw [hrf', H6.out.1.2.2.2] at hF8
        go_wp2_with fail
        refine hF8.mono ?_
        rintro e w9 ⟨rfl, hb9⟩
        have H9 : Hid (Below w.heap.size w w9) := H8.out.2.trans (hb9.mono H8.out.2.size)
        clear hb9 hF8
        go_wp2_with fail
        go_ret
        exact ⟨rfl, H9.out⟩
end Go.Proofs.YtemdocnhdnhliaaDoor
