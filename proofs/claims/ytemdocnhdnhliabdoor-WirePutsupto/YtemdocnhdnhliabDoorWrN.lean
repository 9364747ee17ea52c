/- the law WirePuts, walked, where both lists together are no longer than memory bears. -/
import Derived.Test.YtemdocnhdnhliabDoorWrL
namespace Go.Proofs.YtemdocnhdnhliabDoor
open Go.RowKit Go.Extern Cr

attribute [local go_sem] Oper.semAt_some

theorem hasB_none (w : World) : HasB w (.slice none ([] : List Nat).length 0) [] := ⟨none, 0, rfl, fun j a hj => by simp at hj⟩
/-- what both answers have in common: one list, one error. -/
theorem puts_both {w w2 w3 w4 : World} {l : List Nat} {v : Nat} {n : Int} {e3 e4 : Ending} (hb3 : Below w.heap.size w w2) (h3 : PutIs w2 l v n e3 w3) (h4 : DocPutIs w3 l v n e4 w4) : Below w.heap.size w w4 ∧ ∃ (ao bo : Option Addr) (ac bc k : Nat) (L : List Nat) (C : Int) (ev : Value), L.length = k ∧ e3 = .returned (.tuple #[.slice ao k ac, ev]) ∧ e4 = .returned (.tuple #[.slice bo k bc, .agg #[.int .i64 C, .slice none 0 0]]) ∧ HasB w4 (.slice ao L.length ac) L ∧ HasB w4 (.slice bo L.length bc) L ∧ (∀ wx, IsTold wx (C, []) ev) := by
  obtain ⟨hb4, h4⟩ := h4
  rcases h3 with ⟨g1, g2, gv, g, he3, hR⟩ | ⟨gn, he3, rfl⟩ | ⟨g1, g2, gv, he3, rfl⟩
  · have hw3 := hR.below
    refine ⟨hb3.trans ((hw3.trans (hb4.mono hw3.size)).mono hb3.size), ?_⟩
    rcases h4 with ⟨_, _, _, mo, mc, he4, hB⟩ | ⟨h, _⟩ | ⟨_, _, h, _⟩
    · exact ⟨_, mo, _, mc, l.length + n.toNat, l ++ leN v n.toNat, 0, .nilIface, by rw [List.length_append, leN_len], he3, he4, hR.has.keep hb4, hB, fun _ => Or.inl ⟨rfl, rfl⟩⟩
    · omega
    · omega
  · refine ⟨hb3.trans (hb4.mono hb3.size), ?_⟩
    rcases h4 with ⟨_, _, _, mo, mc, he4, hB⟩ | ⟨_, he4⟩ | ⟨_, _, _, _⟩
    · omega
    · exact ⟨none, none, 0, 0, 0, [], 1, _, rfl, he3, he4, hasB_none _, hasB_none _, fun wx => Or.inr ⟨by show (1 : Int) ≠ 0; omega, rfl⟩⟩
    · omega
  · refine ⟨hb3.trans (hb4.mono hb3.size), ?_⟩
    rcases h4 with ⟨_, _, h, _⟩ | ⟨h, _⟩ | ⟨_, _, _, he4⟩
    · omega
    · omega
    · exact ⟨none, none, 0, 0, 0, [], 9, _, rfl, he3, he4, hasB_none _, hasB_none _, fun wx => Or.inr ⟨by show (9 : Int) ≠ 0; omega, rfl⟩⟩

set_option maxRecDepth 100000 in
set_option maxHeartbeats 2000000 in
theorem puts_calls (lo ro : Option Addr) (lc rc : Nat) (l ws : List Nat) (v : Nat) (hv : v < 18446744073709551616) (n : Int) (w : World) (hg : HasType w) (hl : HasB w (.slice lo l.length lc) l) (hr : HasW w (.slice ro ws.length rc) ws) (hm : l.length ≤ 1048576) (hwm : ws.length ≤ 1048576) (hc : lo = none → lc = 0) (hw : ∀ x ∈ ws, x < 4294967296) :
    Calls Tryd.prog 4 #[.slice lo l.length lc, .int .u64 (v : Int), .int .i64 n, .slice ro ws.length rc] w fun e w' => e = .returned (.bool true) ∧ Below w.heap.size w w' := by
  have HA := awake18_calls w
  have HL : Hid ((HasB w (.slice lo l.length lc) l ∧ (lo = none → lc = 0)) ∧ HasW w (.slice ro ws.length rc) ws ∧ ∀ x ∈ ws, x < 4294967296) := ⟨⟨hl, hc⟩, hr, hw⟩
  have HV : Hid (v < 18446744073709551616) := hv
  have HG : Hid (∀ wx, Below w.heap.size w wx → HasType wx) := fun wx h => hg.keep h hg.pos
  clear hl hr hc hw hv hg
  go_enter Tryd.func4, Tryd.ntmps4
  go_wp2_with (go_at_call 11; refine HA.mono ?_; rintro e w1 ⟨rfl, hb1⟩; have H1 : Hid (Below w.heap.size w w1) := hb1; clear hb1)
  refine (twin18 HL.out.1.1 H1.out (by omega) HL.out.1.2).mono ?_
  rintro e w2 ⟨mo, mc, rfl, hB, hb⟩
  have H2 : Hid ((HasB w2 (.slice mo l.length mc) l ∧ (mo = none → mc = 0)) ∧ Below w.heap.size w w2) := ⟨⟨hB.1, hB.2.2⟩, hb⟩
  clear hB hb
  go_wp2_with fail
  -- the answer of Put, kept as it is until the reference has answered
  refine (put_calls mo mc l v HV.out n w2 H2.out.1.1 (by omega) H2.out.1.2).mono ?_
  intro e3 w3 h3
  have hret : ∃ ao ac k ev, e3 = .returned (.tuple #[.slice ao k ac, ev]) ∧ Below w2.heap.size w2 w3 := by
    rcases h3 with ⟨_, _, _, g, he, hR⟩ | ⟨_, he, rfl⟩ | ⟨_, _, _, he, rfl⟩
    · exact ⟨_, _, _, _, he, hR.below⟩
    · exact ⟨_, _, _, _, he, Below.refl _ _⟩
    · exact ⟨_, _, _, _, he, Below.refl _ _⟩
  obtain ⟨ao, ac, k, ev, rfl, hb3⟩ := hret
  have H3 : Hid (PutIs w2 l v n (.returned (.tuple #[.slice ao k ac, ev])) w3 ∧ Below w.heap.size w w3) := ⟨h3, H2.out.2.trans (hb3.mono H2.out.2.size)⟩
  clear h3 hb3
  show _
  go_wp2_with fail
  refine (docPut_calls lo lc l v HV.out n w3 (HL.out.1.1.keep H3.out.2) hm HL.out.1.2).mono ?_
  intro e4 w4 h4
  obtain ⟨hb4, ao', bo, ac', bc, k', L, C, ev', hLk, he3, rfl, hB1, hB2, hT⟩ := puts_both H2.out.2 H3.out.1 h4
  injection he3 with he3
  injection he3 with he3
  injection he3 with he3
  injection he3 with he3 he5
  injection he5 with he5
  injection he3 with x1 x2 x3
  subst x1 x2 x3 he5 hLk
  have H4 : Hid ((HasB w4 (.slice ao L.length ac) L ∧ HasB w4 (.slice bo L.length bc) L) ∧ Below w.heap.size w w4) := ⟨⟨hB1, hB2⟩, hb4⟩
  have HTo : Hid (∀ wx, IsTold wx (C, []) ev) := hT
  clear hb4 hB1 hB2 hT h4 H3
  show _
  go_wp2_with fail
  have hN : (w4.alloc (.cells #[.int .i64 C, .slice none 0 0] 37)).heap[w4.heap.size]? = some (.cells #[.int .i64 C, .slice none 0 0] 37) := heap_new _ _
  have hbN : Below w4.heap.size w4 (w4.alloc (.cells #[.int .i64 C, .slice none 0 0] 37)) := (Below.refl _ _).alloc (Nat.le_refl _) _
  generalize w4.alloc (.cells #[.int .i64 C, .slice none 0 0] 37) = w5 at *
  have H5 : Hid ((HasB w5 (.slice ao L.length ac) L ∧ HasB w5 (.slice bo L.length bc) L) ∧ Below w.heap.size w w5) := ⟨⟨H4.out.1.1.keep hbN, H4.out.1.2.keep hbN⟩, H4.out.2.trans (hbN.mono H4.out.2.size)⟩
  obtain ⟨d0, d1⟩ : w5.cell? ⟨w4.heap.size, 0, none⟩ = some (.int .i64 C) ∧ w5.cell? ⟨w4.heap.size, 1, none⟩ = some (.slice none 0 0) := by simp [World.cell?, hN]
  have dl := b_lt_get hN
  clear hN hbN H4
  refine (kSame_calls ao bo ac bc L w5 H5.out.1.1 H5.out.1.2).mono ?_
  rintro e w6 ⟨rfl, rfl⟩
  have hSe := seen_told (C, []) ev none 0 w6 (HTo.out w6) ⟨none, 0, rfl, fun j p hj => by simp at hj⟩ (by show 0 ≤ maxLen; omega) (HG.out w6 H5.out.2)
  go_wp2_with fail
  refine hSe.mono ?_
  rintro e w7 ⟨rfl, hb7⟩
  have H7 : Hid (Below w.heap.size w w7) := H5.out.2.trans (hb7.mono H5.out.2.size)
  clear hb7 hSe d0 d1 dl H5
  go_wp2_with fail
  refine (twin18 HL.out.1.1 H7.out (by omega) HL.out.1.2).mono ?_
  rintro e wA ⟨so, sc, rfl, hB, hb⟩
  have HA1 : Hid ((HasB wA (.slice so l.length sc) l ∧ (so = none → sc = 0)) ∧ Below w.heap.size w wA) := ⟨⟨hB.1, hB.2.2⟩, hb⟩
  clear hB hb
  go_wp2_with fail
  refine (twinW_calls ro rc ws wA (HL.out.2.1.keep HA1.out.2) (by omega)).mono ?_
  rintro e wB ⟨to, tc, rfl, ho, hb⟩
  have HB1 : Hid ((HasB wB (.slice so l.length sc) l ∧ HasW wB (.slice to ws.length tc) ws) ∧ Below w.heap.size w wB) := ⟨⟨HA1.out.1.1.keep hb, hasW_own ho⟩, HA1.out.2.trans (hb.mono HA1.out.2.size)⟩
  clear ho hb
  go_wp2_with fail
  refine (putWords_calls so to sc tc l ws wB HB1.out.1.1 HB1.out.1.2 (by omega) (by omega) HA1.out.1.2 HL.out.2.2).mono ?_
  rintro e wC ⟨gC, rfl, hR⟩
  have HC1 : Hid ((HasB wC (.slice (some ⟨gC, 0, none⟩) (l ++ bytesOf ws).length (l.length + 4 * ws.length)) (l ++ bytesOf ws)) ∧ Below w.heap.size w wC) := ⟨hR.has, HB1.out.2.trans (hR.below.mono HB1.out.2.size)⟩
  clear hR
  go_wp2_with fail
  refine (vPutWords_calls lo ro lc rc l ws wC (HL.out.1.1.keep HC1.out.2) (HL.out.2.1.keep HC1.out.2) (by omega) HL.out.1.2 HL.out.2.2).mono ?_
  rintro e wD ⟨no, nc, rfl, ho, hb⟩
  have hlen : (l ++ bytesOf ws).length = l.length + 4 * ws.length := by rw [List.length_append, bytesOf_len]
  have hBD : HasB wD (.slice no (l ++ bytesOf ws).length nc) (l ++ bytesOf ws) := by rw [← hlen] at ho; exact hasB_own ho
  have HD1 : Hid ((HasB wD (.slice (some ⟨gC, 0, none⟩) (l ++ bytesOf ws).length (l.length + 4 * ws.length)) (l ++ bytesOf ws) ∧ HasB wD (.slice no (l ++ bytesOf ws).length nc) (l ++ bytesOf ws)) ∧ Below w.heap.size w wD) := ⟨⟨HC1.out.1.keep hb, hBD⟩, HC1.out.2.trans (hb.mono HC1.out.2.size)⟩
  clear ho hb hBD
  have hSm := kSame_calls (some ⟨gC, 0, none⟩) no (l.length + 4 * ws.length) nc (l ++ bytesOf ws) wD HD1.out.1.1 HD1.out.1.2
  rw [hlen] at hSm
  clear hlen
  go_wp2_with fail
  refine hSm.mono ?_
  rintro e wE ⟨rfl, rfl⟩
  go_wp2_with fail
  go_ret
  exact ⟨rfl, HD1.out.2⟩
end Go.Proofs.YtemdocnhdnhliabDoor
