/- check sums: the law CrcPieces, walked, where both lists together are no longer than memory bears. -/
import Derived.Test.YtemdocnhdnhliaaDoorCrI
namespace Go.Proofs.YtemdocnhdnhliaaDoor
open Go.RowKit Go.Extern Cr

attribute [local go_sem] Oper.semAt_some u32_signed u32_max

set_option maxRecDepth 100000 in
set_option maxHeartbeats 1000000 in
theorem pieces_calls (c : Nat) (hc : c < 4294967296) (lo ro : Option Addr) (lc rc : Nat) (l r : List Nat) (w : World) (hf : HasFours w) (hg : 0 < w.heap.size) (hl : HasB w (.slice lo l.length lc) l) (hr : HasB w (.slice ro r.length rc) r) (hb : Bts l) (hb' : Bts r) (hm : l.length + r.length ≤ 140737488351232) (hcn : lo = none → lc = 0) (hcn' : ro = none → rc = 0) :
    Calls Tryd.prog 5 #[.int .u32 (c : Int), .slice lo l.length lc, .slice ro r.length rc] w fun e w' => e = .returned (.bool true) ∧ Below w.heap.size w w' := by
  have H0 : Hid (Held w lo lc l) := held_of hf hg hl
  have H0' : Hid (Held w ro rc r) := held_of hf hg hr
  have HA := awake17_calls w hf hg
  have HC : Hid (((lo = none → lc = 0) ∧ Bts l) ∧ (ro = none → rc = 0) ∧ Bts r) := ⟨⟨hcn, hb⟩, hcn', hb'⟩
  have hu1 : upd c l < 4294967296 := upd_lt hc hb
  have hu2 : upd 0 l < 4294967296 := upd_lt (by omega) hb
  have hu3 : upd 0 r < 4294967296 := upd_lt (by omega) hb'
  have E1 : Hid (upd (upd c l) r = upd c (l ++ r)) := upd_append c l r
  have E2 : Hid (joinN (upd 0 l) (upd 0 r) r.length = upd 0 (l ++ r)) := join_sum l r hb'
  have hlr : (l ++ r).length = l.length + r.length := List.length_append
  clear hl hr hf hcn hcn' hb hb'
  go_enter Tryd.func5, Tryd.ntmps5
  go_wp2_with (first
    | (go_at_call 9; refine HA.mono ?_; rintro e w1 ⟨rfl, hb1⟩; have H1 : Hid (Below w.heap.size w w1) := hb1; clear hb1)
    | (at_builtin; refine wpList_append_B rfl _ _ rfl w1.heap.size (.slice none 0 0) [] rfl (World.ownsRow_nil _ _ _ _) lo lc l rfl (H0.out w1 H1.out).2.2 HC.out.1.1 (by simp only [List.length_nil]; omega) (Nat.le_refl _) ?_; intro v2 w2 hown2 hgr2; have H2 : Hid (w2.ownsRow w1.heap.size 5 1 v2 l.length (bv l) ∧ Below w1.heap.size w1 w2) := (by refine ⟨?_, bbelow_grown (Below.refl _ _) (World.ownsRow_nil _ _ _ _) hgr2 (Nat.le_refl _)⟩; simpa using hown2); clear hown2 hgr2; obtain ⟨so, sc, hv2⟩ := bown_slice H2.out.1; subst hv2)
    | (at_builtin; refine wpList_append_B rfl _ _ rfl w1.heap.size (.slice so l.length sc) l rfl H2.out.1 ro rc r rfl (H0'.out w2 (H1.out.trans (H2.out.2.mono H1.out.size))).2.2 HC.out.2.1 (by omega) H2.out.2.size ?_; intro v3 w3 hown3 hgr3; have H3 : Hid (w3.ownsRow w1.heap.size 5 1 v3 (l.length + r.length) (bv (l ++ r)) ∧ Below w.heap.size w w3) := (by refine ⟨?_, H1.out.trans ((bbelow_grown H2.out.2 H2.out.1 hgr3 H2.out.2.size).mono H1.out.size)⟩; rw [List.length_append] at hown3; exact hown3); clear hown3 hgr3; obtain ⟨to, tc, hv3⟩ := bown_slice H3.out.1; subst hv3))
  have HB3 : Hid (HasB w3 (.slice to (l ++ r).length tc) (l ++ r)) := by
    have h := H3.out.1
    rw [← hlr] at h
    exact hasB_own h
  have U1 := cUpdate_calls c hc lo lc l w3 (H0.out w3 H3.out.2).1 (H0.out w3 H3.out.2).2.2 HC.out.1.2 (by omega)
  have U2 := cUpdate_calls (upd c l) hu1 ro rc r w3 (H0.out w3 H3.out.2).1 (H0'.out w3 H3.out.2).2.2 HC.out.2.2 (by omega)
  have U3 := cUpdate_calls c hc to tc (l ++ r) w3 (H0.out w3 H3.out.2).1 HB3.out (HC.out.1.2.app HC.out.2.2) (by omega)
  have S1 := cSum_calls lo lc l w3 (H0.out w3 H3.out.2).1 (H0.out w3 H3.out.2).2.2 HC.out.1.2 (by omega)
  have S2 := cSum_calls ro rc r w3 (H0.out w3 H3.out.2).1 (H0'.out w3 H3.out.2).2.2 HC.out.2.2 (by omega)
  have S3 := cSum_calls to tc (l ++ r) w3 (H0.out w3 H3.out.2).1 HB3.out (HC.out.1.2.app HC.out.2.2) (by omega)
  have J := cJoin_calls (upd 0 l) (upd 0 r) hu2 hu3 r.length (by omega) w3
  rw [E1.out] at U2
  rw [E2.out] at J
  rw [hlr] at U3 S3
  clear E1 E2 HB3
  generalize upd c (l ++ r) = s3 at U2 U3
  generalize upd 0 (l ++ r) = s6 at J S3
  generalize upd c l = s1 at *
  generalize upd 0 l = s4 at *
  generalize upd 0 r = s5 at *
  refine U1.mono ?_
  rintro e w4 ⟨rfl, rfl⟩
  go_wp2_with fail
  refine U2.mono ?_
  rintro e w5 ⟨rfl, rfl⟩
  go_wp2_with fail
  refine U3.mono ?_
  rintro e w6 ⟨rfl, rfl⟩
  go_wp2_with fail
  refine S1.mono ?_
  rintro e w7 ⟨rfl, rfl⟩
  go_wp2_with fail
  refine S2.mono ?_
  rintro e w8 ⟨rfl, rfl⟩
  go_wp2_with fail
  refine J.mono ?_
  rintro e w9 ⟨rfl, rfl⟩
  go_wp2_with fail
  refine S3.mono ?_
  rintro e w10 ⟨rfl, rfl⟩
  go_wp2_with fail
  go_ret
  exact ⟨rfl, H3.out.2⟩
end Go.Proofs.YtemdocnhdnhliaaDoor
