/- search's run: so many steps, and why it ends. -/
import Derived.Test.YtnkfggccahohpaaDoorSeM
namespace Go.Proofs.YtnkfggccahohpaaDoor
open Go.RowKit Go.Extern

attribute [local go_sem] Oper.semAt_some

theorem least_unique {n : Nat} {f : Int → Option Int} {d e : Nat} {k j : Int} (h : Hp.Least n f d k) (g : Hp.Least n f e j) : d = e ∧ k = j := by
  have h1 := h.2.2 e j g.1 g.2.1
  have h2 := g.2.2 d k h.1 h.2.1
  unfold Hp.ltT at h1 h2
  simp only at h1 h2
  omega
/-- why a run ends. -/
def RunEnd (n : Nat) (se mo : Int) (t : Nat) (S : FS) : Prop := ¬ ((t : Int) < se) ∨ (∀ d : Nat, d < n → S.f (d : Int) = none) ∨ ∃ v k, Hp.Least n S.f v k ∧ mo < k
/-- how it begins. -/
def FS.begin (n : Nat) (S : FS) (s : Nat) : FS := (⟨List.replicate n none, S.hs, S.ah, fun _ => none⟩ : FS).lab s 0 0 s
theorem steps_le {n : Nat} {zs : List (Int × Int × Int)} {hb mo : Int} {s : Nat} {S0 : FS} (hz : Fine n zs) (h0 : SInv n zs hb s 0 S0) {t : Nat} {S : FS} (h : Steps n zs hb mo S0 t S) : t ≤ n := by
  cases t with
  | zero => omega
  | succ t =>
    obtain ⟨S1, v, k, h1, h2, _, _⟩ := h
    exact (steps_inv hz h0 t S1 h1).lt h2

set_option maxRecDepth 100000 in
set_option maxHeartbeats 8000000 in
theorem run_calls {B : Nat} {w : World} {n : Nat} {L : FL} {fo uo wo : Option Addr} {fc tc wc : Nat} {zs : List (Int × Int × Int)} {sv : Value} {S : FS} (hF : Fnd B w n L (.slice fo (n + 1) fc) (.slice uo zs.length tc) (.slice wo zs.length wc) sv S) (hB : B ≤ w.heap.size) (hz : Fine n zs) (hC : ∀ wx, Below B w wx → CsrIn wx n zs fo uo wo fc tc wc) (s : Nat) (hs : s < n) (hb se mo : Int) :
    Calls Tryd.prog 33 #[.pointer (some ⟨L.fi, 0, none⟩), .int .i64 s, .agg #[.int .i64 hb, .int .i64 se, .int .u64 mo]] w fun e w' => e = .returned (.tuple #[]) ∧ (∃ sv' t S', Fnd B w' n L (.slice fo (n + 1) fc) (.slice uo zs.length tc) (.slice wo zs.length wc) sv' S' ∧ Fx L sv sv' w w' ∧ Steps n zs hb mo (S.begin n s) t S' ∧ RunEnd n se mo t S') ∧ Below B w w' := by
  have hn := hz.few
  obtain ⟨l1, l2, l3, l4, l5, l6, l7⟩ := hF.lts
  obtain ⟨W0, hW0⟩ : ∃ W0, w.alloc (.cells #[.int .i64 hb, .int .i64 se, .int .u64 mo] 89) = W0 := ⟨_, rfl⟩
  have HW0 : Hid (w.alloc (.cells #[.int .i64 hb, .int .i64 se, .int .u64 mo] 89) = W0) := hW0
  have hB0 : Below w.heap.size w W0 := by rw [← hW0]; exact (Below.refl _ w).alloc (Nat.le_refl _) _
  have hbx : W0.heap[w.heap.size]? = some (.cells #[.int .i64 hb, .int .i64 se, .int .u64 mo] 89) := by rw [← hW0]; exact heap_new _ _
  have hown : sv.ownBlock ≠ some w.heap.size := fun e => by have := hF.hp.lt.2.2 _ e; omega
  have HBX : Hid (∀ (sv' : Value) (wx : World), Fx L sv sv' W0 wx → (wx.cell? ⟨w.heap.size, 0, none⟩ = some (.int .i64 hb) ∧ wx.cell? ⟨w.heap.size, 1, none⟩ = some (.int .i64 se) ∧ wx.cell? ⟨w.heap.size, 2, none⟩ = some (.int .u64 mo)) ∧ w.heap.size < wx.heap.size) := fun sv' wx h => by
    have hg := (h.block _ (lt_of_get hbx) (by omega) (by omega) (by omega) (by omega) (by omega) (by omega) hown).trans hbx
    exact ⟨box3 hg, lt_of_get hg⟩
  have F0 : Hid (Fnd B W0 n L (.slice fo (n + 1) fc) (.slice uo zs.length tc) (.slice wo zs.length wc) sv S) := hF.below hB0
  have HB0 : Hid (Below w.heap.size w W0 ∧ B ≤ W0.heap.size) := ⟨hB0, Nat.le_trans hB hB0.size⟩
  have HUP : Hid (∀ sv' wx, Fx L sv sv' W0 wx → Below B w wx ∧ B ≤ wx.heap.size ∧ Fx L sv sv' w wx) := fun sv' wx h => by
    have h1 := Fx.below F0.out h HB0.out.2
    have h2 : Below B w W0 := hB0.mono hB
    exact ⟨h2.trans h1, Nat.le_trans HB0.out.2 h1.size, (Fx.of_below hB0).trans h⟩
  have HC : Hid (type_of% hC) := hC
  have HZ : Hid (Fine n zs) := hz
  have HI0 : Hid (SInv n zs hb s 0 (S.begin n s)) := start_inv hs _ rfl rfl
  obtain ⟨k0, k1, k2, k3, k4, k5, k6⟩ := hF.box7
  have kl := hF.lts.1
  clear hF hC hz hW0 hB0 hbx hown l1 l2 l3 l4 l5 l6 l7
  have HRS : Hid (type_of% (St.reset_calls F0.out.st)) := St.reset_calls F0.out.st
  go_enter Tryd.func33, Tryd.ntmps33
  go_wp2_with fail
  rw [HW0.out]
  refine HRS.out.mono ?_
  rintro e w1 ⟨rfl, h1, h2⟩
  have F1 : Hid (Fnd B w1 n L (.slice fo (n + 1) fc) (.slice uo zs.length tc) (.slice wo zs.length wc) sv { S with vs := List.replicate n none } ∧ Fx L sv sv W0 w1) := ⟨F0.out.stamped h1 h2, Fx.ofSt h2⟩
  clear h1 h2 k0 k1 k2 k3 k4 k5 k6 kl HRS
  obtain ⟨k0, k1, k2, k3, k4, k5, k6⟩ := F1.out.1.box7
  have kl := F1.out.1.lts.1
  have HCL : Hid (type_of% (Hp.clear_calls F1.out.1.hp)) := Hp.clear_calls F1.out.1.hp
  go_wp2_with fail
  refine HCL.out.mono ?_
  rintro e w2 ⟨rfl, sv2, h1, h2⟩
  have F2 : Hid (Fnd B w2 n L (.slice fo (n + 1) fc) (.slice uo zs.length tc) (.slice wo zs.length wc) sv2 ⟨List.replicate n none, S.hs, S.ah, fun _ => none⟩ ∧ Fx L sv sv2 W0 w2) := ⟨F1.out.1.heaped h1 h2 (HUP.out _ _ F1.out.2).2.1, F1.out.2.trans (Fx.ofHp h2)⟩
  clear h1 h2 k0 k1 k2 k3 k4 k5 k6 kl HCL
  have HLB : Hid (type_of% (label_calls F2.out.1 (HUP.out _ _ F2.out.2).2.1 s hs 0 0 s)) := label_calls F2.out.1 (HUP.out _ _ F2.out.2).2.1 s hs 0 0 s
  go_wp2_with fail
  refine HLB.out.mono ?_
  rintro e w3 ⟨rfl, ⟨sv3, h1, h2⟩, _⟩
  have F3 : Hid (Fnd B w3 n L (.slice fo (n + 1) fc) (.slice uo zs.length tc) (.slice wo zs.length wc) sv3 (S.begin n s) ∧ Fx L sv sv3 W0 w3) := ⟨h1, F2.out.2.trans h2⟩
  clear h1 h2 HLB F1 F2
  go_wp2_with fail
  go_loopw [6] (fun iv wr => ∃ t : Nat, iv = .int .i64 t ∧ ∃ sv' S', Fnd B wr n L (.slice fo (n + 1) fc) (.slice uo zs.length tc) (.slice wo zs.length wc) sv' S' ∧ Fx L sv sv' W0 wr ∧ Steps n zs hb mo (S.begin n s) t S') (fun iv _ => n + 1 - (intOf iv).toNat)
  case atStart => exact ⟨0, rfl, sv3, _, F3.out.1, F3.out.2, rfl⟩
  case round =>
    obtain ⟨t, rfl, sv1, S1, hF1, hX1, hS1⟩ := hrel
    have G1 : Hid (Fnd B wr n L (.slice fo (n + 1) fc) (.slice uo zs.length tc) (.slice wo zs.length wc) sv1 S1 ∧ Fx L sv sv1 W0 wr ∧ Steps n zs hb mo (S.begin n s) t S1) := ⟨hF1, hX1, hS1⟩
    have HI : Hid (SInv n zs hb s t S1) := steps_inv HZ.out HI0.out t S1 hS1
    have htn : t ≤ n := steps_le HZ.out HI0.out hS1
    obtain ⟨⟨b0, b1, b2⟩, bl⟩ := HBX.out sv1 wr hX1
    obtain ⟨_, _, _, k3, k4, _, k6⟩ := hF1.box7
    have kl := hF1.lts.1
    have GE : Hid (RunEnd n se mo t S1 → (∃ sv' t S', Fnd B wr n L (.slice fo (n + 1) fc) (.slice uo zs.length tc) (.slice wo zs.length wc) sv' S' ∧ Fx L sv sv' w wr ∧ Steps n zs hb mo (S.begin n s) t S' ∧ RunEnd n se mo t S') ∧ Below B w wr) := fun h => ⟨⟨sv1, t, S1, G1.out.1, (HUP.out _ _ G1.out.2.1).2.2, G1.out.2.2, h⟩, (HUP.out _ _ G1.out.2.1).1⟩
    clear hF1 hX1 hS1
    by_cases hse : (t : Int) < se
    · by_cases hno : ∀ d : Nat, d < n → S1.f (d : Int) = none
      · have HTN : Hid (type_of% (Hp.top_none G1.out.1.hp hno)) := Hp.top_none G1.out.1.hp hno
        have GE2 : Hid (_ ∧ _) := GE.out (Or.inr (Or.inl hno))
        clear hno
        go_wp2_with fail
        refine HTN.out.mono ?_
        rintro e w4 ⟨rfl, rfl⟩
        go_wp2
        exact bodyPost_ret (v := .tuple #[]) (by simp [results, Tryd.results33]) rfl ⟨rfl, GE2.out.1, GE2.out.2⟩
      · obtain ⟨d0, hd0, hf0⟩ : ∃ d0 : Nat, d0 < n ∧ S1.f (d0 : Int) ≠ none := by
          rcases Classical.em (∃ d0 : Nat, d0 < n ∧ S1.f (d0 : Int) ≠ none) with h | h
          · exact h
          · exact absurd (fun d hd => Classical.byContradiction fun e => h ⟨d, hd, e⟩) hno
        have HD0 : Hid (d0 < n ∧ S1.f (d0 : Int) ≠ none) := ⟨hd0, hf0⟩
        have HTS : Hid (type_of% (Hp.top_some G1.out.1.hp d0 hd0 hf0)) := Hp.top_some G1.out.1.hp d0 hd0 hf0
        clear hno hd0 hf0
        go_wp2_with fail
        refine HTS.out.mono ?_
        rintro e w4 ⟨v, k, rfl, hL, hb4⟩
        have G4 : Hid (Fnd B w4 n L (.slice fo (n + 1) fc) (.slice uo zs.length tc) (.slice wo zs.length wc) sv1 S1 ∧ Fx L sv sv1 W0 w4 ∧ Hp.Least n S1.f v k) := ⟨G1.out.1.below hb4, G1.out.2.1.trans (Fx.of_below hb4), hL⟩
        have hvn : v < n := hL.1
        have hlab := HI.out.lab v k (HI.out.opn v k hL.1 hL.2.1)
        have hk1 : 0 ≤ k := hlab.1
        have hk2 : k ≤ 140737488355328 := by have h1 := hlab.2.1; have h2 := hlab.2.2.2.1; omega
        have hh1 : 0 ≤ S1.hs v := hlab.2.2.1
        have hh2 : S1.hs v ≤ 1000000 := by have h2 := hlab.2.2.2.1; omega
        clear hL hb4 b0 b1 b2 bl k3 k4 k6 kl hlab HTS
        obtain ⟨⟨b0, b1, b2⟩, bl⟩ := HBX.out sv1 w4 G4.out.2.1
        obtain ⟨_, _, _, k3, k4, _, k6⟩ := G4.out.1.box7
        have kl := G4.out.1.lts.1
        by_cases hmo : mo < k
        · have GE4 : Hid ((∃ sv' t S', Fnd B w4 n L (.slice fo (n + 1) fc) (.slice uo zs.length tc) (.slice wo zs.length wc) sv' S' ∧ Fx L sv sv' w w4 ∧ Steps n zs hb mo (S.begin n s) t S' ∧ RunEnd n se mo t S') ∧ Below B w w4) := ⟨⟨sv1, t, S1, G4.out.1, (HUP.out _ _ G4.out.2.1).2.2, G1.out.2.2, Or.inr (Or.inr ⟨v, k, G4.out.2.2, hmo⟩)⟩, (HUP.out _ _ G4.out.2.1).1⟩
          go_wp2
          exact bodyPost_ret (v := .tuple #[]) (by simp [results, Tryd.results33]) rfl ⟨rfl, GE4.out.1, GE4.out.2⟩
        · have HPP : Hid (type_of% (Hp.pop_some G4.out.1.hp d0 HD0.out.1 HD0.out.2)) := Hp.pop_some G4.out.1.hp d0 HD0.out.1 HD0.out.2
          go_wp2_with fail
          refine HPP.out.mono ?_
          rintro e w5 ⟨v', k', rfl, hL', sv5, h1, h2⟩
          obtain ⟨rfl, rfl⟩ := least_unique G4.out.2.2 hL'
          have G5 : Hid (Fnd B w5 n L (.slice fo (n + 1) fc) (.slice uo zs.length tc) (.slice wo zs.length wc) sv5 (S1.pop v) ∧ Fx L sv sv5 W0 w5) := ⟨G4.out.1.heaped h1 h2 (HUP.out _ _ G4.out.2.1).2.1, G4.out.2.1.trans (Fx.ofHp h2)⟩
          clear hL' h1 h2 b0 b1 b2 bl k3 k4 k6 kl HPP
          obtain ⟨⟨b0, b1, b2⟩, bl⟩ := HBX.out sv5 w5 G5.out.2
          obtain ⟨_, _, _, k3, k4, _, k6⟩ := G5.out.1.box7
          have kl := G5.out.1.lts.1
          have q0 := G5.out.1.hops.cell hvn
          have ql := G5.out.1.lts.2.2.2.1
          have q0' : w5.cell? ⟨L.kb, v, none⟩ = some (.int .i64 (S1.hs v)) := q0
          have i1 : (v : Int) < (n : Int) := by omega
          have i2 : (0 : Int) ≤ (v : Int) := by omega
          have i3 : IntKind.i64.wrap (v : Int) = (v : Int) := by rw [IntKind.wrap_i64] <;> omega
          have HHS : Hid (∃ h, S1.hs v = h) := ⟨_, rfl⟩
          obtain ⟨h, hh⟩ := HHS.out
          rw [hh] at q0' hh1 hh2
          have HH : Hid (S1.hs v = h ∧ t < n) := ⟨hh, HI.out.lt G4.out.2.2⟩
          have htl : t < n := HH.out.2
          clear hh q0 HHS
          by_cases hlt : h < hb
          · go_wp2_with fail
            go_quiet (fail)
            have G6 : Hid (Fnd B (w5.drewN nq) n L (.slice fo (n + 1) fc) (.slice uo zs.length tc) (.slice wo zs.length wc) sv5 (S1.pop v) ∧ Fx L sv sv5 W0 (w5.drewN nq)) := ⟨G5.out.1.keep fun _ _ _ => rfl, G5.out.2.trans (Fx.of_below (below_drewN (Below.refl _ _) nq))⟩
            generalize w5.drewN nq = w6 at *
            clear b0 b1 b2 bl k3 k4 k6 kl q0' ql
            obtain ⟨u1, u2, u3⟩ := HUP.out _ _ G6.out.2
            have HLK : Hid (type_of% (lookFrom_calls G6.out.1 u2 HZ.out (fun wx hx => HC.out wx (u1.trans hx)) v hvn k h hk1 hk2 HH.out.1 hh1 hh2)) := lookFrom_calls G6.out.1 u2 HZ.out (fun wx hx => HC.out wx (u1.trans hx)) v hvn k h hk1 hk2 HH.out.1 hh1 hh2
            clear u1 u2 u3
            go_wp2_with fail
            refine HLK.out.mono ?_
            rintro e w7 ⟨rfl, ⟨sv7, h1, h2⟩, _⟩
            have G7 : Hid (Fnd B w7 n L (.slice fo (n + 1) fc) (.slice uo zs.length tc) (.slice wo zs.length wc) sv7 (S1.step zs hb v k) ∧ Fx L sv sv7 W0 w7) := ⟨by unfold FS.step; rw [HH.out.1, if_pos hlt]; exact h1, G6.out.2.trans h2⟩
            clear h1 h2 HLK
            go_wp2
            go_roundw
            case rel => exact ⟨t + 1, by go_num, sv7, _, G7.out.1, G7.out.2, S1, v, k, G1.out.2.2, G4.out.2.2, by omega, rfl⟩
            case measure => simp [intOf]; omega
          · go_wp2_with fail
            go_quiet (fail)
            have G6 : Hid (Fnd B (w5.drewN nq) n L (.slice fo (n + 1) fc) (.slice uo zs.length tc) (.slice wo zs.length wc) sv5 (S1.step zs hb v k) ∧ Fx L sv sv5 W0 (w5.drewN nq)) := ⟨by unfold FS.step; rw [HH.out.1, if_neg (by omega)]; exact G5.out.1.keep fun _ _ _ => rfl, G5.out.2.trans (Fx.of_below (below_drewN (Below.refl _ _) nq))⟩
            go_wp2
            go_roundw
            case rel => exact ⟨t + 1, by go_num, sv5, _, G6.out.1, G6.out.2, S1, v, k, G1.out.2.2, G4.out.2.2, by omega, rfl⟩
            case measure => simp [intOf]; omega
    · have GE2 : Hid (_ ∧ _) := GE.out (Or.inl hse)
      go_wp2
      go_end0
      exact ⟨rfl, GE2.out.1, GE2.out.2⟩
end Go.Proofs.YtnkfggccahohpaaDoor
