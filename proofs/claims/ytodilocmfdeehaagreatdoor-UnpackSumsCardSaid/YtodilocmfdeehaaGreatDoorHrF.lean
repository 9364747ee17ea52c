/- rows of links with where they stand; hier.checkMaking. -/
import Derived.Test.YtodilocmfdeehaaGreatDoorHrE
import Derived.Deep.DeepCutAuto
import Derived.Deep.RegionHeld3
import Derived.Deep.RegionWith
import Derived.BigQuiet
namespace Go.Proofs.YtodilocmfdeehaaGreatDoor.Hi
open Go.RowKit Go.Extern Go.Shelf

attribute [local go_sem] Oper.semAt_some

def Sd.ok (s : Sd) : Prop := s.lk.ok ∧ s.rk < 4294967296
/-- six cells of a row. -/
def SixAt (w : World) (b o : Nat) (s : Sd) : Prop :=
  w.cell? ⟨b, o, none⟩ = some (.int .u32 (s.lk.hd : Int)) ∧ w.cell? ⟨b, o + 1, none⟩ = some (.int .u64 (s.lk.wt : Int)) ∧ w.cell? ⟨b, o + 2, none⟩ = some (.int .u32 (s.lk.lf : Int)) ∧ w.cell? ⟨b, o + 3, none⟩ = some (.int .u32 (s.lk.rt : Int)) ∧ w.cell? ⟨b, o + 4, none⟩ = some (.int .u32 (s.rk : Int)) ∧ w.cell? ⟨b, o + 5, none⟩ = some (.bool s.up)
theorem SixAt.keep {w w' : World} {b o B : Nat} {s : Sd} (h : SixAt w b o s) (hb : Below B w w') (hl : b < B) : SixAt w' b o s := by
  obtain ⟨h0, h1, h2, h3, h4, h5⟩ := h
  exact ⟨(hb.cell (p := ⟨b, _, none⟩) hl).trans h0, (hb.cell (p := ⟨b, _, none⟩) hl).trans h1, (hb.cell (p := ⟨b, _, none⟩) hl).trans h2, (hb.cell (p := ⟨b, _, none⟩) hl).trans h3, (hb.cell (p := ⟨b, _, none⟩) hl).trans h4, (hb.cell (p := ⟨b, _, none⟩) hl).trans h5⟩
/-- standing links in memory. -/
def HasSs (w : World) (lv : Value) (L : List Sd) : Prop :=
  ∃ ao cap, lv = .slice ao L.length cap ∧ L.length ≤ cap ∧ ∀ (j : Nat) (s : Sd), L[j]? = some s → s.ok ∧ ∃ b off, ao = some ⟨b, off, none⟩ ∧ b < w.heap.size ∧ SixAt w b (off + j * 6) s
theorem HasSs.keep {w w' : World} {lv : Value} {L : List Sd} (h : HasSs w lv L) (hb : Below w.heap.size w w') : HasSs w' lv L := by
  obtain ⟨ao, cap, e, hcap, hc⟩ := h
  refine ⟨ao, cap, e, hcap, fun j a hj => ?_⟩
  obtain ⟨g, b, off, ea, hl, h0⟩ := hc j a hj
  exact ⟨g, b, off, ea, Nat.lt_of_lt_of_le hl hb.size, h0.keep hb hl⟩
theorem HasSs.at {w : World} {ao : Option Addr} {n cap : Nat} {L : List Sd} (h : HasSs w (.slice ao n cap) L) {j : Nat} {s : Sd} (hj : L[j]? = some s) : s.ok ∧ ∃ b off, ao = some ⟨b, off, none⟩ ∧ b < w.heap.size ∧ SixAt w b (off + j * 6) s := by
  obtain ⟨ao', cap', e, _, hc⟩ := h
  injection e with e1 e2 e3
  subst e1
  exact hc j s hj
def sixC (s : Sd) : Array Value := #[.int .u32 (s.lk.hd : Int), .int .u64 (s.lk.wt : Int), .int .u32 (s.lk.lf : Int), .int .u32 (s.lk.rt : Int), .int .u32 (s.rk : Int), .bool s.up]
theorem six_of {w : World} {b : Nat} {T : TypeId} {s : Sd} (h : w.heap[b]? = some (.cells (sixC s) T)) : SixAt w b 0 s := by
  unfold SixAt
  simp [World.cell?, h, sixC]
/-- an error's number as an answer. -/
def numV (c : Int) : Value := if c = 0 then .nilIface else .iface 61 (.int .i64 c)
theorem numV_num {c : Int} (h : c ≠ 0) : numV c = .iface 61 (.int .i64 c) := by unfold numV; rw [if_neg h]

set_option maxRecDepth 100000 in
set_option maxHeartbeats 4000000 in
theorem making_plain (s : Sd) (lv : Value) (hlv : ∃ o k c, lv = .slice o k c) (all : List Sd) (w : World) (hp : s.lk.plain = true) :
    Calls Tryz.prog 87 #[svl s, lv] w fun e w' => e = .returned (numV (making s all)) ∧ Below w.heap.size w w' := by
  have HM : Hid (making s all = if 2147483647 < s.lk.wt then 8 else 0) := by show _ = _; rw [making, if_pos hp]
  obtain ⟨lo, ln, lc, rfl⟩ := hlv
  have HPL : Hid (∀ wx, Calls Tryz.prog 105 #[lvl s.lk] wx fun e w' => e = .returned (.bool true) ∧ Below wx.heap.size wx w') := fun wx => by have := plain_calls s.lk wx; rwa [hp] at this
  clear hp
  obtain ⟨⟨hd, wt, lf, rt⟩, rk, up⟩ := s
  unfold svl
  dsimp only [lvl] at HPL ⊢
  dsimp only at HM
  obtain ⟨W0, hW0⟩ : ∃ W0, w.alloc (.cells #[.int .u32 (hd : Int), .int .u64 (wt : Int), .int .u32 (lf : Int), .int .u32 (rt : Int), .int .u32 (rk : Int), .bool up] 152) = W0 := ⟨_, rfl⟩
  have HW0 : Hid (w.alloc (.cells #[.int .u32 (hd : Int), .int .u64 (wt : Int), .int .u32 (lf : Int), .int .u32 (rt : Int), .int .u32 (rk : Int), .bool up] 152) = W0) := hW0
  have H0 : Hid (W0.cell? ⟨w.heap.size, 1, none⟩ = some (.int .u64 (wt : Int)) ∧ w.heap.size < W0.heap.size ∧ Below w.heap.size w W0) := by
    rw [← hW0]
    exact ⟨(six_of (s := ⟨⟨hd, wt, lf, rt⟩, rk, up⟩) (heap_newW w _)).2.1, by simp, (Below.refl _ _).alloc (Nat.le_refl _) _⟩
  clear hW0
  go_enter Tryz.func87, Tryz.ntmps87
  go_wp2_with fail
  rw [HW0.out]
  refine (HPL.out W0).mono ?_
  rintro e w1 ⟨rfl, hb⟩
  have c1 := (hb.cell (p := ⟨w.heap.size, 1, none⟩) H0.out.2.1).trans H0.out.1
  have HB : Hid (Below w.heap.size w w1) := H0.out.2.2.trans (hb.mono (by have := H0.out.2.1; omega))
  clear hb
  by_cases hw : 2147483647 < wt
  · have d1 : decide ((2147483647 : Int) < (wt : Int)) = true := by simp; omega
    go_wp2
    go_ret
    exact ⟨by rw [HM.out, if_pos hw]; rfl, HB.out⟩
  · have d1 : decide ((2147483647 : Int) < (wt : Int)) = false := by simp; omega
    go_wp2
    go_ret
    exact ⟨by rw [HM.out, if_neg hw]; rfl, HB.out⟩

/-- two new boxes. -/
def TwoBox (W1 : World) (L R : Sd) (c d : Value) (wx : World) : Prop :=
  ∃ p q, c = .pointer (some ⟨p, 0, none⟩) ∧ d = .pointer (some ⟨q, 0, none⟩) ∧ wx.heap[p]? = some (.cells (sixC L) 152) ∧ wx.heap[q]? = some (.cells (sixC R) 152) ∧ W1.heap.size ≤ p ∧ W1.heap.size ≤ q ∧ Below W1.heap.size W1 wx
theorem two_a (W1 : World) (L R : Sd) : TwoBox W1 L R (.pointer (some ⟨W1.heap.size, 0, none⟩)) (.pointer (some ⟨W1.heap.size + 1, 0, none⟩)) ((W1.alloc (.cells (sixC L) 152)).alloc (.cells (sixC R) 152)).drew := by
  refine ⟨_, _, rfl, rfl, ?_, ?_, Nat.le_refl _, by omega, (((Below.refl _ _).alloc (Nat.le_refl _) _).alloc (by simp) _).drew⟩
  · exact (Below.heap_alloc _ _ _ (by simp)).trans (heap_newW _ _)
  · have g := heap_newW (W1.alloc (.cells (sixC L) 152)) (.cells (sixC R) 152)
    rw [World.size_alloc] at g
    exact g
theorem two_b (W1 : World) (L R : Sd) : TwoBox W1 L R (.pointer (some ⟨W1.heap.size + 1, 0, none⟩)) (.pointer (some ⟨W1.heap.size, 0, none⟩)) ((W1.alloc (.cells (sixC R) 152)).alloc (.cells (sixC L) 152)).drew := by
  refine ⟨_, _, rfl, rfl, ?_, ?_, by omega, Nat.le_refl _, (((Below.refl _ _).alloc (Nat.le_refl _) _).alloc (by simp) _).drew⟩
  · have g := heap_newW (W1.alloc (.cells (sixC R) 152)) (.cells (sixC L) 152)
    rw [World.size_alloc] at g
    exact g
  · exact (Below.heap_alloc _ _ _ (by simp)).trans (heap_newW _ _)
set_option maxRecDepth 100000 in
set_option maxHeartbeats 4000000 in
theorem making_short (s : Sd) (ao : Option Addr) (n cap : Nat) (all : List Sd) (w : World) (hs : s.ok) (hp : s.lk.plain = false) (hA : HasSs w (.slice ao n cap) all) (hn : all.length = n) :
    Calls Tryz.prog 87 #[svl s, .slice ao n cap] w fun e w' => e = .returned (numV (making s all)) ∧ Below w.heap.size w w' := by
  have HM : Hid (making s all = if n ≤ s.lk.lf ∨ n ≤ s.lk.rt then 14
    else if (sd all s.lk.lf).up = true ∨ (sd all s.lk.rt).up = false ∨ (sd all s.lk.lf).rk ≠ (sd all s.lk.rt).rk ∨ (sd all s.lk.lf).tail ≠ s.tail ∨ (sd all s.lk.rt).head ≠ s.head then 14
    else if 140737488355328 < max s.lk.wt (max (sd all s.lk.lf).lk.wt (sd all s.lk.rt).lk.wt) ∨ s.lk.wt ≠ (sd all s.lk.lf).lk.wt + (sd all s.lk.rt).lk.wt then 8 else 0) := by
    show _ = _
    rw [making, if_neg (by rw [hp]; simp), hn]
  have HPL : Hid (∀ wx, Calls Tryz.prog 105 #[lvl s.lk] wx fun e w' => e = .returned (.bool false) ∧ Below wx.heap.size wx w') := fun wx => by have := plain_calls s.lk wx; rwa [hp] at this
  obtain ⟨mk, hmk⟩ : ∃ mk, making s all = mk := ⟨_, rfl⟩
  rw [hmk] at HM ⊢
  clear hmk
  have HA : Hid (HasSs w (.slice ao n cap) all) := hA
  have HN : Hid (all.length = n) := hn
  have HS : Hid s.ok := hs
  clear hp hA hn
  obtain ⟨s0, hs0⟩ : ∃ s0, s0 = s := ⟨_, rfl⟩
  have HS0 : Hid (s0 = s) := hs0
  rw [← hs0] at HM HS
  clear hs0
  obtain ⟨⟨hd, wt, lf, rt⟩, rk, up⟩ := s
  unfold svl
  dsimp only [lvl] at HPL ⊢
  have e1 : s0.lk.lf = lf := by rw [HS0.out]
  have e2 : s0.lk.rt = rt := by rw [HS0.out]
  have e3 : s0.lk.wt = wt := by rw [HS0.out]
  have hok := HS.out
  have l1 : lf < 4294967296 := by rw [← e1]; exact hok.1.2.2.1
  have l2 : rt < 4294967296 := by rw [← e2]; exact hok.1.2.2.2
  have l3 : wt < 18446744073709551616 := by rw [← e3]; exact hok.1.2.1
  rw [e1, e2, e3] at HM
  clear e1 e2 e3 hok hs
  obtain ⟨W0, hW0⟩ : ∃ W0, w.alloc (.cells #[.int .u32 (hd : Int), .int .u64 (wt : Int), .int .u32 (lf : Int), .int .u32 (rt : Int), .int .u32 (rk : Int), .bool up] 152) = W0 := ⟨_, rfl⟩
  have HW0 : Hid (w.alloc (.cells #[.int .u32 (hd : Int), .int .u64 (wt : Int), .int .u32 (lf : Int), .int .u32 (rt : Int), .int .u32 (rk : Int), .bool up] 152) = W0) := hW0
  have H0 : Hid (W0.heap[w.heap.size]? = some (.cells (sixC s0) 152) ∧ w.heap.size < W0.heap.size ∧ Below w.heap.size w W0) := by
    rw [← hW0, HS0.out]
    exact ⟨heap_newW w _, by simp, (Below.refl _ _).alloc (Nat.le_refl _) _⟩
  clear hW0
  go_enter Tryz.func87, Tryz.ntmps87
  go_wp2_with fail
  rw [HW0.out]
  refine (HPL.out W0).mono ?_
  rintro e w1 ⟨rfl, hb⟩
  have H1 : Hid (w1.heap[w.heap.size]? = some (.cells (sixC s0) 152) ∧ w.heap.size < w1.heap.size ∧ Below w.heap.size w w1) := ⟨(hb.block _ H0.out.2.1).trans H0.out.1, Nat.lt_of_lt_of_le H0.out.2.1 hb.size, H0.out.2.2.trans (hb.mono (by have := H0.out.2.1; omega))⟩
  have c6 := six_of H1.out.1
  rw [HS0.out] at c6
  obtain ⟨c0, c1, c2, c3, c4, c5⟩ := c6
  dsimp only at c0 c1 c2 c3 c4 c5
  have hz1 := H1.out.2.1
  have v1 : IntKind.i64.wrap (lf : Int) = (lf : Int) := by rw [IntKind.wrap_i64]; omega
  have v2 : IntKind.i64.wrap (rt : Int) = (rt : Int) := by rw [IntKind.wrap_i64]; omega
  clear hb HPL H0 HW0
  by_cases h1 : n ≤ lf
  · have d1 : decide ((n : Int) ≤ (lf : Int)) = true := by simp; omega
    have d2 : decide (n ≤ lf) = true := by simp; omega
    go_wp2
    go_ret
    exact ⟨by rw [HM.out, if_pos (Or.inl h1)]; rfl, H1.out.2.2⟩
  have d1 : decide ((n : Int) ≤ (lf : Int)) = false := by simp; omega
  by_cases h2 : n ≤ rt
  · have d2 : decide ((n : Int) ≤ (rt : Int)) = true := by simp; omega
    go_wp2
    go_ret
    exact ⟨by rw [HM.out, if_pos (Or.inr h2)]; rfl, H1.out.2.2⟩
  have d2 : decide ((n : Int) ≤ (rt : Int)) = false := by simp; omega
  obtain ⟨L, hL⟩ : ∃ L, sd all lf = L := ⟨_, rfl⟩
  obtain ⟨R, hR⟩ : ∃ R, sd all rt = R := ⟨_, rfl⟩
  have gL := sd_get (all := all) (i := lf) (by rw [HN.out]; omega)
  have gR := sd_get (all := all) (i := rt) (by rw [HN.out]; omega)
  rw [hL] at HM gL
  rw [hR] at HM gR
  rw [if_neg (by simp only [not_or]; exact ⟨h1, h2⟩)] at HM
  clear hL hR
  obtain ⟨okL, b, off, e1, hb, sL⟩ := HA.out.at gL
  obtain ⟨okR, b', off', e1', hb', sR⟩ := HA.out.at gR
  rw [e1] at e1'
  injection e1' with e1'
  injection e1' with g1 g2
  subst g1 g2 e1
  have sL1 := sL.keep H1.out.2.2 hb
  have sR1 := sR.keep H1.out.2.2 hb
  have hb1 : b < w1.heap.size := by have := H1.out.2.2.size; omega
  have HSS : Hid (∀ wx, Below w1.heap.size w1 wx → (wx.cell? ⟨w.heap.size, 2, none⟩ = some (.int .u32 (lf : Int)) ∧ wx.cell? ⟨w.heap.size, 3, none⟩ = some (.int .u32 (rt : Int))) ∧ SixAt wx b (off + lf * 6) L ∧ SixAt wx b (off + rt * 6) R) := fun wx hx => ⟨⟨(hx.cell (p := ⟨w.heap.size, 2, none⟩) hz1).trans c2, (hx.cell (p := ⟨w.heap.size, 3, none⟩) hz1).trans c3⟩, sL1.keep hx hb1, sR1.keep hx hb1⟩
  have HLR : Hid (L.ok ∧ R.ok) := ⟨okL, okR⟩
  clear sL sR gL gR okL okR
  obtain ⟨a0, a1, a2, a3, a4, a5⟩ := sL1
  obtain ⟨z0, z1, z2, z3, z4, z5⟩ := sR1
  have i1 : (lf : Int) < (n : Int) := by omega
  have i2 : (rt : Int) < (n : Int) := by omega
  go_upto_region 7 with fail
  go_cut [5, 6] (fun c d wx => TwoBox w1 L R c d wx)
  case first =>
    go_region_held (fun w' => (w'.cell? ⟨w.heap.size, 2, none⟩ = some (.int .u32 (lf : Int)) ∧ w'.cell? ⟨w.heap.size, 3, none⟩ = some (.int .u32 (rt : Int))) ∧ (w'.cell? ⟨b, off + lf * 6, none⟩ = some (.int .u32 (L.lk.hd : Int)) ∧ w'.cell? ⟨b, off + lf * 6 + 1, none⟩ = some (.int .u64 (L.lk.wt : Int)) ∧ w'.cell? ⟨b, off + lf * 6 + 2, none⟩ = some (.int .u32 (L.lk.lf : Int)) ∧ w'.cell? ⟨b, off + lf * 6 + 3, none⟩ = some (.int .u32 (L.lk.rt : Int)) ∧ w'.cell? ⟨b, off + lf * 6 + 4, none⟩ = some (.int .u32 (L.rk : Int)) ∧ w'.cell? ⟨b, off + lf * 6 + 5, none⟩ = some (.bool L.up)) ∧ (w'.cell? ⟨b, off + rt * 6, none⟩ = some (.int .u32 (R.lk.hd : Int)) ∧ w'.cell? ⟨b, off + rt * 6 + 1, none⟩ = some (.int .u64 (R.lk.wt : Int)) ∧ w'.cell? ⟨b, off + rt * 6 + 2, none⟩ = some (.int .u32 (R.lk.lf : Int)) ∧ w'.cell? ⟨b, off + rt * 6 + 3, none⟩ = some (.int .u32 (R.lk.rt : Int)) ∧ w'.cell? ⟨b, off + rt * 6 + 4, none⟩ = some (.int .u32 (R.rk : Int)) ∧ w'.cell? ⟨b, off + rt * 6 + 5, none⟩ = some (.bool R.up))) (first
      | (exact HSS.out _ (by repeat (first | (with_reducible exact Below.refl _ _) | (with_reducible refine Below.drew ?_) | (with_reducible refine Below.alloc ?_ (by simp <;> omega) _))))) (first | fail)
    · go_wp2_with fail
      go_meet
      exact two_a w1 L R
    · go_wp2_with fail
      go_meet
      exact two_b w1 L R
  case rest =>
    obtain ⟨p, q, rfl, rfl, hp, hq, hpz, hqz, hb2⟩ := hcut
    have hp0 : p < wc.heap.size := some_lt hp
    have hq0 : q < wc.heap.size := some_lt hq
    have hw0 : w.heap.size < wc.heap.size := Nat.lt_of_lt_of_le hz1 hb2.size
    have HB : Hid (Below w.heap.size w wc) := H1.out.2.2.trans (hb2.mono (by omega))
    have c6 := six_of ((hb2.block _ hz1).trans H1.out.1)
    rw [HS0.out] at c6
    clear c0 c1 c2 c3 c4 c5 a0 a1 a2 a3 a4 a5 z0 z1 z2 z3 z4 z5
    obtain ⟨c0, c1, c2, c3, c4, c5⟩ := c6
    dsimp only at c0 c1 c2 c3 c4 c5
    obtain ⟨a0, a1, a2, a3, a4, a5⟩ := six_of hp
    obtain ⟨z0, z1, z2, z3, z4, z5⟩ := six_of hq
    clear hb2 hp hq hpz hqz HSS H1 HA
    generalize wc = W2 at *
    have HB2 : Hid (w.heap.size ≤ W2.heap.size) := by show _ ≤ _; omega
    obtain ⟨lu, hlu⟩ : ∃ lu, L.up = lu := ⟨_, rfl⟩
    obtain ⟨ru, hru⟩ : ∃ ru, R.up = ru := ⟨_, rfl⟩
    have HLU : Hid (L.up = lu) := hlu
    have HRU : Hid (R.up = ru) := hru
    rw [hlu] at HM a5
    rw [hru] at HM z5
    clear hlu hru
    have HK : Hid (∀ wx, Below W2.heap.size W2 wx → (wx.cell? ⟨w.heap.size, 0, none⟩ = some (.int .u32 (hd : Int)) ∧ wx.cell? ⟨w.heap.size, 1, none⟩ = some (.int .u64 (wt : Int)) ∧ wx.cell? ⟨w.heap.size, 2, none⟩ = some (.int .u32 (lf : Int)) ∧ wx.cell? ⟨w.heap.size, 3, none⟩ = some (.int .u32 (rt : Int)) ∧ wx.cell? ⟨w.heap.size, 4, none⟩ = some (.int .u32 (rk : Int)) ∧ wx.cell? ⟨w.heap.size, 5, none⟩ = some (.bool up)) ∧ (wx.cell? ⟨p, 0, none⟩ = some (.int .u32 (L.lk.hd : Int)) ∧ wx.cell? ⟨p, 1, none⟩ = some (.int .u64 (L.lk.wt : Int)) ∧ wx.cell? ⟨p, 2, none⟩ = some (.int .u32 (L.lk.lf : Int)) ∧ wx.cell? ⟨p, 3, none⟩ = some (.int .u32 (L.lk.rt : Int)) ∧ wx.cell? ⟨p, 4, none⟩ = some (.int .u32 (L.rk : Int)) ∧ wx.cell? ⟨p, 5, none⟩ = some (.bool lu)) ∧ (wx.cell? ⟨q, 0, none⟩ = some (.int .u32 (R.lk.hd : Int)) ∧ wx.cell? ⟨q, 1, none⟩ = some (.int .u64 (R.lk.wt : Int)) ∧ wx.cell? ⟨q, 2, none⟩ = some (.int .u32 (R.lk.lf : Int)) ∧ wx.cell? ⟨q, 3, none⟩ = some (.int .u32 (R.lk.rt : Int)) ∧ wx.cell? ⟨q, 4, none⟩ = some (.int .u32 (R.rk : Int)) ∧ wx.cell? ⟨q, 5, none⟩ = some (.bool ru))) := fun wx hx => ⟨⟨(hx.cell (p := ⟨w.heap.size, 0, none⟩) hw0).trans c0, (hx.cell (p := ⟨w.heap.size, 1, none⟩) hw0).trans c1, (hx.cell (p := ⟨w.heap.size, 2, none⟩) hw0).trans c2, (hx.cell (p := ⟨w.heap.size, 3, none⟩) hw0).trans c3, (hx.cell (p := ⟨w.heap.size, 4, none⟩) hw0).trans c4, (hx.cell (p := ⟨w.heap.size, 5, none⟩) hw0).trans c5⟩, ⟨(hx.cell (p := ⟨p, 0, none⟩) hp0).trans a0, (hx.cell (p := ⟨p, 1, none⟩) hp0).trans a1, (hx.cell (p := ⟨p, 2, none⟩) hp0).trans a2, (hx.cell (p := ⟨p, 3, none⟩) hp0).trans a3, (hx.cell (p := ⟨p, 4, none⟩) hp0).trans a4, (hx.cell (p := ⟨p, 5, none⟩) hp0).trans a5⟩, (hx.cell (p := ⟨q, 0, none⟩) hq0).trans z0, (hx.cell (p := ⟨q, 1, none⟩) hq0).trans z1, (hx.cell (p := ⟨q, 2, none⟩) hq0).trans z2, (hx.cell (p := ⟨q, 3, none⟩) hq0).trans z3, (hx.cell (p := ⟨q, 4, none⟩) hq0).trans z4, (hx.cell (p := ⟨q, 5, none⟩) hq0).trans z5⟩
    obtain ⟨bad, hbad⟩ : ∃ bad : Bool, bad = decide (lu = true ∨ ru = false ∨ L.rk ≠ R.rk ∨ L.tail ≠ s0.tail ∨ R.head ≠ s0.head) := ⟨_, rfl⟩
    have HBD : Hid (bad = decide (lu = true ∨ ru = false ∨ L.rk ≠ R.rk ∨ L.tail ≠ s0.tail ∨ R.head ≠ s0.head)) := hbad
    clear hbad
    go_upto_region 8 with fail
    go_cut [71] (fun c wx => c = .bool bad ∧ Below W2.heap.size W2 wx)
    case first =>
      cases lu
      case true =>
        obtain rfl : bad = true := by rw [HBD.out]; simp
        go_quiet (fail)
        go_wp2_with fail
        go_meet
        exact ⟨rfl, below_drewN (Below.refl _ _) _⟩
      case false =>
        cases ru
        case false =>
          obtain rfl : bad = true := by rw [HBD.out]; simp
          go_quiet (fail)
          go_wp2_with fail
          go_meet
          exact ⟨rfl, below_drewN (Below.refl _ _) _⟩
        case true =>
          by_cases hrk : L.rk = R.rk
          · have d3 : ((L.rk : Int) != (R.rk : Int)) = false := by simp [hrk]
            have HT1 : Hid (∀ wx, Below W2.heap.size W2 wx → Calls Tryz.prog 106 #[.agg #[.int .u32 (L.lk.hd : Int), .int .u64 (L.lk.wt : Int), .int .u32 (L.lk.lf : Int), .int .u32 (L.lk.rt : Int), .int .u32 (L.rk : Int), .bool false]] wx fun e w' => e = .returned (.int .u32 (L.tail : Int)) ∧ Below W2.heap.size W2 w') := fun wx hwx => by have := tail_calls L wx; unfold svl at this; rw [HLU.out] at this; exact this.mono fun e w' ⟨h1, h2⟩ => ⟨h1, hwx.trans (h2.mono hwx.size)⟩
            have HT2 : Hid (∀ wx, Below W2.heap.size W2 wx → Calls Tryz.prog 106 #[.agg #[.int .u32 (hd : Int), .int .u64 (wt : Int), .int .u32 (lf : Int), .int .u32 (rt : Int), .int .u32 (rk : Int), .bool up]] wx fun e w' => e = .returned (.int .u32 (s0.tail : Int)) ∧ Below W2.heap.size W2 w') := fun wx hwx => by have := tail_calls s0 wx; unfold svl at this; rw [HS0.out] at this ⊢; exact this.mono fun e w' ⟨h1, h2⟩ => ⟨h1, hwx.trans (h2.mono hwx.size)⟩
            have HH1 : Hid (∀ wx, Below W2.heap.size W2 wx → Calls Tryz.prog 107 #[.agg #[.int .u32 (R.lk.hd : Int), .int .u64 (R.lk.wt : Int), .int .u32 (R.lk.lf : Int), .int .u32 (R.lk.rt : Int), .int .u32 (R.rk : Int), .bool true]] wx fun e w' => e = .returned (.int .u32 (R.head : Int)) ∧ Below W2.heap.size W2 w') := fun wx hwx => by have := head_calls R wx; unfold svl at this; rw [HRU.out] at this; exact this.mono fun e w' ⟨h1, h2⟩ => ⟨h1, hwx.trans (h2.mono hwx.size)⟩
            have HH2 : Hid (∀ wx, Below W2.heap.size W2 wx → Calls Tryz.prog 107 #[.agg #[.int .u32 (hd : Int), .int .u64 (wt : Int), .int .u32 (lf : Int), .int .u32 (rt : Int), .int .u32 (rk : Int), .bool up]] wx fun e w' => e = .returned (.int .u32 (s0.head : Int)) ∧ Below W2.heap.size W2 w') := fun wx hwx => by have := head_calls s0 wx; unfold svl at this; rw [HS0.out] at this ⊢; exact this.mono fun e w' ⟨h1, h2⟩ => ⟨h1, hwx.trans (h2.mono hwx.size)⟩
            by_cases hta : L.tail = s0.tail
            · have d4 : ((L.tail : Int) != (s0.tail : Int)) = false := by simp [hta]
              by_cases hhe : R.head = s0.head
              · have d5 : ((R.head : Int) != (s0.head : Int)) = false := by simp [hhe]
                obtain rfl : bad = false := by rw [HBD.out]; simp [hrk, hta, hhe]
                clear hrk hta hhe
                refine wp_region_held_drew (S := fun w' => (w'.cell? ⟨w.heap.size, 0, none⟩ = some (.int .u32 (hd : Int)) ∧ w'.cell? ⟨w.heap.size, 1, none⟩ = some (.int .u64 (wt : Int)) ∧ w'.cell? ⟨w.heap.size, 2, none⟩ = some (.int .u32 (lf : Int)) ∧ w'.cell? ⟨w.heap.size, 3, none⟩ = some (.int .u32 (rt : Int)) ∧ w'.cell? ⟨w.heap.size, 4, none⟩ = some (.int .u32 (rk : Int)) ∧ w'.cell? ⟨w.heap.size, 5, none⟩ = some (.bool up)) ∧ (w'.cell? ⟨p, 0, none⟩ = some (.int .u32 (L.lk.hd : Int)) ∧ w'.cell? ⟨p, 1, none⟩ = some (.int .u64 (L.lk.wt : Int)) ∧ w'.cell? ⟨p, 2, none⟩ = some (.int .u32 (L.lk.lf : Int)) ∧ w'.cell? ⟨p, 3, none⟩ = some (.int .u32 (L.lk.rt : Int)) ∧ w'.cell? ⟨p, 4, none⟩ = some (.int .u32 (L.rk : Int)) ∧ w'.cell? ⟨p, 5, none⟩ = some (.bool false)) ∧ (w'.cell? ⟨q, 0, none⟩ = some (.int .u32 (R.lk.hd : Int)) ∧ w'.cell? ⟨q, 1, none⟩ = some (.int .u64 (R.lk.wt : Int)) ∧ w'.cell? ⟨q, 2, none⟩ = some (.int .u32 (R.lk.lf : Int)) ∧ w'.cell? ⟨q, 3, none⟩ = some (.int .u32 (R.lk.rt : Int)) ∧ w'.cell? ⟨q, 4, none⟩ = some (.int .u32 (R.rk : Int)) ∧ w'.cell? ⟨q, 5, none⟩ = some (.bool true))) (by kernel_rfl) (HK.out _ (Below.refl _ _).drew) (fun hHeld => ?_)
                refine wpAnyH_take (i := 0) (oi := ⟨some 44, .fieldAddr 152 (.tmp 5) 2, 0, "check.go:86", #[], none⟩) (v := ?va0) rfl (by kernel_rfl) (by kernel_rfl) (by kernel_rfl) (fun _ _ _ h => h) (Or.inl ⟨by rfl, ?ha0⟩) (by assumption) ?ra0
                case ha0 => ((intro wz hSw; (try dsimp only at hSw); go_simp); try (with_reducible rfl))
                simp only [Act.put, List.setIfInBounds_toArray, List.set_cons_zero, List.set_cons_succ]
                refine wpAnyH_take (i := 1) (oi := ⟨some 45, .load 4 (.tmp 44), 4, "check.go:86", #[⟨0, .data⟩], none⟩) (v := ?va1) rfl (by kernel_rfl) (by kernel_rfl) (by kernel_rfl) (fun _ _ _ h => h) (Or.inl ⟨by rfl, ?ha1⟩) (by assumption) ?ra1
                case ha1 => ((intro wz hSw; (try dsimp only at hSw); go_simp); try (with_reducible rfl))
                simp only [Act.put, List.setIfInBounds_toArray, List.set_cons_zero, List.set_cons_succ]
                refine wpAnyH_take (i := 2) (oi := ⟨some 46, .move (.tmp 45), 4, "check.go:86", #[⟨1, .data⟩], none⟩) (v := ?va2) rfl (by kernel_rfl) (by kernel_rfl) (by kernel_rfl) (fun _ _ _ h => h) (Or.inl ⟨by rfl, ?ha2⟩) (by assumption) ?ra2
                case ha2 => ((intro wz hSw; (try dsimp only at hSw); go_simp); try (with_reducible rfl))
                simp only [Act.put, List.setIfInBounds_toArray, List.set_cons_zero, List.set_cons_succ]
                refine wpAnyH_take (i := 3) (oi := ⟨some 47, .fieldAddr 152 (.tmp 6) 2, 0, "check.go:86", #[⟨2, .guard⟩], some (2, false)⟩) (v := ?va3) rfl (by kernel_rfl) (by kernel_rfl) (by kernel_rfl) (fun _ _ _ h => h) (Or.inl ⟨by rfl, ?ha3⟩) (by assumption) ?ra3
                case ha3 => ((intro wz hSw; (try dsimp only at hSw); go_simp); try (with_reducible rfl))
                simp only [Act.put, List.setIfInBounds_toArray, List.set_cons_zero, List.set_cons_succ]
                refine wpAnyH_take (i := 4) (oi := ⟨some 48, .load 4 (.tmp 47), 4, "check.go:86", #[⟨3, .data⟩, ⟨2, .guard⟩], some (2, false)⟩) (v := ?va4) rfl (by kernel_rfl) (by kernel_rfl) (by kernel_rfl) (fun _ _ _ h => h) (Or.inl ⟨by rfl, ?ha4⟩) (by assumption) ?ra4
                case ha4 => ((intro wz hSw; (try dsimp only at hSw); go_simp); try (with_reducible rfl))
                simp only [Act.put, List.setIfInBounds_toArray, List.set_cons_zero, List.set_cons_succ]
                refine wpAnyH_take (i := 5) (oi := ⟨some 49, .unOp .not 4 (.tmp 48), 4, "check.go:86", #[⟨4, .data⟩, ⟨2, .guard⟩], some (2, false)⟩) (v := ?va5) rfl (by kernel_rfl) (by kernel_rfl) (by kernel_rfl) (fun _ _ _ h => h) (Or.inl ⟨by rfl, ?ha5⟩) (by assumption) ?ra5
                case ha5 => ((intro wz hSw; (try dsimp only at hSw); go_simp); try (with_reducible rfl))
                simp only [Act.put, List.setIfInBounds_toArray, List.set_cons_zero, List.set_cons_succ]
                refine wpAnyH_take (i := 6) (oi := ⟨some 50, .pick (.tmp 46) (.const (.bool true)) (.tmp 49), 4, "check.go:86", #[⟨2, .data⟩, ⟨5, .data⟩], none⟩) (v := ?va6) rfl (by kernel_rfl) (by kernel_rfl) (by kernel_rfl) (fun _ _ _ h => h) (Or.inl ⟨by rfl, ?ha6⟩) (by assumption) ?ra6
                case ha6 => ((intro wz hSw; (try dsimp only at hSw); go_simp); try (with_reducible rfl))
                simp only [Act.put, List.setIfInBounds_toArray, List.set_cons_zero, List.set_cons_succ]
                refine wpAnyH_take (i := 7) (oi := ⟨some 51, .move (.tmp 50), 4, "check.go:86", #[⟨6, .data⟩, ⟨2, .chain⟩], none⟩) (v := ?va7) rfl (by kernel_rfl) (by kernel_rfl) (by kernel_rfl) (fun _ _ _ h => h) (Or.inl ⟨by rfl, ?ha7⟩) (by assumption) ?ra7
                case ha7 => ((intro wz hSw; (try dsimp only at hSw); go_simp); try (with_reducible rfl))
                simp only [Act.put, List.setIfInBounds_toArray, List.set_cons_zero, List.set_cons_succ]
                refine wpAnyH_take (i := 8) (oi := ⟨some 52, .fieldAddr 152 (.tmp 5) 1, 0, "check.go:86", #[⟨7, .guard⟩], some (7, false)⟩) (v := ?va8) rfl (by kernel_rfl) (by kernel_rfl) (by kernel_rfl) (fun _ _ _ h => h) (Or.inl ⟨by rfl, ?ha8⟩) (by assumption) ?ra8
                case ha8 => ((intro wz hSw; (try dsimp only at hSw); go_simp); try (with_reducible rfl))
                simp only [Act.put, List.setIfInBounds_toArray, List.set_cons_zero, List.set_cons_succ]
                refine wpAnyH_take (i := 9) (oi := ⟨some 53, .load 62 (.tmp 52), 62, "check.go:86", #[⟨8, .data⟩, ⟨7, .guard⟩], some (7, false)⟩) (v := ?va9) rfl (by kernel_rfl) (by kernel_rfl) (by kernel_rfl) (fun _ _ _ h => h) (Or.inl ⟨by rfl, ?ha9⟩) (by assumption) ?ra9
                case ha9 => ((intro wz hSw; (try dsimp only at hSw); go_simp); try (with_reducible rfl))
                simp only [Act.put, List.setIfInBounds_toArray, List.set_cons_zero, List.set_cons_succ]
                refine wpAnyH_take (i := 10) (oi := ⟨some 54, .fieldAddr 152 (.tmp 6) 1, 0, "check.go:86", #[⟨7, .guard⟩], some (7, false)⟩) (v := ?va10) rfl (by kernel_rfl) (by kernel_rfl) (by kernel_rfl) (fun _ _ _ h => h) (Or.inl ⟨by rfl, ?ha10⟩) (by assumption) ?ra10
                case ha10 => ((intro wz hSw; (try dsimp only at hSw); go_simp); try (with_reducible rfl))
                simp only [Act.put, List.setIfInBounds_toArray, List.set_cons_zero, List.set_cons_succ]
                refine wpAnyH_take (i := 11) (oi := ⟨some 55, .load 62 (.tmp 54), 62, "check.go:86", #[⟨10, .data⟩, ⟨7, .guard⟩], some (7, false)⟩) (v := ?va11) rfl (by kernel_rfl) (by kernel_rfl) (by kernel_rfl) (fun _ _ _ h => h) (Or.inl ⟨by rfl, ?ha11⟩) (by assumption) ?ra11
                case ha11 => ((intro wz hSw; (try dsimp only at hSw); go_simp); try (with_reducible rfl))
                simp only [Act.put, List.setIfInBounds_toArray, List.set_cons_zero, List.set_cons_succ]
                refine wpAnyH_take (i := 12) (oi := ⟨some 56, .binOp .neq 62 (.tmp 53) (.tmp 55) 62, 4, "check.go:86", #[⟨9, .data⟩, ⟨11, .data⟩, ⟨7, .guard⟩], some (7, false)⟩) (v := ?va12) rfl (by kernel_rfl) (by kernel_rfl) (by kernel_rfl) (fun _ _ _ h => h) (Or.inl ⟨by rfl, ?ha12⟩) (by assumption) ?ra12
                case ha12 => ((intro wz hSw; (try dsimp only at hSw); go_simp); try (with_reducible rfl))
                simp only [Act.put, List.setIfInBounds_toArray, List.set_cons_zero, List.set_cons_succ]
                refine wpAnyH_take (i := 13) (oi := ⟨some 57, .pick (.tmp 51) (.const (.bool true)) (.tmp 56), 4, "check.go:86", #[⟨7, .data⟩, ⟨12, .data⟩], none⟩) (v := ?va13) rfl (by kernel_rfl) (by kernel_rfl) (by kernel_rfl) (fun _ _ _ h => h) (Or.inl ⟨by rfl, ?ha13⟩) (by assumption) ?ra13
                case ha13 => ((intro wz hSw; (try dsimp only at hSw); go_simp); try (with_reducible rfl))
                simp only [Act.put, List.setIfInBounds_toArray, List.set_cons_zero, List.set_cons_succ]
                refine wpAnyH_take (i := 14) (oi := ⟨some 58, .move (.tmp 57), 4, "check.go:86", #[⟨13, .data⟩, ⟨7, .chain⟩], none⟩) (v := ?va14) rfl (by kernel_rfl) (by kernel_rfl) (by kernel_rfl) (fun _ _ _ h => h) (Or.inl ⟨by rfl, ?ha14⟩) (by assumption) ?ra14
                case ha14 => ((intro wz hSw; (try dsimp only at hSw); go_simp); try (with_reducible rfl))
                simp only [Act.put, List.setIfInBounds_toArray, List.set_cons_zero, List.set_cons_succ]
                refine wpAnyH_take (i := 15) (oi := ⟨some 59, .load 152 (.tmp 5), 152, "check.go:86", #[⟨14, .guard⟩], some (14, false)⟩) (v := ?va15) rfl (by kernel_rfl) (by kernel_rfl) (by kernel_rfl) (fun _ _ _ h => h) (Or.inl ⟨by rfl, ?ha15⟩) (by assumption) ?ra15
                case ha15 => ((intro wz hSw; (try dsimp only at hSw); go_simp); try (with_reducible rfl))
                simp only [Act.put, List.setIfInBounds_toArray, List.set_cons_zero, List.set_cons_succ]
                refine wpAnyH_take (i := 17) (oi := ⟨some 61, .load 152 (.tmp 2), 152, "check.go:86", #[⟨14, .guard⟩], some (14, false)⟩) (v := ?va17) rfl (by kernel_rfl) (by kernel_rfl) (by kernel_rfl) (fun _ _ _ h => h) (Or.inl ⟨by rfl, ?ha17⟩) (by assumption) ?ra17
                case ha17 => ((intro wz hSw; (try dsimp only at hSw); go_simp); try (with_reducible rfl))
                simp only [Act.put, List.setIfInBounds_toArray, List.set_cons_zero, List.set_cons_succ]
                refine wpAnyH_ready (rs := [16]) (by kernel_rfl) (by simp) ?_
                refine AllReadyH.cons (o := ⟨some 60, .call { callee := .value (.func 106), args := #[.tmp 59], argTypes := #[152] }, 62, "check.go:86", #[⟨15, .data⟩, ⟨14, .chain⟩, ⟨14, .guard⟩], some (14, false)⟩) rfl (fun K hK => ?_) AllReadyH.nil
                go_simp
                go_at_call 106
                with_reducible refine (HT1.out _ (by first | (with_reducible exact (Below.refl _ _).drew) | (with_reducible assumption))).mono ?_
                rintro e wa1 ⟨rfl, hbw1⟩
                go_wp2_with fail
                refine hK.out _ _ (HK.out _ hbw1) (fun hHeld1 => ?_)
                clear hK K hHeld
                refine wpAnyH_ready (rs := [18]) (by kernel_rfl) (by simp) ?_
                refine AllReadyH.cons (o := ⟨some 62, .call { callee := .value (.func 106), args := #[.tmp 61], argTypes := #[152] }, 62, "check.go:86", #[⟨17, .data⟩, ⟨16, .chain⟩, ⟨14, .guard⟩], some (14, false)⟩) rfl (fun K hK => ?_) AllReadyH.nil
                go_simp
                go_at_call 106
                with_reducible refine (HT2.out _ (by first | (with_reducible exact (Below.refl _ _).drew) | (with_reducible assumption))).mono ?_
                rintro e wa2 ⟨rfl, hbw2⟩
                go_wp2_with fail
                refine hK.out _ _ (HK.out _ hbw2) (fun hHeld2 => ?_)
                clear hK K hHeld1
                refine wpAnyH_take (i := 19) (oi := ⟨some 63, .binOp .neq 62 (.tmp 60) (.tmp 62) 62, 4, "check.go:86", #[⟨16, .data⟩, ⟨18, .data⟩, ⟨14, .guard⟩], some (14, false)⟩) (v := ?va19) rfl (by kernel_rfl) (by kernel_rfl) (by kernel_rfl) (fun _ _ _ h => h) (Or.inl ⟨by rfl, ?ha19⟩) (by assumption) ?ra19
                case ha19 => ((intro wz hSw; (try dsimp only at hSw); go_simp); try (with_reducible rfl))
                simp only [Act.put, List.setIfInBounds_toArray, List.set_cons_zero, List.set_cons_succ]
                refine wpAnyH_take (i := 20) (oi := ⟨some 64, .pick (.tmp 58) (.const (.bool true)) (.tmp 63), 4, "check.go:86", #[⟨14, .data⟩, ⟨19, .data⟩], none⟩) (v := ?va20) rfl (by kernel_rfl) (by kernel_rfl) (by kernel_rfl) (fun _ _ _ h => h) (Or.inl ⟨by rfl, ?ha20⟩) (by assumption) ?ra20
                case ha20 => ((intro wz hSw; (try dsimp only at hSw); go_simp); try (with_reducible rfl))
                simp only [Act.put, List.setIfInBounds_toArray, List.set_cons_zero, List.set_cons_succ]
                refine wpAnyH_take (i := 21) (oi := ⟨some 65, .move (.tmp 64), 4, "check.go:86", #[⟨20, .data⟩, ⟨18, .chain⟩], none⟩) (v := ?va21) rfl (by kernel_rfl) (by kernel_rfl) (by kernel_rfl) (fun _ _ _ h => h) (Or.inl ⟨by rfl, ?ha21⟩) (by assumption) ?ra21
                case ha21 => ((intro wz hSw; (try dsimp only at hSw); go_simp); try (with_reducible rfl))
                simp only [Act.put, List.setIfInBounds_toArray, List.set_cons_zero, List.set_cons_succ]
                refine wpAnyH_take (i := 22) (oi := ⟨some 66, .load 152 (.tmp 6), 152, "check.go:86", #[⟨21, .guard⟩], some (21, false)⟩) (v := ?va22) rfl (by kernel_rfl) (by kernel_rfl) (by kernel_rfl) (fun _ _ _ h => h) (Or.inl ⟨by rfl, ?ha22⟩) (by assumption) ?ra22
                case ha22 => ((intro wz hSw; (try dsimp only at hSw); go_simp); try (with_reducible rfl))
                simp only [Act.put, List.setIfInBounds_toArray, List.set_cons_zero, List.set_cons_succ]
                refine wpAnyH_take (i := 24) (oi := ⟨some 68, .load 152 (.tmp 2), 152, "check.go:86", #[⟨21, .guard⟩], some (21, false)⟩) (v := ?va24) rfl (by kernel_rfl) (by kernel_rfl) (by kernel_rfl) (fun _ _ _ h => h) (Or.inl ⟨by rfl, ?ha24⟩) (by assumption) ?ra24
                case ha24 => ((intro wz hSw; (try dsimp only at hSw); go_simp); try (with_reducible rfl))
                simp only [Act.put, List.setIfInBounds_toArray, List.set_cons_zero, List.set_cons_succ]
                refine wpAnyH_ready (rs := [23]) (by kernel_rfl) (by simp) ?_
                refine AllReadyH.cons (o := ⟨some 67, .call { callee := .value (.func 107), args := #[.tmp 66], argTypes := #[152] }, 62, "check.go:86", #[⟨22, .data⟩, ⟨21, .chain⟩, ⟨21, .guard⟩], some (21, false)⟩) rfl (fun K hK => ?_) AllReadyH.nil
                go_simp
                go_at_call 107
                with_reducible refine (HH1.out _ (by first | (with_reducible exact (Below.refl _ _).drew) | (with_reducible assumption))).mono ?_
                rintro e wa3 ⟨rfl, hbw3⟩
                go_wp2_with fail
                refine hK.out _ _ (HK.out _ hbw3) (fun hHeld3 => ?_)
                clear hK K hHeld2
                refine wpAnyH_ready (rs := [25]) (by kernel_rfl) (by simp) ?_
                refine AllReadyH.cons (o := ⟨some 69, .call { callee := .value (.func 107), args := #[.tmp 68], argTypes := #[152] }, 62, "check.go:86", #[⟨24, .data⟩, ⟨23, .chain⟩, ⟨21, .guard⟩], some (21, false)⟩) rfl (fun K hK => ?_) AllReadyH.nil
                go_simp
                go_at_call 107
                with_reducible refine (HH2.out _ (by first | (with_reducible exact (Below.refl _ _).drew) | (with_reducible assumption))).mono ?_
                rintro e wa4 ⟨rfl, hbw4⟩
                go_wp2_with fail
                refine hK.out _ _ (HK.out _ hbw4) (fun hHeld4 => ?_)
                clear hK K hHeld3
                refine wpAnyH_take (i := 26) (oi := ⟨some 70, .binOp .neq 62 (.tmp 67) (.tmp 69) 62, 4, "check.go:86", #[⟨23, .data⟩, ⟨25, .data⟩, ⟨21, .guard⟩], some (21, false)⟩) (v := ?va26) rfl (by kernel_rfl) (by kernel_rfl) (by kernel_rfl) (fun _ _ _ h => h) (Or.inl ⟨by rfl, ?ha26⟩) (by assumption) ?ra26
                case ha26 => ((intro wz hSw; (try dsimp only at hSw); go_simp); try (with_reducible rfl))
                simp only [Act.put, List.setIfInBounds_toArray, List.set_cons_zero, List.set_cons_succ]
                refine wpAnyH_take (i := 27) (oi := ⟨some 71, .pick (.tmp 65) (.const (.bool true)) (.tmp 70), 4, "check.go:86", #[⟨21, .data⟩, ⟨26, .data⟩], none⟩) (v := ?va27) rfl (by kernel_rfl) (by kernel_rfl) (by kernel_rfl) (fun _ _ _ h => h) (Or.inl ⟨by rfl, ?ha27⟩) (by assumption) ?ra27
                case ha27 => ((intro wz hSw; (try dsimp only at hSw); go_simp); try (with_reducible rfl))
                simp only [Act.put, List.setIfInBounds_toArray, List.set_cons_zero, List.set_cons_succ]
                refine wpAnyH_done (by kernel_rfl) ?_ _
                go_wp2_with fail
                go_meet
                exact ⟨rfl, hbw4⟩
              · have d5 : ((R.head : Int) != (s0.head : Int)) = true := by simp; omega
                obtain rfl : bad = true := by rw [HBD.out]; simp [hhe]
                clear hrk hta hhe
                refine wp_region_held_drew (S := fun w' => (w'.cell? ⟨w.heap.size, 0, none⟩ = some (.int .u32 (hd : Int)) ∧ w'.cell? ⟨w.heap.size, 1, none⟩ = some (.int .u64 (wt : Int)) ∧ w'.cell? ⟨w.heap.size, 2, none⟩ = some (.int .u32 (lf : Int)) ∧ w'.cell? ⟨w.heap.size, 3, none⟩ = some (.int .u32 (rt : Int)) ∧ w'.cell? ⟨w.heap.size, 4, none⟩ = some (.int .u32 (rk : Int)) ∧ w'.cell? ⟨w.heap.size, 5, none⟩ = some (.bool up)) ∧ (w'.cell? ⟨p, 0, none⟩ = some (.int .u32 (L.lk.hd : Int)) ∧ w'.cell? ⟨p, 1, none⟩ = some (.int .u64 (L.lk.wt : Int)) ∧ w'.cell? ⟨p, 2, none⟩ = some (.int .u32 (L.lk.lf : Int)) ∧ w'.cell? ⟨p, 3, none⟩ = some (.int .u32 (L.lk.rt : Int)) ∧ w'.cell? ⟨p, 4, none⟩ = some (.int .u32 (L.rk : Int)) ∧ w'.cell? ⟨p, 5, none⟩ = some (.bool false)) ∧ (w'.cell? ⟨q, 0, none⟩ = some (.int .u32 (R.lk.hd : Int)) ∧ w'.cell? ⟨q, 1, none⟩ = some (.int .u64 (R.lk.wt : Int)) ∧ w'.cell? ⟨q, 2, none⟩ = some (.int .u32 (R.lk.lf : Int)) ∧ w'.cell? ⟨q, 3, none⟩ = some (.int .u32 (R.lk.rt : Int)) ∧ w'.cell? ⟨q, 4, none⟩ = some (.int .u32 (R.rk : Int)) ∧ w'.cell? ⟨q, 5, none⟩ = some (.bool true))) (by kernel_rfl) (HK.out _ (Below.refl _ _).drew) (fun hHeld => ?_)
                refine wpAnyH_take (i := 0) (oi := ⟨some 44, .fieldAddr 152 (.tmp 5) 2, 0, "check.go:86", #[], none⟩) (v := ?vb0) rfl (by kernel_rfl) (by kernel_rfl) (by kernel_rfl) (fun _ _ _ h => h) (Or.inl ⟨by rfl, ?hb0⟩) (by assumption) ?rb0
                case hb0 => ((intro wz hSw; (try dsimp only at hSw); go_simp); try (with_reducible rfl))
                simp only [Act.put, List.setIfInBounds_toArray, List.set_cons_zero, List.set_cons_succ]
                refine wpAnyH_take (i := 1) (oi := ⟨some 45, .load 4 (.tmp 44), 4, "check.go:86", #[⟨0, .data⟩], none⟩) (v := ?vb1) rfl (by kernel_rfl) (by kernel_rfl) (by kernel_rfl) (fun _ _ _ h => h) (Or.inl ⟨by rfl, ?hb1⟩) (by assumption) ?rb1
                case hb1 => ((intro wz hSw; (try dsimp only at hSw); go_simp); try (with_reducible rfl))
                simp only [Act.put, List.setIfInBounds_toArray, List.set_cons_zero, List.set_cons_succ]
                refine wpAnyH_take (i := 2) (oi := ⟨some 46, .move (.tmp 45), 4, "check.go:86", #[⟨1, .data⟩], none⟩) (v := ?vb2) rfl (by kernel_rfl) (by kernel_rfl) (by kernel_rfl) (fun _ _ _ h => h) (Or.inl ⟨by rfl, ?hb2⟩) (by assumption) ?rb2
                case hb2 => ((intro wz hSw; (try dsimp only at hSw); go_simp); try (with_reducible rfl))
                simp only [Act.put, List.setIfInBounds_toArray, List.set_cons_zero, List.set_cons_succ]
                refine wpAnyH_take (i := 3) (oi := ⟨some 47, .fieldAddr 152 (.tmp 6) 2, 0, "check.go:86", #[⟨2, .guard⟩], some (2, false)⟩) (v := ?vb3) rfl (by kernel_rfl) (by kernel_rfl) (by kernel_rfl) (fun _ _ _ h => h) (Or.inl ⟨by rfl, ?hb3⟩) (by assumption) ?rb3
                case hb3 => ((intro wz hSw; (try dsimp only at hSw); go_simp); try (with_reducible rfl))
                simp only [Act.put, List.setIfInBounds_toArray, List.set_cons_zero, List.set_cons_succ]
                refine wpAnyH_take (i := 4) (oi := ⟨some 48, .load 4 (.tmp 47), 4, "check.go:86", #[⟨3, .data⟩, ⟨2, .guard⟩], some (2, false)⟩) (v := ?vb4) rfl (by kernel_rfl) (by kernel_rfl) (by kernel_rfl) (fun _ _ _ h => h) (Or.inl ⟨by rfl, ?hb4⟩) (by assumption) ?rb4
                case hb4 => ((intro wz hSw; (try dsimp only at hSw); go_simp); try (with_reducible rfl))
                simp only [Act.put, List.setIfInBounds_toArray, List.set_cons_zero, List.set_cons_succ]
                refine wpAnyH_take (i := 5) (oi := ⟨some 49, .unOp .not 4 (.tmp 48), 4, "check.go:86", #[⟨4, .data⟩, ⟨2, .guard⟩], some (2, false)⟩) (v := ?vb5) rfl (by kernel_rfl) (by kernel_rfl) (by kernel_rfl) (fun _ _ _ h => h) (Or.inl ⟨by rfl, ?hb5⟩) (by assumption) ?rb5
                case hb5 => ((intro wz hSw; (try dsimp only at hSw); go_simp); try (with_reducible rfl))
                simp only [Act.put, List.setIfInBounds_toArray, List.set_cons_zero, List.set_cons_succ]
                refine wpAnyH_take (i := 6) (oi := ⟨some 50, .pick (.tmp 46) (.const (.bool true)) (.tmp 49), 4, "check.go:86", #[⟨2, .data⟩, ⟨5, .data⟩], none⟩) (v := ?vb6) rfl (by kernel_rfl) (by kernel_rfl) (by kernel_rfl) (fun _ _ _ h => h) (Or.inl ⟨by rfl, ?hb6⟩) (by assumption) ?rb6
                case hb6 => ((intro wz hSw; (try dsimp only at hSw); go_simp); try (with_reducible rfl))
                simp only [Act.put, List.setIfInBounds_toArray, List.set_cons_zero, List.set_cons_succ]
                refine wpAnyH_take (i := 7) (oi := ⟨some 51, .move (.tmp 50), 4, "check.go:86", #[⟨6, .data⟩, ⟨2, .chain⟩], none⟩) (v := ?vb7) rfl (by kernel_rfl) (by kernel_rfl) (by kernel_rfl) (fun _ _ _ h => h) (Or.inl ⟨by rfl, ?hb7⟩) (by assumption) ?rb7
                case hb7 => ((intro wz hSw; (try dsimp only at hSw); go_simp); try (with_reducible rfl))
                simp only [Act.put, List.setIfInBounds_toArray, List.set_cons_zero, List.set_cons_succ]
                refine wpAnyH_take (i := 8) (oi := ⟨some 52, .fieldAddr 152 (.tmp 5) 1, 0, "check.go:86", #[⟨7, .guard⟩], some (7, false)⟩) (v := ?vb8) rfl (by kernel_rfl) (by kernel_rfl) (by kernel_rfl) (fun _ _ _ h => h) (Or.inl ⟨by rfl, ?hb8⟩) (by assumption) ?rb8
                case hb8 => ((intro wz hSw; (try dsimp only at hSw); go_simp); try (with_reducible rfl))
                simp only [Act.put, List.setIfInBounds_toArray, List.set_cons_zero, List.set_cons_succ]
                refine wpAnyH_take (i := 9) (oi := ⟨some 53, .load 62 (.tmp 52), 62, "check.go:86", #[⟨8, .data⟩, ⟨7, .guard⟩], some (7, false)⟩) (v := ?vb9) rfl (by kernel_rfl) (by kernel_rfl) (by kernel_rfl) (fun _ _ _ h => h) (Or.inl ⟨by rfl, ?hb9⟩) (by assumption) ?rb9
                case hb9 => ((intro wz hSw; (try dsimp only at hSw); go_simp); try (with_reducible rfl))
                simp only [Act.put, List.setIfInBounds_toArray, List.set_cons_zero, List.set_cons_succ]
                refine wpAnyH_take (i := 10) (oi := ⟨some 54, .fieldAddr 152 (.tmp 6) 1, 0, "check.go:86", #[⟨7, .guard⟩], some (7, false)⟩) (v := ?vb10) rfl (by kernel_rfl) (by kernel_rfl) (by kernel_rfl) (fun _ _ _ h => h) (Or.inl ⟨by rfl, ?hb10⟩) (by assumption) ?rb10
                case hb10 => ((intro wz hSw; (try dsimp only at hSw); go_simp); try (with_reducible rfl))
                simp only [Act.put, List.setIfInBounds_toArray, List.set_cons_zero, List.set_cons_succ]
                refine wpAnyH_take (i := 11) (oi := ⟨some 55, .load 62 (.tmp 54), 62, "check.go:86", #[⟨10, .data⟩, ⟨7, .guard⟩], some (7, false)⟩) (v := ?vb11) rfl (by kernel_rfl) (by kernel_rfl) (by kernel_rfl) (fun _ _ _ h => h) (Or.inl ⟨by rfl, ?hb11⟩) (by assumption) ?rb11
                case hb11 => ((intro wz hSw; (try dsimp only at hSw); go_simp); try (with_reducible rfl))
                simp only [Act.put, List.setIfInBounds_toArray, List.set_cons_zero, List.set_cons_succ]
                refine wpAnyH_take (i := 12) (oi := ⟨some 56, .binOp .neq 62 (.tmp 53) (.tmp 55) 62, 4, "check.go:86", #[⟨9, .data⟩, ⟨11, .data⟩, ⟨7, .guard⟩], some (7, false)⟩) (v := ?vb12) rfl (by kernel_rfl) (by kernel_rfl) (by kernel_rfl) (fun _ _ _ h => h) (Or.inl ⟨by rfl, ?hb12⟩) (by assumption) ?rb12
                case hb12 => ((intro wz hSw; (try dsimp only at hSw); go_simp); try (with_reducible rfl))
                simp only [Act.put, List.setIfInBounds_toArray, List.set_cons_zero, List.set_cons_succ]
                refine wpAnyH_take (i := 13) (oi := ⟨some 57, .pick (.tmp 51) (.const (.bool true)) (.tmp 56), 4, "check.go:86", #[⟨7, .data⟩, ⟨12, .data⟩], none⟩) (v := ?vb13) rfl (by kernel_rfl) (by kernel_rfl) (by kernel_rfl) (fun _ _ _ h => h) (Or.inl ⟨by rfl, ?hb13⟩) (by assumption) ?rb13
                case hb13 => ((intro wz hSw; (try dsimp only at hSw); go_simp); try (with_reducible rfl))
                simp only [Act.put, List.setIfInBounds_toArray, List.set_cons_zero, List.set_cons_succ]
                refine wpAnyH_take (i := 14) (oi := ⟨some 58, .move (.tmp 57), 4, "check.go:86", #[⟨13, .data⟩, ⟨7, .chain⟩], none⟩) (v := ?vb14) rfl (by kernel_rfl) (by kernel_rfl) (by kernel_rfl) (fun _ _ _ h => h) (Or.inl ⟨by rfl, ?hb14⟩) (by assumption) ?rb14
                case hb14 => ((intro wz hSw; (try dsimp only at hSw); go_simp); try (with_reducible rfl))
                simp only [Act.put, List.setIfInBounds_toArray, List.set_cons_zero, List.set_cons_succ]
                refine wpAnyH_take (i := 15) (oi := ⟨some 59, .load 152 (.tmp 5), 152, "check.go:86", #[⟨14, .guard⟩], some (14, false)⟩) (v := ?vb15) rfl (by kernel_rfl) (by kernel_rfl) (by kernel_rfl) (fun _ _ _ h => h) (Or.inl ⟨by rfl, ?hb15⟩) (by assumption) ?rb15
                case hb15 => ((intro wz hSw; (try dsimp only at hSw); go_simp); try (with_reducible rfl))
                simp only [Act.put, List.setIfInBounds_toArray, List.set_cons_zero, List.set_cons_succ]
                refine wpAnyH_take (i := 17) (oi := ⟨some 61, .load 152 (.tmp 2), 152, "check.go:86", #[⟨14, .guard⟩], some (14, false)⟩) (v := ?vb17) rfl (by kernel_rfl) (by kernel_rfl) (by kernel_rfl) (fun _ _ _ h => h) (Or.inl ⟨by rfl, ?hb17⟩) (by assumption) ?rb17
                case hb17 => ((intro wz hSw; (try dsimp only at hSw); go_simp); try (with_reducible rfl))
                simp only [Act.put, List.setIfInBounds_toArray, List.set_cons_zero, List.set_cons_succ]
                refine wpAnyH_ready (rs := [16]) (by kernel_rfl) (by simp) ?_
                refine AllReadyH.cons (o := ⟨some 60, .call { callee := .value (.func 106), args := #[.tmp 59], argTypes := #[152] }, 62, "check.go:86", #[⟨15, .data⟩, ⟨14, .chain⟩, ⟨14, .guard⟩], some (14, false)⟩) rfl (fun K hK => ?_) AllReadyH.nil
                go_simp
                go_at_call 106
                with_reducible refine (HT1.out _ (by first | (with_reducible exact (Below.refl _ _).drew) | (with_reducible assumption))).mono ?_
                rintro e wa1 ⟨rfl, hbw1⟩
                go_wp2_with fail
                refine hK.out _ _ (HK.out _ hbw1) (fun hHeld1 => ?_)
                clear hK K hHeld
                refine wpAnyH_ready (rs := [18]) (by kernel_rfl) (by simp) ?_
                refine AllReadyH.cons (o := ⟨some 62, .call { callee := .value (.func 106), args := #[.tmp 61], argTypes := #[152] }, 62, "check.go:86", #[⟨17, .data⟩, ⟨16, .chain⟩, ⟨14, .guard⟩], some (14, false)⟩) rfl (fun K hK => ?_) AllReadyH.nil
                go_simp
                go_at_call 106
                with_reducible refine (HT2.out _ (by first | (with_reducible exact (Below.refl _ _).drew) | (with_reducible assumption))).mono ?_
                rintro e wa2 ⟨rfl, hbw2⟩
                go_wp2_with fail
                refine hK.out _ _ (HK.out _ hbw2) (fun hHeld2 => ?_)
                clear hK K hHeld1
                refine wpAnyH_take (i := 19) (oi := ⟨some 63, .binOp .neq 62 (.tmp 60) (.tmp 62) 62, 4, "check.go:86", #[⟨16, .data⟩, ⟨18, .data⟩, ⟨14, .guard⟩], some (14, false)⟩) (v := ?vb19) rfl (by kernel_rfl) (by kernel_rfl) (by kernel_rfl) (fun _ _ _ h => h) (Or.inl ⟨by rfl, ?hb19⟩) (by assumption) ?rb19
                case hb19 => ((intro wz hSw; (try dsimp only at hSw); go_simp); try (with_reducible rfl))
                simp only [Act.put, List.setIfInBounds_toArray, List.set_cons_zero, List.set_cons_succ]
                refine wpAnyH_take (i := 20) (oi := ⟨some 64, .pick (.tmp 58) (.const (.bool true)) (.tmp 63), 4, "check.go:86", #[⟨14, .data⟩, ⟨19, .data⟩], none⟩) (v := ?vb20) rfl (by kernel_rfl) (by kernel_rfl) (by kernel_rfl) (fun _ _ _ h => h) (Or.inl ⟨by rfl, ?hb20⟩) (by assumption) ?rb20
                case hb20 => ((intro wz hSw; (try dsimp only at hSw); go_simp); try (with_reducible rfl))
                simp only [Act.put, List.setIfInBounds_toArray, List.set_cons_zero, List.set_cons_succ]
                refine wpAnyH_take (i := 21) (oi := ⟨some 65, .move (.tmp 64), 4, "check.go:86", #[⟨20, .data⟩, ⟨18, .chain⟩], none⟩) (v := ?vb21) rfl (by kernel_rfl) (by kernel_rfl) (by kernel_rfl) (fun _ _ _ h => h) (Or.inl ⟨by rfl, ?hb21⟩) (by assumption) ?rb21
                case hb21 => ((intro wz hSw; (try dsimp only at hSw); go_simp); try (with_reducible rfl))
                simp only [Act.put, List.setIfInBounds_toArray, List.set_cons_zero, List.set_cons_succ]
                refine wpAnyH_take (i := 22) (oi := ⟨some 66, .load 152 (.tmp 6), 152, "check.go:86", #[⟨21, .guard⟩], some (21, false)⟩) (v := ?vb22) rfl (by kernel_rfl) (by kernel_rfl) (by kernel_rfl) (fun _ _ _ h => h) (Or.inl ⟨by rfl, ?hb22⟩) (by assumption) ?rb22
                case hb22 => ((intro wz hSw; (try dsimp only at hSw); go_simp); try (with_reducible rfl))
                simp only [Act.put, List.setIfInBounds_toArray, List.set_cons_zero, List.set_cons_succ]
                refine wpAnyH_take (i := 24) (oi := ⟨some 68, .load 152 (.tmp 2), 152, "check.go:86", #[⟨21, .guard⟩], some (21, false)⟩) (v := ?vb24) rfl (by kernel_rfl) (by kernel_rfl) (by kernel_rfl) (fun _ _ _ h => h) (Or.inl ⟨by rfl, ?hb24⟩) (by assumption) ?rb24
                case hb24 => ((intro wz hSw; (try dsimp only at hSw); go_simp); try (with_reducible rfl))
                simp only [Act.put, List.setIfInBounds_toArray, List.set_cons_zero, List.set_cons_succ]
                refine wpAnyH_ready (rs := [23]) (by kernel_rfl) (by simp) ?_
                refine AllReadyH.cons (o := ⟨some 67, .call { callee := .value (.func 107), args := #[.tmp 66], argTypes := #[152] }, 62, "check.go:86", #[⟨22, .data⟩, ⟨21, .chain⟩, ⟨21, .guard⟩], some (21, false)⟩) rfl (fun K hK => ?_) AllReadyH.nil
                go_simp
                go_at_call 107
                with_reducible refine (HH1.out _ (by first | (with_reducible exact (Below.refl _ _).drew) | (with_reducible assumption))).mono ?_
                rintro e wa3 ⟨rfl, hbw3⟩
                go_wp2_with fail
                refine hK.out _ _ (HK.out _ hbw3) (fun hHeld3 => ?_)
                clear hK K hHeld2
                refine wpAnyH_ready (rs := [25]) (by kernel_rfl) (by simp) ?_
                refine AllReadyH.cons (o := ⟨some 69, .call { callee := .value (.func 107), args := #[.tmp 68], argTypes := #[152] }, 62, "check.go:86", #[⟨24, .data⟩, ⟨23, .chain⟩, ⟨21, .guard⟩], some (21, false)⟩) rfl (fun K hK => ?_) AllReadyH.nil
                go_simp
                go_at_call 107
                with_reducible refine (HH2.out _ (by first | (with_reducible exact (Below.refl _ _).drew) | (with_reducible assumption))).mono ?_
                rintro e wa4 ⟨rfl, hbw4⟩
                go_wp2_with fail
                refine hK.out _ _ (HK.out _ hbw4) (fun hHeld4 => ?_)
                clear hK K hHeld3
                refine wpAnyH_take (i := 26) (oi := ⟨some 70, .binOp .neq 62 (.tmp 67) (.tmp 69) 62, 4, "check.go:86", #[⟨23, .data⟩, ⟨25, .data⟩, ⟨21, .guard⟩], some (21, false)⟩) (v := ?vb26) rfl (by kernel_rfl) (by kernel_rfl) (by kernel_rfl) (fun _ _ _ h => h) (Or.inl ⟨by rfl, ?hb26⟩) (by assumption) ?rb26
                case hb26 => ((intro wz hSw; (try dsimp only at hSw); go_simp); try (with_reducible rfl))
                simp only [Act.put, List.setIfInBounds_toArray, List.set_cons_zero, List.set_cons_succ]
                refine wpAnyH_take (i := 27) (oi := ⟨some 71, .pick (.tmp 65) (.const (.bool true)) (.tmp 70), 4, "check.go:86", #[⟨21, .data⟩, ⟨26, .data⟩], none⟩) (v := ?vb27) rfl (by kernel_rfl) (by kernel_rfl) (by kernel_rfl) (fun _ _ _ h => h) (Or.inl ⟨by rfl, ?hb27⟩) (by assumption) ?rb27
                case hb27 => ((intro wz hSw; (try dsimp only at hSw); go_simp); try (with_reducible rfl))
                simp only [Act.put, List.setIfInBounds_toArray, List.set_cons_zero, List.set_cons_succ]
                refine wpAnyH_done (by kernel_rfl) ?_ _
                go_wp2_with fail
                go_meet
                exact ⟨rfl, hbw4⟩
            · have d4 : ((L.tail : Int) != (s0.tail : Int)) = true := by simp; omega
              obtain rfl : bad = true := by rw [HBD.out]; simp [hta]
              clear hrk hta
              refine wp_region_held_drew (S := fun w' => (w'.cell? ⟨w.heap.size, 0, none⟩ = some (.int .u32 (hd : Int)) ∧ w'.cell? ⟨w.heap.size, 1, none⟩ = some (.int .u64 (wt : Int)) ∧ w'.cell? ⟨w.heap.size, 2, none⟩ = some (.int .u32 (lf : Int)) ∧ w'.cell? ⟨w.heap.size, 3, none⟩ = some (.int .u32 (rt : Int)) ∧ w'.cell? ⟨w.heap.size, 4, none⟩ = some (.int .u32 (rk : Int)) ∧ w'.cell? ⟨w.heap.size, 5, none⟩ = some (.bool up)) ∧ (w'.cell? ⟨p, 0, none⟩ = some (.int .u32 (L.lk.hd : Int)) ∧ w'.cell? ⟨p, 1, none⟩ = some (.int .u64 (L.lk.wt : Int)) ∧ w'.cell? ⟨p, 2, none⟩ = some (.int .u32 (L.lk.lf : Int)) ∧ w'.cell? ⟨p, 3, none⟩ = some (.int .u32 (L.lk.rt : Int)) ∧ w'.cell? ⟨p, 4, none⟩ = some (.int .u32 (L.rk : Int)) ∧ w'.cell? ⟨p, 5, none⟩ = some (.bool false)) ∧ (w'.cell? ⟨q, 0, none⟩ = some (.int .u32 (R.lk.hd : Int)) ∧ w'.cell? ⟨q, 1, none⟩ = some (.int .u64 (R.lk.wt : Int)) ∧ w'.cell? ⟨q, 2, none⟩ = some (.int .u32 (R.lk.lf : Int)) ∧ w'.cell? ⟨q, 3, none⟩ = some (.int .u32 (R.lk.rt : Int)) ∧ w'.cell? ⟨q, 4, none⟩ = some (.int .u32 (R.rk : Int)) ∧ w'.cell? ⟨q, 5, none⟩ = some (.bool true))) (by kernel_rfl) (HK.out _ (Below.refl _ _).drew) (fun hHeld => ?_)
              refine wpAnyH_take (i := 0) (oi := ⟨some 44, .fieldAddr 152 (.tmp 5) 2, 0, "check.go:86", #[], none⟩) (v := ?vc0) rfl (by kernel_rfl) (by kernel_rfl) (by kernel_rfl) (fun _ _ _ h => h) (Or.inl ⟨by rfl, ?hc0⟩) (by assumption) ?rc0
              case hc0 => ((intro wz hSw; (try dsimp only at hSw); go_simp); try (with_reducible rfl))
              simp only [Act.put, List.setIfInBounds_toArray, List.set_cons_zero, List.set_cons_succ]
              refine wpAnyH_take (i := 1) (oi := ⟨some 45, .load 4 (.tmp 44), 4, "check.go:86", #[⟨0, .data⟩], none⟩) (v := ?vc1) rfl (by kernel_rfl) (by kernel_rfl) (by kernel_rfl) (fun _ _ _ h => h) (Or.inl ⟨by rfl, ?hc1⟩) (by assumption) ?rc1
              case hc1 => ((intro wz hSw; (try dsimp only at hSw); go_simp); try (with_reducible rfl))
              simp only [Act.put, List.setIfInBounds_toArray, List.set_cons_zero, List.set_cons_succ]
              refine wpAnyH_take (i := 2) (oi := ⟨some 46, .move (.tmp 45), 4, "check.go:86", #[⟨1, .data⟩], none⟩) (v := ?vc2) rfl (by kernel_rfl) (by kernel_rfl) (by kernel_rfl) (fun _ _ _ h => h) (Or.inl ⟨by rfl, ?hc2⟩) (by assumption) ?rc2
              case hc2 => ((intro wz hSw; (try dsimp only at hSw); go_simp); try (with_reducible rfl))
              simp only [Act.put, List.setIfInBounds_toArray, List.set_cons_zero, List.set_cons_succ]
              refine wpAnyH_take (i := 3) (oi := ⟨some 47, .fieldAddr 152 (.tmp 6) 2, 0, "check.go:86", #[⟨2, .guard⟩], some (2, false)⟩) (v := ?vc3) rfl (by kernel_rfl) (by kernel_rfl) (by kernel_rfl) (fun _ _ _ h => h) (Or.inl ⟨by rfl, ?hc3⟩) (by assumption) ?rc3
              case hc3 => ((intro wz hSw; (try dsimp only at hSw); go_simp); try (with_reducible rfl))
              simp only [Act.put, List.setIfInBounds_toArray, List.set_cons_zero, List.set_cons_succ]
              refine wpAnyH_take (i := 4) (oi := ⟨some 48, .load 4 (.tmp 47), 4, "check.go:86", #[⟨3, .data⟩, ⟨2, .guard⟩], some (2, false)⟩) (v := ?vc4) rfl (by kernel_rfl) (by kernel_rfl) (by kernel_rfl) (fun _ _ _ h => h) (Or.inl ⟨by rfl, ?hc4⟩) (by assumption) ?rc4
              case hc4 => ((intro wz hSw; (try dsimp only at hSw); go_simp); try (with_reducible rfl))
              simp only [Act.put, List.setIfInBounds_toArray, List.set_cons_zero, List.set_cons_succ]
              refine wpAnyH_take (i := 5) (oi := ⟨some 49, .unOp .not 4 (.tmp 48), 4, "check.go:86", #[⟨4, .data⟩, ⟨2, .guard⟩], some (2, false)⟩) (v := ?vc5) rfl (by kernel_rfl) (by kernel_rfl) (by kernel_rfl) (fun _ _ _ h => h) (Or.inl ⟨by rfl, ?hc5⟩) (by assumption) ?rc5
              case hc5 => ((intro wz hSw; (try dsimp only at hSw); go_simp); try (with_reducible rfl))
              simp only [Act.put, List.setIfInBounds_toArray, List.set_cons_zero, List.set_cons_succ]
              refine wpAnyH_take (i := 6) (oi := ⟨some 50, .pick (.tmp 46) (.const (.bool true)) (.tmp 49), 4, "check.go:86", #[⟨2, .data⟩, ⟨5, .data⟩], none⟩) (v := ?vc6) rfl (by kernel_rfl) (by kernel_rfl) (by kernel_rfl) (fun _ _ _ h => h) (Or.inl ⟨by rfl, ?hc6⟩) (by assumption) ?rc6
              case hc6 => ((intro wz hSw; (try dsimp only at hSw); go_simp); try (with_reducible rfl))
              simp only [Act.put, List.setIfInBounds_toArray, List.set_cons_zero, List.set_cons_succ]
              refine wpAnyH_take (i := 7) (oi := ⟨some 51, .move (.tmp 50), 4, "check.go:86", #[⟨6, .data⟩, ⟨2, .chain⟩], none⟩) (v := ?vc7) rfl (by kernel_rfl) (by kernel_rfl) (by kernel_rfl) (fun _ _ _ h => h) (Or.inl ⟨by rfl, ?hc7⟩) (by assumption) ?rc7
              case hc7 => ((intro wz hSw; (try dsimp only at hSw); go_simp); try (with_reducible rfl))
              simp only [Act.put, List.setIfInBounds_toArray, List.set_cons_zero, List.set_cons_succ]
              refine wpAnyH_take (i := 8) (oi := ⟨some 52, .fieldAddr 152 (.tmp 5) 1, 0, "check.go:86", #[⟨7, .guard⟩], some (7, false)⟩) (v := ?vc8) rfl (by kernel_rfl) (by kernel_rfl) (by kernel_rfl) (fun _ _ _ h => h) (Or.inl ⟨by rfl, ?hc8⟩) (by assumption) ?rc8
              case hc8 => ((intro wz hSw; (try dsimp only at hSw); go_simp); try (with_reducible rfl))
              simp only [Act.put, List.setIfInBounds_toArray, List.set_cons_zero, List.set_cons_succ]
              refine wpAnyH_take (i := 9) (oi := ⟨some 53, .load 62 (.tmp 52), 62, "check.go:86", #[⟨8, .data⟩, ⟨7, .guard⟩], some (7, false)⟩) (v := ?vc9) rfl (by kernel_rfl) (by kernel_rfl) (by kernel_rfl) (fun _ _ _ h => h) (Or.inl ⟨by rfl, ?hc9⟩) (by assumption) ?rc9
              case hc9 => ((intro wz hSw; (try dsimp only at hSw); go_simp); try (with_reducible rfl))
              simp only [Act.put, List.setIfInBounds_toArray, List.set_cons_zero, List.set_cons_succ]
              refine wpAnyH_take (i := 10) (oi := ⟨some 54, .fieldAddr 152 (.tmp 6) 1, 0, "check.go:86", #[⟨7, .guard⟩], some (7, false)⟩) (v := ?vc10) rfl (by kernel_rfl) (by kernel_rfl) (by kernel_rfl) (fun _ _ _ h => h) (Or.inl ⟨by rfl, ?hc10⟩) (by assumption) ?rc10
              case hc10 => ((intro wz hSw; (try dsimp only at hSw); go_simp); try (with_reducible rfl))
              simp only [Act.put, List.setIfInBounds_toArray, List.set_cons_zero, List.set_cons_succ]
              refine wpAnyH_take (i := 11) (oi := ⟨some 55, .load 62 (.tmp 54), 62, "check.go:86", #[⟨10, .data⟩, ⟨7, .guard⟩], some (7, false)⟩) (v := ?vc11) rfl (by kernel_rfl) (by kernel_rfl) (by kernel_rfl) (fun _ _ _ h => h) (Or.inl ⟨by rfl, ?hc11⟩) (by assumption) ?rc11
              case hc11 => ((intro wz hSw; (try dsimp only at hSw); go_simp); try (with_reducible rfl))
              simp only [Act.put, List.setIfInBounds_toArray, List.set_cons_zero, List.set_cons_succ]
              refine wpAnyH_take (i := 12) (oi := ⟨some 56, .binOp .neq 62 (.tmp 53) (.tmp 55) 62, 4, "check.go:86", #[⟨9, .data⟩, ⟨11, .data⟩, ⟨7, .guard⟩], some (7, false)⟩) (v := ?vc12) rfl (by kernel_rfl) (by kernel_rfl) (by kernel_rfl) (fun _ _ _ h => h) (Or.inl ⟨by rfl, ?hc12⟩) (by assumption) ?rc12
              case hc12 => ((intro wz hSw; (try dsimp only at hSw); go_simp); try (with_reducible rfl))
              simp only [Act.put, List.setIfInBounds_toArray, List.set_cons_zero, List.set_cons_succ]
              refine wpAnyH_take (i := 13) (oi := ⟨some 57, .pick (.tmp 51) (.const (.bool true)) (.tmp 56), 4, "check.go:86", #[⟨7, .data⟩, ⟨12, .data⟩], none⟩) (v := ?vc13) rfl (by kernel_rfl) (by kernel_rfl) (by kernel_rfl) (fun _ _ _ h => h) (Or.inl ⟨by rfl, ?hc13⟩) (by assumption) ?rc13
              case hc13 => ((intro wz hSw; (try dsimp only at hSw); go_simp); try (with_reducible rfl))
              simp only [Act.put, List.setIfInBounds_toArray, List.set_cons_zero, List.set_cons_succ]
              refine wpAnyH_take (i := 14) (oi := ⟨some 58, .move (.tmp 57), 4, "check.go:86", #[⟨13, .data⟩, ⟨7, .chain⟩], none⟩) (v := ?vc14) rfl (by kernel_rfl) (by kernel_rfl) (by kernel_rfl) (fun _ _ _ h => h) (Or.inl ⟨by rfl, ?hc14⟩) (by assumption) ?rc14
              case hc14 => ((intro wz hSw; (try dsimp only at hSw); go_simp); try (with_reducible rfl))
              simp only [Act.put, List.setIfInBounds_toArray, List.set_cons_zero, List.set_cons_succ]
              refine wpAnyH_take (i := 15) (oi := ⟨some 59, .load 152 (.tmp 5), 152, "check.go:86", #[⟨14, .guard⟩], some (14, false)⟩) (v := ?vc15) rfl (by kernel_rfl) (by kernel_rfl) (by kernel_rfl) (fun _ _ _ h => h) (Or.inl ⟨by rfl, ?hc15⟩) (by assumption) ?rc15
              case hc15 => ((intro wz hSw; (try dsimp only at hSw); go_simp); try (with_reducible rfl))
              simp only [Act.put, List.setIfInBounds_toArray, List.set_cons_zero, List.set_cons_succ]
              refine wpAnyH_take (i := 17) (oi := ⟨some 61, .load 152 (.tmp 2), 152, "check.go:86", #[⟨14, .guard⟩], some (14, false)⟩) (v := ?vc17) rfl (by kernel_rfl) (by kernel_rfl) (by kernel_rfl) (fun _ _ _ h => h) (Or.inl ⟨by rfl, ?hc17⟩) (by assumption) ?rc17
              case hc17 => ((intro wz hSw; (try dsimp only at hSw); go_simp); try (with_reducible rfl))
              simp only [Act.put, List.setIfInBounds_toArray, List.set_cons_zero, List.set_cons_succ]
              refine wpAnyH_ready (rs := [16]) (by kernel_rfl) (by simp) ?_
              refine AllReadyH.cons (o := ⟨some 60, .call { callee := .value (.func 106), args := #[.tmp 59], argTypes := #[152] }, 62, "check.go:86", #[⟨15, .data⟩, ⟨14, .chain⟩, ⟨14, .guard⟩], some (14, false)⟩) rfl (fun K hK => ?_) AllReadyH.nil
              go_simp
              go_at_call 106
              with_reducible refine (HT1.out _ (by first | (with_reducible exact (Below.refl _ _).drew) | (with_reducible assumption))).mono ?_
              rintro e wa1 ⟨rfl, hbw1⟩
              go_wp2_with fail
              refine hK.out _ _ (HK.out _ hbw1) (fun hHeld1 => ?_)
              clear hK K hHeld
              refine wpAnyH_ready (rs := [18]) (by kernel_rfl) (by simp) ?_
              refine AllReadyH.cons (o := ⟨some 62, .call { callee := .value (.func 106), args := #[.tmp 61], argTypes := #[152] }, 62, "check.go:86", #[⟨17, .data⟩, ⟨16, .chain⟩, ⟨14, .guard⟩], some (14, false)⟩) rfl (fun K hK => ?_) AllReadyH.nil
              go_simp
              go_at_call 106
              with_reducible refine (HT2.out _ (by first | (with_reducible exact (Below.refl _ _).drew) | (with_reducible assumption))).mono ?_
              rintro e wa2 ⟨rfl, hbw2⟩
              go_wp2_with fail
              refine hK.out _ _ (HK.out _ hbw2) (fun hHeld2 => ?_)
              clear hK K hHeld1
              refine wpAnyH_take (i := 19) (oi := ⟨some 63, .binOp .neq 62 (.tmp 60) (.tmp 62) 62, 4, "check.go:86", #[⟨16, .data⟩, ⟨18, .data⟩, ⟨14, .guard⟩], some (14, false)⟩) (v := ?vc19) rfl (by kernel_rfl) (by kernel_rfl) (by kernel_rfl) (fun _ _ _ h => h) (Or.inl ⟨by rfl, ?hc19⟩) (by assumption) ?rc19
              case hc19 => ((intro wz hSw; (try dsimp only at hSw); go_simp); try (with_reducible rfl))
              simp only [Act.put, List.setIfInBounds_toArray, List.set_cons_zero, List.set_cons_succ]
              refine wpAnyH_take (i := 20) (oi := ⟨some 64, .pick (.tmp 58) (.const (.bool true)) (.tmp 63), 4, "check.go:86", #[⟨14, .data⟩, ⟨19, .data⟩], none⟩) (v := ?vc20) rfl (by kernel_rfl) (by kernel_rfl) (by kernel_rfl) (fun _ _ _ h => h) (Or.inl ⟨by rfl, ?hc20⟩) (by assumption) ?rc20
              case hc20 => ((intro wz hSw; (try dsimp only at hSw); go_simp); try (with_reducible rfl))
              simp only [Act.put, List.setIfInBounds_toArray, List.set_cons_zero, List.set_cons_succ]
              refine wpAnyH_take (i := 21) (oi := ⟨some 65, .move (.tmp 64), 4, "check.go:86", #[⟨20, .data⟩, ⟨18, .chain⟩], none⟩) (v := ?vc21) rfl (by kernel_rfl) (by kernel_rfl) (by kernel_rfl) (fun _ _ _ h => h) (Or.inl ⟨by rfl, ?hc21⟩) (by assumption) ?rc21
              case hc21 => ((intro wz hSw; (try dsimp only at hSw); go_simp); try (with_reducible rfl))
              simp only [Act.put, List.setIfInBounds_toArray, List.set_cons_zero, List.set_cons_succ]
              refine wpAnyH_take (i := 22) (oi := ⟨some 66, .load 152 (.tmp 6), 152, "check.go:86", #[⟨21, .guard⟩], some (21, false)⟩) (v := undef) rfl (by kernel_rfl) (by kernel_rfl) (by kernel_rfl) (fun _ _ _ h => h) (Or.inr ⟨by rfl, rfl⟩) (by assumption) ?_
              simp only [Act.put, List.setIfInBounds_toArray, List.set_cons_zero, List.set_cons_succ]
              refine wpAnyH_take (i := 23) (oi := ⟨some 67, .call { callee := .value (.func 107), args := #[.tmp 66], argTypes := #[152] }, 62, "check.go:86", #[⟨22, .data⟩, ⟨21, .chain⟩, ⟨21, .guard⟩], some (21, false)⟩) (v := undef) rfl (by kernel_rfl) (by kernel_rfl) (by kernel_rfl) (fun _ _ _ h => h) (Or.inr ⟨by rfl, rfl⟩) (by assumption) ?_
              simp only [Act.put, List.setIfInBounds_toArray, List.set_cons_zero, List.set_cons_succ]
              refine wpAnyH_take (i := 24) (oi := ⟨some 68, .load 152 (.tmp 2), 152, "check.go:86", #[⟨21, .guard⟩], some (21, false)⟩) (v := undef) rfl (by kernel_rfl) (by kernel_rfl) (by kernel_rfl) (fun _ _ _ h => h) (Or.inr ⟨by rfl, rfl⟩) (by assumption) ?_
              simp only [Act.put, List.setIfInBounds_toArray, List.set_cons_zero, List.set_cons_succ]
              refine wpAnyH_take (i := 25) (oi := ⟨some 69, .call { callee := .value (.func 107), args := #[.tmp 68], argTypes := #[152] }, 62, "check.go:86", #[⟨24, .data⟩, ⟨23, .chain⟩, ⟨21, .guard⟩], some (21, false)⟩) (v := undef) rfl (by kernel_rfl) (by kernel_rfl) (by kernel_rfl) (fun _ _ _ h => h) (Or.inr ⟨by rfl, rfl⟩) (by assumption) ?_
              simp only [Act.put, List.setIfInBounds_toArray, List.set_cons_zero, List.set_cons_succ]
              refine wpAnyH_take (i := 26) (oi := ⟨some 70, .binOp .neq 62 (.tmp 67) (.tmp 69) 62, 4, "check.go:86", #[⟨23, .data⟩, ⟨25, .data⟩, ⟨21, .guard⟩], some (21, false)⟩) (v := undef) rfl (by kernel_rfl) (by kernel_rfl) (by kernel_rfl) (fun _ _ _ h => h) (Or.inr ⟨by rfl, rfl⟩) (by assumption) ?_
              simp only [Act.put, List.setIfInBounds_toArray, List.set_cons_zero, List.set_cons_succ]
              refine wpAnyH_take (i := 27) (oi := ⟨some 71, .pick (.tmp 65) (.const (.bool true)) (.tmp 70), 4, "check.go:86", #[⟨21, .data⟩, ⟨26, .data⟩], none⟩) (v := ?vc27) rfl (by kernel_rfl) (by kernel_rfl) (by kernel_rfl) (fun _ _ _ h => h) (Or.inl ⟨by rfl, ?hc27⟩) (by assumption) ?rc27
              case hc27 => ((intro wz hSw; (try dsimp only at hSw); go_simp); try (with_reducible rfl))
              simp only [Act.put, List.setIfInBounds_toArray, List.set_cons_zero, List.set_cons_succ]
              refine wpAnyH_done (by kernel_rfl) ?_ _
              go_wp2_with fail
              go_meet
              exact ⟨rfl, hbw2⟩
          · have d3 : ((L.rk : Int) != (R.rk : Int)) = true := by simp; omega
            obtain rfl : bad = true := by rw [HBD.out]; simp [hrk]
            clear hrk
            go_quiet (fail)
            go_wp2_with fail
            go_meet
            exact ⟨rfl, below_drewN (Below.refl _ _) _⟩
    case rest =>
      obtain ⟨rfl, hbz⟩ := hcut
      have HBZ : Hid (Below w.heap.size w wc) := HB.out.trans (hbz.mono HB2.out)
      obtain ⟨⟨k0, k1, k2, k3, k4, k5⟩, ⟨k6, k7, k8, k9, m0, m1⟩, m2, m3, m4, m5, m6, m7⟩ := HK.out wc hbz
      clear hbz HK c0 c1 c2 c3 c4 c5 a0 a1 a2 a3 a4 a5 z0 z1 z2 z3 z4 z5
      cases bad
      case true =>
        have HQ : Hid (mk = 14) := by
          show _ = _
          rw [HM.out, if_pos (of_decide_eq_true HBD.out.symm)]
        go_wp2
        go_ret
        exact ⟨by rw [HQ.out]; rfl, HBZ.out⟩
      case false =>
        rw [if_neg (of_decide_eq_false HBD.out.symm)] at HM
        have oL := HLR.out.1.1.2.1
        have oR := HLR.out.2.1.2.1
        obtain ⟨x, hx⟩ : ∃ x, L.lk.wt = x := ⟨_, rfl⟩
        obtain ⟨y, hy⟩ : ∃ y, R.lk.wt = y := ⟨_, rfl⟩
        rw [hx] at HM k7 oL
        rw [hy] at HM m3 oR
        clear hx hy
        rcases Nat.lt_or_ge wt x with g1 | g1
        · have g2 : (wt : Int) < (x : Int) := by omega
          rcases Nat.lt_or_ge x y with g3 | g3
          · have g4 : (x : Int) < (y : Int) := by omega
            have HMX : Hid (max wt (max x y) = y) := by show _ = _; omega
            by_cases hmx : 140737488355328 < y
            · have d6 : decide ((140737488355328 : Int) < (y : Int)) = true := by simp; omega
              have d7 : (140737488355328 : Int) < (y : Int) := by omega
              have HQ : Hid (mk = 8) := by show _ = _; rw [HM.out, HMX.out, if_pos (Or.inl hmx)]
              clear hmx
              go_wp2
              go_ret
              exact ⟨by rw [HQ.out]; rfl, HBZ.out⟩
            · have d6 : decide ((140737488355328 : Int) < (y : Int)) = false := by simp; omega
              have d7 : ¬ (140737488355328 : Int) < (y : Int) := by omega
              have hu : IntKind.u64.wrap ((x : Int) + (y : Int)) = (x : Int) + (y : Int) := by rw [IntKind.wrap_u64]; omega
              by_cases heq : wt = x + y
              · have d8 : ((wt : Int) != (x : Int) + (y : Int)) = false := by simp; omega
                have HQ : Hid (mk = 0) := by show _ = _; rw [HM.out, HMX.out, if_neg (by simp only [not_or]; exact ⟨hmx, fun h => h heq⟩)]
                clear hmx heq
                go_wp2
                go_ret
                exact ⟨by rw [HQ.out]; rfl, HBZ.out⟩
              · have d8 : ((wt : Int) != (x : Int) + (y : Int)) = true := by simp; omega
                have HQ : Hid (mk = 8) := by show _ = _; rw [HM.out, HMX.out, if_pos (Or.inr heq)]
                clear hmx heq
                go_wp2
                go_ret
                exact ⟨by rw [HQ.out]; rfl, HBZ.out⟩
          · have g4 : ¬ (x : Int) < (y : Int) := by omega
            have HMX : Hid (max wt (max x y) = x) := by show _ = _; omega
            by_cases hmx : 140737488355328 < x
            · have d6 : decide ((140737488355328 : Int) < (x : Int)) = true := by simp; omega
              have d7 : (140737488355328 : Int) < (x : Int) := by omega
              have HQ : Hid (mk = 8) := by show _ = _; rw [HM.out, HMX.out, if_pos (Or.inl hmx)]
              clear hmx
              go_wp2
              go_ret
              exact ⟨by rw [HQ.out]; rfl, HBZ.out⟩
            · have d6 : decide ((140737488355328 : Int) < (x : Int)) = false := by simp; omega
              have d7 : ¬ (140737488355328 : Int) < (x : Int) := by omega
              have hu : IntKind.u64.wrap ((x : Int) + (y : Int)) = (x : Int) + (y : Int) := by rw [IntKind.wrap_u64]; omega
              by_cases heq : wt = x + y
              · have d8 : ((wt : Int) != (x : Int) + (y : Int)) = false := by simp; omega
                have HQ : Hid (mk = 0) := by show _ = _; rw [HM.out, HMX.out, if_neg (by simp only [not_or]; exact ⟨hmx, fun h => h heq⟩)]
                clear hmx heq
                go_wp2
                go_ret
                exact ⟨by rw [HQ.out]; rfl, HBZ.out⟩
              · have d8 : ((wt : Int) != (x : Int) + (y : Int)) = true := by simp; omega
                have HQ : Hid (mk = 8) := by show _ = _; rw [HM.out, HMX.out, if_pos (Or.inr heq)]
                clear hmx heq
                go_wp2
                go_ret
                exact ⟨by rw [HQ.out]; rfl, HBZ.out⟩
        · have g2 : ¬ (wt : Int) < (x : Int) := by omega
          rcases Nat.lt_or_ge wt y with g3 | g3
          · have g4 : (wt : Int) < (y : Int) := by omega
            have HMX : Hid (max wt (max x y) = y) := by show _ = _; omega
            by_cases hmx : 140737488355328 < y
            · have d6 : decide ((140737488355328 : Int) < (y : Int)) = true := by simp; omega
              have d7 : (140737488355328 : Int) < (y : Int) := by omega
              have HQ : Hid (mk = 8) := by show _ = _; rw [HM.out, HMX.out, if_pos (Or.inl hmx)]
              clear hmx
              go_wp2
              go_ret
              exact ⟨by rw [HQ.out]; rfl, HBZ.out⟩
            · have d6 : decide ((140737488355328 : Int) < (y : Int)) = false := by simp; omega
              have d7 : ¬ (140737488355328 : Int) < (y : Int) := by omega
              have hu : IntKind.u64.wrap ((x : Int) + (y : Int)) = (x : Int) + (y : Int) := by rw [IntKind.wrap_u64]; omega
              by_cases heq : wt = x + y
              · have d8 : ((wt : Int) != (x : Int) + (y : Int)) = false := by simp; omega
                have HQ : Hid (mk = 0) := by show _ = _; rw [HM.out, HMX.out, if_neg (by simp only [not_or]; exact ⟨hmx, fun h => h heq⟩)]
                clear hmx heq
                go_wp2
                go_ret
                exact ⟨by rw [HQ.out]; rfl, HBZ.out⟩
              · have d8 : ((wt : Int) != (x : Int) + (y : Int)) = true := by simp; omega
                have HQ : Hid (mk = 8) := by show _ = _; rw [HM.out, HMX.out, if_pos (Or.inr heq)]
                clear hmx heq
                go_wp2
                go_ret
                exact ⟨by rw [HQ.out]; rfl, HBZ.out⟩
          · have g4 : ¬ (wt : Int) < (y : Int) := by omega
            have HMX : Hid (max wt (max x y) = wt) := by show _ = _; omega
            by_cases hmx : 140737488355328 < wt
            · have d6 : decide ((140737488355328 : Int) < (wt : Int)) = true := by simp; omega
              have d7 : (140737488355328 : Int) < (wt : Int) := by omega
              have HQ : Hid (mk = 8) := by show _ = _; rw [HM.out, HMX.out, if_pos (Or.inl hmx)]
              clear hmx
              go_wp2
              go_ret
              exact ⟨by rw [HQ.out]; rfl, HBZ.out⟩
            · have d6 : decide ((140737488355328 : Int) < (wt : Int)) = false := by simp; omega
              have d7 : ¬ (140737488355328 : Int) < (wt : Int) := by omega
              have hu : IntKind.u64.wrap ((x : Int) + (y : Int)) = (x : Int) + (y : Int) := by rw [IntKind.wrap_u64]; omega
              by_cases heq : wt = x + y
              · have d8 : ((wt : Int) != (x : Int) + (y : Int)) = false := by simp; omega
                have HQ : Hid (mk = 0) := by show _ = _; rw [HM.out, HMX.out, if_neg (by simp only [not_or]; exact ⟨hmx, fun h => h heq⟩)]
                clear hmx heq
                go_wp2
                go_ret
                exact ⟨by rw [HQ.out]; rfl, HBZ.out⟩
              · have d8 : ((wt : Int) != (x : Int) + (y : Int)) = true := by simp; omega
                have HQ : Hid (mk = 8) := by show _ = _; rw [HM.out, HMX.out, if_pos (Or.inr heq)]
                clear hmx heq
                go_wp2
                go_ret
                exact ⟨by rw [HQ.out]; rfl, HBZ.out⟩
theorem making_calls (s : Sd) (ao : Option Addr) (n cap : Nat) (all : List Sd) (w : World) (hs : s.ok) (hA : HasSs w (.slice ao n cap) all) (hn : all.length = n) :
    Calls Tryz.prog 87 #[svl s, .slice ao n cap] w fun e w' => e = .returned (numV (making s all)) ∧ Below w.heap.size w w' := by
  cases hp : s.lk.plain
  · exact making_short s ao n cap all w hs hp hA hn
  · exact making_plain s _ ⟨_, _, _, rfl⟩ all w hp
end Go.Proofs.YtodilocmfdeehaaGreatDoor.Hi
